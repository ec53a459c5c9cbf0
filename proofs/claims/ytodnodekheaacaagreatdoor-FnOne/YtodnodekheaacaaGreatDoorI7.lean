import Derived.Test.YtodnodekheaacaaGreatDoorI6
import Derived.Shelf.Abstract
import Derived.Deep.RegionHeld3
import Derived.Deep.AppendLies
import Derived.Deep.Strs
import Derived.Test.YtodnodekheaacaaGreatDoorI1
import Derived.Defers
import Derived.Recover
import Derived.Deep.MidRow
import Derived.Test.YtodnodekheaacaaGreatDoorI5
import Derived.Test.YtodnodekheaacaaGreatDoorRows
import Derived.Test.YtodnodekheaacaaGreatDoorI2
import Derived.Deep.Matrix
set_option maxHeartbeats 8000000
set_option maxRecDepth 2000
open Go.ChangeShapes Go.WideShapes Go.ChangeAt Go.RowKit
namespace Go.Proofs.YtodnodekheaacaaGreatDoor
theorem below_of_drew {w w1 : World} (h : Below w.drew.heap.size w.drew w1) : Below w.heap.size w w1 := ⟨h.os, h.tape, h.output, h.size, h.block⟩
theorem own_shape {w : World} {B e s : Nat} {a : Option Addr} {n cap n' : Nat} {xs : List Value} (h : w.ownsRow B e s (.slice a n cap) n' xs) :
  (a = none ∧ n = 0 ∧ cap = 0) ∨ ∃ g cur, a = some ⟨g, 0, none⟩ ∧ B ≤ g ∧ w.heap[g]? = some (.cells cur e (0, 0)) ∧ n ≤ cap := by
 rcases h.2 with ⟨h', _⟩ | ⟨g, cap', cur, h', hb, hg, hn, _⟩
 ·cases h'; exact .inl ⟨rfl, rfl, rfl⟩
 ·cases h'; exact .inr ⟨g, cur, rfl, hb, hg, hn⟩
theorem own_kept {w w' : World} {B e s n : Nat} {a : Option Addr} {l c b : Nat} {xs : List Value} (h : w.ownsRow B e s (.slice a l c) n xs) (hg : w.grownBy w' (some b)) (hn : ∀ x, a = some x → x.block ≠ b) : w'.ownsRow B e s (.slice a l c) n xs := by
 refine World.ownsRow.kept h hg ?_
 cases a with
 | none => exact .inl rfl
 | some x => exact .inr (by simp [Value.ownBlock]; exact hn x rfl)
theorem grown_set (w : World) (g j : Nat) (v : Value) : w.grownBy (w.setCell ⟨g, j, none⟩ v) (some g) :=
 ⟨rfl, rfl, rfl, by simp, fun i _ hi => heap_setCell_other w ⟨g, j, none⟩ i _ (fun e => hi (by simp [e]))⟩
theorem own_base {w : World} {B B' e s n : Nat} {v : Value} {xs : List Value} (h : w.ownsRow B e s v n xs) (hB : B' ≤ B) : w.ownsRow B' e s v n xs := by
 refine ⟨h.1, ?_⟩
 rcases h.2 with h' | ⟨g, cap, cur, h1, h2, h3⟩
 ·exact .inl h'
 ·exact .inr ⟨g, cap, cur, h1, by omega, h3⟩
theorem wpList_append_all {P : Program} (w : World) {ops : Array Oper} {rest : List Oper} {o : Oper} {a : Act} {Q : Exit → Act → World → Prop} (hgd : o.guard = none) (s x : Operand) (t : TypeId)
  (ho : o.op = .call { callee := .builtin .append, args := #[s, x], argTypes := #[t, t] })
  (base : Nat) (e : TypeId) (i : TypeInfo) (z : Value) (size bytes : Nat) (ht : P.underlying t = some (.slice e)) (hi : P.info? e = some i) (hz : i.zero = some z)
  (hsize : i.size = size) (hby : i.bytes = bytes) (hzs : z.cells.size = size) (hsz : 0 < size)
  (g0 n cap0 : Nat) (xs : List Value) (hs : a.eval s = .slice (some ⟨g0, 0, none⟩) n cap0) (hown : w.ownsRow base e size (.slice (some ⟨g0, 0, none⟩) n cap0) n xs)
  (ad : Addr) (m c : Nat) (news : List Value) (hx : a.eval x = .slice (some ad) m c) (hl : news.length = m * size) (hnews : ∀ j u, news[j]? = some u → w.cell? (ad.add j) = some u) (h1 : ∀ u ∈ news, u.oneCell' = true)
  (h63 : n + m ≤ maxLen) (hbytes : (n + m) * bytes ≤ 140737488355328) (hbase : base ≤ w.heap.size)
  (h : ∀ g cap w', w'.ownsRow base e size (.slice (some ⟨g, 0, none⟩) (n + m) cap) (n + m) (xs ++ news) → w.grownBy w' (some g0) → wpList P ops Q rest (a.put o.dst (.slice (some ⟨g, 0, none⟩) (n + m) cap)) w') :
  wpList P ops Q (o :: rest) a w := by
 refine wpList_append_own w hgd s x t ho base e i z size bytes ht hi hz hsize hby hzs hsz _ n xs hs hown ad m c news hx hl hnews h1 h63 hbytes hbase fun v' w' h2 h3 h4 => ?_
 have hne : v' ≠ .slice none 0 0 := fun e => by have := h4.1 e; cases this.1
 rcases h2.2 with ⟨e, _⟩ | ⟨g, cap, cur, e, _⟩
 ·exact absurd e hne
 ·subst e
  exact h g cap w' h2 h3
theorem step_append_row {P : Program} (w : World) {ops : Array Oper} {o : Oper} {a : Act} {K : Act → World → Prop} {Q : Exit → Act → World → Prop} {E : Prop} (hgd : o.guard = none) (s x : Operand) (t : TypeId)
  (ho : o.op = .call { callee := .builtin .append, args := #[s, x], argTypes := #[t, t] })
  (base : Nat) (e : TypeId) (i : TypeInfo) (z : Value) (size bytes : Nat) (ht : P.underlying t = some (.slice e)) (hi : P.info? e = some i) (hz : i.zero = some z)
  (hsize : i.size = size) (hby : i.bytes = bytes) (hzs : z.cells.size = size) (hsz : 0 < size)
  (g0 n cap0 : Nat) (xs : List Value) (hs : a.eval s = .slice (some ⟨g0, 0, none⟩) n cap0) (hown : w.ownsRow base e size (.slice (some ⟨g0, 0, none⟩) n cap0) n xs)
  (ad : Addr) (m c : Nat) (news : List Value) (hx : a.eval x = .slice (some ad) m c) (hl : news.length = m * size) (hnews : ∀ j u, news[j]? = some u → w.cell? (ad.add j) = some u) (h1 : ∀ u ∈ news, u.oneCell' = true)
  (h63 : n + m ≤ maxLen) (hbytes : (n + m) * bytes ≤ 140737488355328) (hbase : base ≤ w.heap.size)
  (h : ∀ g cap w', w'.ownsRow base e size (.slice (some ⟨g, 0, none⟩) (n + m) cap) (n + m) (xs ++ news) → w.grownBy w' (some g0) → K (a.put o.dst (.slice (some ⟨g, 0, none⟩) (n + m) cap)) w') :
  if Region.wanted o (yielded ops a.tmps) = true then Oper.wp P o a w K Q else E := by
 have hw : Region.wanted o (yielded ops a.tmps) = true := by simp [Region.wanted, hgd]
 rw [if_pos hw]
 refine wp_append_own w s x t ho base e i z size bytes ht hi hz hsize hby hzs hsz _ n xs hs hown ad m c news hx hl hnews h1 h63 hbytes hbase fun v' w' h2 h3 h4 => ?_
 have hne : v' ≠ .slice none 0 0 := fun e => by have := h4.1 e; cases this.1
 rcases h2.2 with ⟨e, _⟩ | ⟨g, cap, cur, e, _⟩
 ·exact absurd e hne
 ·subst e
  exact h g cap w' h2 h3
theorem Tryz.infoStr : (Tryz.prog.info? 9).map (fun i => (i.zero, i.size, i.bytes)) = some (some (.string ByteArray.empty), 1, 16) := by kernel_rfl
def TxtAt (w : World) (a : Option Addr) (n : Nat) (S : Nat → ByteArray) : Prop := ∀ i, i < n → ∃ b off, a = some ⟨b, off, none⟩ ∧ w.cell? ⟨b, off + i, none⟩ = some (.string (S i))
theorem TxtAt.below {w w' : World} {a : Option Addr} {n : Nat} {S : Nat → ByteArray} (h : TxtAt w a n S) (hb : Below w.heap.size w w') : TxtAt w' a n S := fun i hi => by
 obtain ⟨b, off, e, hc⟩ := h i hi
 exact ⟨b, off, e, (hb.cell (p := ⟨b, off + i, none⟩) (block_lt_of_cell hc)).trans hc⟩
theorem TxtAt.less {w : World} {a : Option Addr} {n m : Nat} {S : Nat → ByteArray} (h : TxtAt w a n S) (hm : m ≤ n) : TxtAt w a m S := fun i hi => h i (by omega)
theorem TxtAt.some {w : World} {a : Option Addr} {n : Nat} {S : Nat → ByteArray} (h : TxtAt w a n S) (hn : 0 < n) : ∃ b off, a = some ⟨b, off, none⟩ ∧ ∀ i, i < n → w.cell? ⟨b, off + i, none⟩ = .some (.string (S i)) := by
 obtain ⟨b, off, e, _⟩ := h 0 hn
 refine ⟨b, off, e, fun i hi => ?_⟩
 obtain ⟨b', off', e', hc⟩ := h i hi
 rw [e] at e'
 simp at e'
 obtain ⟨rfl, rfl⟩ := e'
 exact hc
def sL (S : Nat → ByteArray) (n : Nat) : List Value := (List.range n).map fun i => Value.string (S i)
theorem sL_len (S : Nat → ByteArray) (n : Nat) : (sL S n).length = n := by simp [sL]
theorem sL_get (S : Nat → ByteArray) (n i : Nat) (h : i < n) : (sL S n)[i]? = some (Value.string (S i)) := by simp [sL, h]
theorem sL_congr {S S' : Nat → ByteArray} {n : Nat} (h : ∀ i, i < n → S i = S' i) : sL S n = sL S' n := by
 unfold sL
 apply List.map_congr_left
 intro i hi
 rw [h i (List.mem_range.1 hi)]
theorem sL_snoc (S : Nat → ByteArray) (n : Nat) : sL S (n + 1) = sL S n ++ [Value.string (S n)] := by
 unfold sL
 rw [List.range_succ, List.map_append]
 rfl
theorem sL_set (S : Nat → ByteArray) (n k : Nat) (s : ByteArray) (h : k < n) : (sL S n).set k (.string s) = sL (fun i => if i = k then s else S i) n := by
 apply List.ext_getElem?
 intro i
 rw [List.getElem?_set]
 by_cases hi : i < n
 ·by_cases e : k = i
  ·subst e; simp [sL, h]
  ·simp [sL, hi, e, Ne.symm e]
 ·by_cases e : k = i
  ·omega
  ·rw [if_neg e, List.getElem?_eq_none (by rw [sL_len]; omega), List.getElem?_eq_none (by rw [sL_len]; omega)]
theorem sL_empty (n : Nat) : sL (fun _ => ByteArray.empty) n = List.replicate n (Value.string ByteArray.empty) := by
 apply List.ext_getElem?
 intro i
 by_cases hi : i < n
 ·rw [sL_get _ _ _ hi]; simp [hi]
 ·rw [List.getElem?_eq_none (by rw [sL_len]; omega), List.getElem?_eq_none (by simp; omega)]
def OwnT (w : World) (B : Nat) (a : Option Addr) (n cap : Nat) (S : Nat → ByteArray) : Prop := w.ownsRow B 9 1 (.slice a n cap) n (sL S n)
theorem OwnT.at {w : World} {B : Nat} {a : Option Addr} {n cap : Nat} {S : Nat → ByteArray} (h : OwnT w B a n cap S) : TxtAt w a n S := by
 intro i hi
 rcases own_shape h with ⟨rfl, rfl, rfl⟩ | ⟨g, cur, rfl, _⟩
 ·omega
 ·exact ⟨g, 0, rfl, by rw [Nat.zero_add, h.cellAt i (by omega), sL_get _ _ _ hi]⟩
theorem OwnT.below {w w' : World} {B : Nat} {a : Option Addr} {n cap : Nat} {S : Nat → ByteArray} (h : OwnT w B a n cap S) (hb : Below w.heap.size w w') : OwnT w' B a n cap S := ownsRow_below h hb
theorem OwnT.congr {w : World} {B : Nat} {a : Option Addr} {n cap : Nat} {S S' : Nat → ByteArray} (h : OwnT w B a n cap S) (e : ∀ i, i < n → S i = S' i) : OwnT w B a n cap S' := by
 unfold OwnT at *
 rw [← sL_congr e]
 exact h
theorem OwnT.base {w : World} {B B' : Nat} {a : Option Addr} {n cap : Nat} {S : Nat → ByteArray} (h : OwnT w B a n cap S) (hB : B' ≤ B) : OwnT w B' a n cap S := own_base h hB
theorem OwnT.nil (w : World) (B : Nat) (S : Nat → ByteArray) : OwnT w B none 0 0 S := World.ownsRow_nil w B _ _
theorem litT (w : World) (S : Nat → ByteArray) : OwnT (w.alloc (.cells #[] 9)) w.heap.size (some ⟨w.heap.size, 0, none⟩) 0 0 S :=
 World.ownsRow_lit w #[] 0 (Nat.le_refl _) (by unfold maxLen; omega) rfl
def ResT (w w' : World) (v : Value) (n : Nat) (S : Nat → ByteArray) : Prop := ∃ a cap, v = .slice a n cap ∧ OwnT w' w.heap.size a n cap S
theorem ResT.none (w w' : World) (S : Nat → ByteArray) : ResT w w' (.slice none 0 0) 0 S := ⟨_, _, rfl, OwnT.nil _ _ _⟩
theorem ResT.congr {w w' : World} {v : Value} {n : Nat} {S S' : Nat → ByteArray} (h : ResT w w' v n S) (e : ∀ i, i < n → S i = S' i) : ResT w w' v n S' := by
 obtain ⟨a, cap, rfl, ho⟩ := h
 exact ⟨a, cap, rfl, ho.congr e⟩
theorem ba_beq (s : ByteArray) : (s.toList == s.toList) = true := by simp
theorem ba_ne {s u : ByteArray} (h : s ≠ u) : (s.toList == u.toList) = false := by
 rw [ByteArray.toList_eq, ByteArray.toList_eq]
 simp only [beq_eq_false_iff_ne, ne_eq]
 intro e
 exact h (ByteArray.ext (Array.toList_inj.1 e))
theorem sameT_same (a b : Option Addr) (n ca cb : Nat) (S : Nat → ByteArray) (w : World) (ha : TxtAt w a n S) (hb : TxtAt w b n S) (hn : n ≤ 1048576) :
  Calls Tryz.prog 39 #[.slice a n ca, .slice b n cb] w fun e w' => e = .returned (.bool true) ∧ Below w.heap.size w w' := by
 go_enter Tryz.func39, Tryz.ntmps39
 go_wp2
 go_loopw [5] (fun i wr => ∃ k : Nat, k ≤ n ∧ i = .int .i64 k ∧ Below w.heap.size w wr) (fun i _ => n - (intOf i).toNat)
 case atStart => exact ⟨0, Nat.zero_le _, rfl, Below.refl _ _⟩
 case round =>
  obtain ⟨k, hk, rfl, hbel⟩ := hrel
  have ha' := ha.below hbel
  have hb' := hb.below hbel
  clear ha hb
  by_cases hlt : k < n
  ·obtain ⟨ba, oa, rfl, hca⟩ := ha' k hlt
   obtain ⟨bb, ob, rfl, hcb⟩ := hb' k hlt
   have hlti : (k : Int) < (n : Int) := by omega
   clear ha' hb'
   generalize S k = s at hca hcb
   have hbq := ba_beq s
   go_wp2
   go_quiet (fail)
   go_wp2
   go_roundw
   case rel => exact ⟨k + 1, by omega, by go_num, below_drewN hbel _⟩
   case measure => simp [intOf]; omega
  ·go_wp2
   go_ret
   exact ⟨rfl, hbel⟩
def ErrT (w : World) : Prop := w.cell? ⟨0, 0, none⟩ = some (.iface 161 (.agg #[.pointer (some ⟨1, 89, none⟩)]))
theorem ErrT.below {w w' : World} (h : ErrT w) (hb : Below w.heap.size w w') : ErrT w' := (hb.cell (p := ⟨0, 0, none⟩) (block_lt_of_cell h)).trans h
theorem ErrT.lt {w : World} (h : ErrT w) : 0 < w.heap.size := block_lt_of_cell h
abbrev failC (c : Int) : List PanicEntry := [{ v := .iface 91 (.int .i64 c), recovered := false }]
theorem need_ok (c : Int) (w : World) : Calls Tryz.prog 30 #[.bool true, .int .i64 c] w fun e w' => e = .returned (.tuple #[]) ∧ w' = w := by
 go_enter Tryz.func30, Tryz.ntmps30
 go_wp2
 go_end0
 exact ⟨rfl, rfl⟩
theorem need_no (c : Int) (w : World) : Calls Tryz.prog 30 #[.bool false, .int .i64 c] w fun e w' => e = .panicked (failC c) ∧ w' = w := by
 go_enter Tryz.func30, Tryz.ntmps30
 go_wp2
 simp [bodyPost]
theorem caught_nil (w : World) : Calls Tryz.prog 25 #[.nilIface] w fun e w' => e = .returned (.int .i64 0) ∧ w' = w := by
 go_enter Tryz.func25, Tryz.ntmps25
 go_wp2
 go_ret
 exact ⟨rfl, rfl⟩
theorem caught_fail (c : Int) (w : World) (h : ErrT w) : Calls Tryz.prog 25 #[.iface 91 (.int .i64 c)] w fun e w' => e = .returned (.int .i64 c) ∧ Below w.heap.size w w' := by
 have ta := fun xT : TypeId => run_typeAssert_hasB (P := Tryz.prog) (t := 91) (asserted := 89) Tryz.underlying89 (by kernel_rfl) (.int .i64 c) xT w
 obtain ⟨w0, HW0⟩ : ∃ x, Hid (x = w.alloc (.cells #[.int .i64 0] 91)) := ⟨_, rfl⟩
 obtain ⟨B, HB⟩ : ∃ x, Hid (x = w.heap.size) := ⟨_, rfl⟩
 have c0 : w0.cell? ⟨B, 0, none⟩ = some (.int .i64 0) := by rw [HW0.out, HB.out]; simp
 have f0 : w0.frozen? ⟨B, 0, none⟩ = false := by rw [HW0.out, HB.out]; simp
 have b0 : Below w.heap.size w w0 := by rw [HW0.out]; exact (Below.refl _ _).alloc (Nat.le_refl _) _
 have KA : Hid _ := as_hit c ⟨B, 0, none⟩ (.int .i64 0) w0 (h.below b0) c0 f0
 have KB : Hid (Below w.heap.size w w0) := b0
 have lB : B < w0.heap.size := block_lt_of_cell c0
 have hBw : w.heap.size ≤ B := by rw [HB.out]; exact Nat.le_refl _
 clear h f0 b0
 go_enter Tryz.func25, Tryz.ntmps25
 go_wp2_with fail
 rw [← HW0.out, ← HB.out]
 refine Calls.mono KA.out ?_
 rintro e w' ⟨rfl, W, bW, rfl⟩
 have c1 : (W.setCell ⟨B, 0, none⟩ (.int .i64 c)).cell? ⟨B, 0, none⟩ = some (.int .i64 c) := World.cell?_setCell_same _ _ _ ((bW.cell (p := ⟨B, 0, none⟩) lB).trans c0)
 have HF : Hid (Below w.heap.size w (W.setCell ⟨B, 0, none⟩ (.int .i64 c))) := (KB.out.trans (bW.mono KB.out.size)).setCell hBw _
 generalize W.setCell ⟨B, 0, none⟩ (.int .i64 c) = w2 at c1 HF
 clear bW c0
 go_wp2
 go_ret
 exact ⟨rfl, HF.out⟩
theorem catchR_panicking (p : Addr) (old : Value) (c : Int) (older : List PanicEntry) (w : World) (h : ErrT w) (hc : w.cell? p = some old) (hz : w.frozen? p = false) :
  CallsD Tryz.prog 24 #[.pointer (some p)] (.panicking ({ v := .iface 91 (.int .i64 c), recovered := false } :: older)) w fun e u' w' =>
   e = .returned (.tuple #[]) ∧ u' = .panicking ({ v := .iface 91 (.int .i64 c), recovered := true } :: older) ∧ ∃ W, Below w.heap.size w W ∧ w' = W.setCell p (.int .i64 c) := by
 refine callsD_of_wpS Tryz.func24 rfl fun c₀ cs hu => ?_
 apply wpS_region
 simp [wpOpsS, go_sem, recoverD, hu, Tryz.ntmps24]
 have lp := block_lt_of_cell hc
 refine Calls.mono (caught_fail c w h) ?_
 rintro e w' ⟨rfl, hb⟩
 have hc' := (hb.cell (p := p) lp).trans hc
 have hz' := (World.frozen?_of_block (a := p) (hb.block _ lp)).trans hz
 simp [go_sem, hc', hz', bodyPostS, results, Tryz.results24, storeCells, Addr.add]
 exact ⟨w', hb, rfl⟩
theorem catchR_idle (p : Addr) (old : Value) (w : World) (hc : w.cell? p = some old) (hz : w.frozen? p = false) :
  CallsD Tryz.prog 24 #[.pointer (some p)] .returning w fun e u' w' => e = .returned (.tuple #[]) ∧ u' = .returning ∧ w' = w.setCell p (.int .i64 0) := by
 refine callsD_of_wpS Tryz.func24 rfl fun c₀ cs hu => ?_
 apply wpS_region
 simp [wpOpsS, go_sem, recoverD, hu, Tryz.ntmps24]
 refine Calls.mono (caught_nil w) ?_
 rintro e w' ⟨rfl, rfl⟩
 simp [go_sem, hc, hz, bodyPostS, results, Tryz.results24, storeCells, Addr.add]
 cases c₀
 simp_all
abbrev pcC (r : ByteArray) (k n i : Int) (b : ByteArray) (v : Value) : Array Value := #[.string r, .int .i64 k, .int .i64 n, .int .i64 i, .string b, v]
abbrev pcV (r : ByteArray) (k n i : Int) (b : ByteArray) (v : Value) : Value := .agg (pcC r k n i b v)
theorem Tryz.infoPc : (Tryz.prog.info? 30).map (·.size) = some 6 := by kernel_rfl
theorem OwnT.setFar {w : World} {B g o : Nat} {a : Option Addr} {n c : Nat} {S : Nat → ByteArray} {v : Value} (h : OwnT w B a n c S) (hB : g < B) : OwnT (w.setCell ⟨g, o, none⟩ v) B a n c S :=
 own_kept h (grown_set _ _ _ _) (fun x e => by subst e; have := (World.ownsRow.lt h x.block rfl).1; omega)
def marks (k n : Nat) : List Int := eI (fun i => k + i) n
def pf (F : Nat → Nat → Nat) (N : Nat → Nat) : Nat → (Nat → Nat) × Nat
 | 0 => (Gp.one, 1)
 | i + 1 => (Gp.cv (pf F N i).1 (F i) (pf F N i).2, Gp.tl (Gp.cv (pf F N i).1 (F i) (pf F N i).2) ((pf F N i).2 + N i))
def OwnR (w : World) (B g n cap : Nat) (f : Nat → Nat) : Prop := w.ownsRow B 3 1 (.slice (some ⟨g, 0, none⟩) n cap) n ((eI f n).map (Value.int .i64))
theorem OwnR.lt {w : World} {B g n cap : Nat} {f : Nat → Nat} (h : OwnR w B g n cap f) : B ≤ g ∧ g < w.heap.size := World.ownsRow.lt h g rfl
theorem eI_snoc (f : Nat → Nat) (k : Nat) : eI f (k + 1) = eI f k ++ [((f k : Nat) : Int)] := by
 unfold eI
 rw [List.range_succ, List.map_append]
 rfl
theorem OwnR.snoc {w : World} {B g k cap : Nat} {f : Nat → Nat} (h : w.ownsRow B 3 1 (.slice (some ⟨g, 0, none⟩) (k + 1) cap) (k + 1) ((eI f k).map (Value.int .i64) ++ [.int .i64 ((f k : Nat) : Int)])) : OwnR w B g (k + 1) cap f := by
 unfold OwnR
 rw [eI_snoc, List.map_append]
 exact h
theorem sBytes_any (a : Option Addr) (n cap : Nat) (zs : List Int) (w : World) (h : IntsAt w a n zs) (hn : n ≤ 1048576) :
  Calls Tryz.prog 163 #[.slice a n cap] w fun e w' => e = .returned (.bool (zs.all isB)) ∧ w' = w := by
 have HL : Hid (zs.length = n) := h.1
 go_enter Tryz.func163, Tryz.ntmps163
 go_wp2
 go_loop [3] (fun p => ∃ k : Nat, k ≤ n ∧ p = .int .i64 k ∧ Hid (∀ j : Nat, j < k → isB (zs.getD j 0) = true)) (fun p => n - (intOf p).toNat)
 case atStart => exact ⟨0, by omega, rfl, fun j hj => absurd hj (by omega)⟩
 case round =>
  obtain ⟨k, hk, rfl, HB⟩ := hrel
  by_cases hlt : k < n
  ·obtain ⟨b, off, rfl, hc⟩ := h.2 k hlt
   have hltI : (k : Int) < (n : Int) := by omega
   clear h
   obtain ⟨x, HX⟩ : ∃ x, Hid (x = zs.getD k 0) := ⟨_, rfl⟩
   rw [← HX.out] at hc
   by_cases hx : isB x = true
   ·go_wp2_with (go_at_call 76; refine (sIs_any _ _).mono ?_; rintro e w' ⟨rfl, rfl⟩)
    go_round
    case rel => exact ⟨k + 1, by omega, by go_num, fun j hj => by
     by_cases e : j = k
     ·subst e; rw [← HX.out]; exact hx
     ·exact HB.out j (by omega)⟩
    case measure => simp [intOf] <;> omega
   ·have hx' : isB x = false := by simpa using hx
    have HR : Hid (zs.all isB = false) := by
     show _ = _
     rw [List.all_eq_false]
     refine ⟨x, ?_, hx⟩
     rw [HX.out]
     have := HL.out
     have hl : k < zs.length := by omega
     simp [List.getD, hl]
    go_wp2_with (go_at_call 76; refine (sIs_any _ _).mono ?_; rintro e w' ⟨rfl, rfl⟩)
    go_ret
    exact ⟨ret_bool HR.out.symm, rfl⟩
  ·have HR : Hid (zs.all isB = true) := by
    show _ = _
    rw [List.all_eq_true]
    intro x hx
    obtain ⟨i, hi, rfl⟩ := List.mem_iff_getElem.1 hx
    have := HL.out
    have h2 := HB.out i (by omega)
    simpa [List.getD, hi] using h2
   clear h
   go_wp2
   go_ret
   exact ⟨ret_bool HR.out.symm, rfl⟩
theorem lit0 (w : World) (f : Nat → Nat) : OwnR (w.alloc (.cells #[] 3)) w.heap.size w.heap.size 0 0 f :=
 World.ownsRow_lit w #[] 0 (Nat.le_refl _) (by unfold maxLen; omega) rfl
def zI (z : Nat → Int) (n : Nat) : List Int := (List.range n).map z
theorem zI_len (z : Nat → Int) (n : Nat) : (zI z n).length = n := by simp [zI]
theorem zI_get (z : Nat → Int) (n i : Nat) (h : i < n) : (zI z n)[i]? = some (z i) := by simp [zI, h]
theorem zI_getD (z : Nat → Int) (n i : Nat) (h : i < n) : (zI z n).getD i 0 = z i := by simp [List.getD, zI_get z n i h]
theorem zI_congr {f g : Nat → Int} {n : Nat} (h : ∀ i, i < n → f i = g i) : zI f n = zI g n := by
 unfold zI
 apply List.map_congr_left
 intro i hi
 rw [h i (List.mem_range.1 hi)]
theorem zI_set (z : Nat → Int) (n k : Nat) (v : Int) (d : IntKind) (h : k < n) : ((zI z n).map (Value.int d)).set k (.int d v) = (zI (fun i => if i = k then v else z i) n).map (Value.int d) := by
 apply List.ext_getElem?
 intro i
 rw [List.getElem?_set]
 by_cases hi : i < n
 ·by_cases e : k = i
  ·subst e
   simp [zI, h]
  ·simp [zI, hi, e, Ne.symm e]
 ·by_cases e : k = i
  ·omega
  ·rw [if_neg e, List.getElem?_eq_none (by simp [zI_len]; omega), List.getElem?_eq_none (by simp [zI_len]; omega)]
theorem eI_zI (f : Nat → Nat) (n : Nat) : eI f n = zI (fun i => ((f i : Nat) : Int)) n := rfl
theorem zI_const {z : Nat → Int} (n : Nat) (v : Int) (h : ∀ i, i < n → z i = v) : zI z n = List.replicate n v := by
 apply List.ext_getElem?
 intro i
 by_cases hi : i < n
 ·rw [zI_get z n i hi, h i hi]
  simp [hi]
 ·rw [List.getElem?_eq_none (by rw [zI_len]; omega), List.getElem?_eq_none (by simp; omega)]
def hds (A : Nat → Option Addr) (L C : Nat → Nat) (n : Nat) : List Value := (List.range n).map fun i => Value.slice (A i) (L i) (C i)
theorem hds_len (A : Nat → Option Addr) (L C : Nat → Nat) (n : Nat) : (hds A L C n).length = n := by simp [hds]
theorem hds_get (A : Nat → Option Addr) (L C : Nat → Nat) (n i : Nat) (h : i < n) : (hds A L C n)[i]? = some (Value.slice (A i) (L i) (C i)) := by simp [hds, h]
theorem hds_set (A : Nat → Option Addr) (L C : Nat → Nat) (n k : Nat) (x : Option Addr) (l c : Nat) : (hds A L C n).set k (.slice x l c) = hds (fun i => if i = k then x else A i) (fun i => if i = k then l else L i) (fun i => if i = k then c else C i) n := by
 apply List.ext_getElem?
 intro i
 rw [List.getElem?_set]
 by_cases hi : i < n
 ·rw [hds_get (fun i => if i = k then x else A i) _ _ _ _ hi]
  by_cases e : k = i
  ·subst e
   rw [if_pos rfl, if_pos (by rw [hds_len]; exact hi)]
   simp
  ·rw [if_neg e, hds_get _ _ _ _ _ hi]
   simp [Ne.symm e]
 ·rw [List.getElem?_eq_none (l := hds (fun i => if i = k then x else A i) _ _ _) (by rw [hds_len]; omega)]
  by_cases e : k = i
  ·subst e
   rw [if_pos rfl, if_neg (by rw [hds_len]; omega)]
  ·rw [if_neg e, List.getElem?_eq_none (by rw [hds_len]; omega)]
theorem hds_congr {A A' : Nat → Option Addr} {L L' C C' : Nat → Nat} {n : Nat} (h : ∀ i, i < n → A i = A' i ∧ L i = L' i ∧ C i = C' i) : hds A L C n = hds A' L' C' n := by
 unfold hds
 apply List.map_congr_left
 intro i hi
 obtain ⟨h1, h2, h3⟩ := h i (List.mem_range.1 hi)
 rw [h1, h2, h3]
theorem hds_snoc (A : Nat → Option Addr) (L C : Nat → Nat) (n : Nat) : hds A L C (n + 1) = hds A L C n ++ [Value.slice (A n) (L n) (C n)] := by
 unfold hds
 rw [List.range_succ, List.map_append]
 rfl
structure MatZ (k : IntKind) (T TT : Nat) (w : World) (B E : Nat) (a : Option Addr) (n cap : Nat) (A : Nat → Option Addr) (L C : Nat → Nat) (Z : Nat → Nat → Int) : Prop where
 out : w.ownsRow B TT 1 (.slice a n cap) n (hds A L C n)
 oE : ∀ x, a = some x → x.block < E
 row : ∀ i, i < n → w.ownsRow B T 1 (.slice (A i) (L i) (C i)) (L i) ((zI (Z i) (L i)).map (Value.int k))
 rE : ∀ i, i < n → ∀ x, A i = some x → x.block < E
 apart : ∀ i j, i < n → j < n → i ≠ j → ∀ x y, A i = some x → A j = some y → x.block ≠ y.block
section
variable {k : IntKind} {T TT : Nat} {w w' : World} {B E : Nat} {a : Option Addr} {n cap : Nat} {A : Nat → Option Addr} {L C : Nat → Nat} {Z : Nat → Nat → Int}
theorem MatZ.addr (h : MatZ k T TT w B E a n cap A L C Z) (hn : 0 < n) : ∃ G, a = some ⟨G, 0, none⟩ := by
 rcases own_shape h.out with ⟨_, h0, _⟩ | ⟨g, _, e, _⟩
 ·omega
 ·exact ⟨g, e⟩
theorem MatZ.hdr {G i : Nat} (h : MatZ k T TT w B E (some ⟨G, 0, none⟩) n cap A L C Z) (hi : i < n) : w.cell? ⟨G, i, none⟩ = some (.slice (A i) (L i) (C i)) := by
 rw [h.out.cellAt i (by omega), hds_get _ _ _ _ _ hi]
theorem MatZ.elt {g i j : Nat} (h : MatZ k T TT w B E a n cap A L C Z) (hi : i < n) (hA : A i = some ⟨g, 0, none⟩) (hj : j < L i) : w.cell? ⟨g, j, none⟩ = some (.int k (Z i j)) := by
 have hr := h.row i hi
 rw [hA] at hr
 rw [hr.cellAt j (by omega)]
 simp [zI, hj]
theorem MatZ.free {g i : Nat} (h : MatZ k T TT w B E a n cap A L C Z) (hi : i < n) (hA : A i = some ⟨g, 0, none⟩) (j : Nat) : w.frozen? ⟨g, j, none⟩ = false := by
 have hr := h.row i hi
 rw [hA] at hr
 exact hr.frozenAt j
theorem MatZ.ofree {G : Nat} (h : MatZ k T TT w B E (some ⟨G, 0, none⟩) n cap A L C Z) (j : Nat) : w.frozen? ⟨G, j, none⟩ = false := h.out.frozenAt j
theorem MatZ.olt {G : Nat} (h : MatZ k T TT w B E (some ⟨G, 0, none⟩) n cap A L C Z) : B ≤ G ∧ G < w.heap.size := h.out.lt G rfl
theorem MatZ.glt {g i : Nat} (h : MatZ k T TT w B E a n cap A L C Z) (hi : i < n) (hA : A i = some ⟨g, 0, none⟩) : B ≤ g ∧ g < w.heap.size := by
 have hr := h.row i hi
 rw [hA] at hr
 exact hr.lt g rfl
theorem MatZ.off (hT : T ≠ TT) {g G i : Nat} (h : MatZ k T TT w B E (some ⟨G, 0, none⟩) n cap A L C Z) (hi : i < n) (hA : A i = some ⟨g, 0, none⟩) : g ≠ G := by
 intro e
 subst e
 have hr := h.row i hi
 rw [hA] at hr
 rcases own_shape hr with ⟨h', _⟩ | ⟨g1, c1, e1, _, hg1, _⟩
 ·cases h'
 ·rcases own_shape h.out with ⟨h', _⟩ | ⟨g2, c2, e2, _, hg2, _⟩
  ·cases h'
  ·cases e1
   cases e2
   rw [hg1] at hg2
   cases hg2
   exact hT rfl
theorem MatZ.below (h : MatZ k T TT w B E a n cap A L C Z) (hb : Below w.heap.size w w') : MatZ k T TT w' B E a n cap A L C Z :=
 ⟨ownsRow_below h.out hb, h.oE, fun i hi => ownsRow_below (h.row i hi) hb, h.rE, h.apart⟩
theorem MatZ.wide {E' : Nat} (h : MatZ k T TT w B E a n cap A L C Z) (hE : E ≤ E') : MatZ k T TT w B E' a n cap A L C Z :=
 ⟨h.out, fun x e => Nat.lt_of_lt_of_le (h.oE x e) hE, h.row, fun i hi x e => Nat.lt_of_lt_of_le (h.rE i hi x e) hE, h.apart⟩
theorem MatZ.tight (h : MatZ k T TT w B E a n cap A L C Z) : MatZ k T TT w B w.heap.size a n cap A L C Z := by
 refine ⟨h.out, fun x e => ?_, h.row, fun i hi x e => ?_, h.apart⟩
 ·subst e; exact (h.out.lt x.block rfl).2
 ·have hr := h.row i hi
  rw [e] at hr
  exact (hr.lt x.block rfl).2
theorem MatZ.congr {A' : Nat → Option Addr} {L' C' : Nat → Nat} {Z' : Nat → Nat → Int} (h : MatZ k T TT w B E a n cap A L C Z) (e : ∀ i, i < n → A i = A' i ∧ L i = L' i ∧ C i = C' i ∧ ∀ j, j < L i → Z i j = Z' i j) : MatZ k T TT w B E a n cap A' L' C' Z' := by
 refine ⟨?_, h.oE, fun i hi => ?_, fun i hi x ex => ?_, fun i j hi hj hij x y ex ey => ?_⟩
 ·rw [← hds_congr (fun i hi => ⟨(e i hi).1, (e i hi).2.1, (e i hi).2.2.1⟩)]; exact h.out
 ·obtain ⟨e1, e2, e3, e4⟩ := e i hi
  have hr := h.row i hi
  rw [zI_congr e4, e1, e2, e3] at hr
  exact hr
 ·exact h.rE i hi x ((e i hi).1.trans ex)
 ·exact h.apart i j hi hj hij x y ((e i hi).1.trans ex) ((e j hj).1.trans ey)
theorem MatZ.kept {b : Nat} (h : MatZ k T TT w B E a n cap A L C Z) (hg : w.grownBy w' (some b)) (ho : ∀ x, a = some x → x.block ≠ b) (hr : ∀ i, i < n → ∀ x, A i = some x → x.block ≠ b) : MatZ k T TT w' B E a n cap A L C Z :=
 ⟨own_kept h.out hg ho, h.oE, fun i hi => own_kept (h.row i hi) hg (hr i hi), h.rE, h.apart⟩
theorem MatZ.keptE {b : Nat} (h : MatZ k T TT w B E a n cap A L C Z) (hg : w.grownBy w' (some b)) (hb : E ≤ b) : MatZ k T TT w' B E a n cap A L C Z :=
 h.kept hg (fun x e => by have := h.oE x e; omega) (fun i hi x e => by have := h.rE i hi x e; omega)
theorem MatZ.setElt (hT : T ≠ TT) {g i j : Nat} (h : MatZ k T TT w B E a n cap A L C Z) (hi : i < n) (hA : A i = some ⟨g, 0, none⟩) (hj : j < L i) (v : Int) :
  MatZ k T TT (w.setCell ⟨g, j, none⟩ (.int k v)) B E a n cap A L C (fun p q => if p = i ∧ q = j then v else Z p q) ∧ w.grownBy (w.setCell ⟨g, j, none⟩ (.int k v)) (some g) := by
 have hg := grown_set w g j (.int k v)
 obtain ⟨G, rfl⟩ := h.addr (by omega)
 refine ⟨⟨own_kept h.out hg (fun x e => by cases e; exact (h.off hT hi hA).symm), h.oE, fun p hp => ?_, h.rE, h.apart⟩, hg⟩
 by_cases e : p = i
 ·subst e
  have hr := h.row p hp
  rw [hA] at hr ⊢
  have h1 := (hr.stored j (.int k v)).1
  rw [zI_set _ _ _ _ _ hj] at h1
  rw [zI_congr (g := fun q => if q = j then v else Z p q) (fun q _ => by simp)]
  exact h1
 ·have hr := own_kept (h.row p hp) hg (fun x ex => h.apart p i hp hi e x _ ex hA)
  rw [zI_congr (f := fun q => if p = i ∧ q = j then v else Z p q) (g := Z p) (fun q _ => by simp [e])]
  exact hr
theorem MatZ.setRow (hT : T ≠ TT) {G g i l c : Nat} {z : Nat → Int} (h : MatZ k T TT w B E (some ⟨G, 0, none⟩) n cap A L C Z) (hi : i < n)
  (hrow : w.ownsRow B T 1 (.slice (some ⟨g, 0, none⟩) l c) l ((zI z l).map (Value.int k))) (hE : g < E) (hap : ∀ j, j < n → j ≠ i → ∀ x, A j = some x → x.block ≠ g) :
  MatZ k T TT (w.setCell ⟨G, i, none⟩ (.slice (some ⟨g, 0, none⟩) l c)) B E (some ⟨G, 0, none⟩) n cap (fun j => if j = i then some ⟨g, 0, none⟩ else A j) (fun j => if j = i then l else L j) (fun j => if j = i then c else C j) (fun j => if j = i then z else Z j) ∧ w.grownBy (w.setCell ⟨G, i, none⟩ (.slice (some ⟨g, 0, none⟩) l c)) (some G) := by
 have hg := grown_set w G i (.slice (some ⟨g, 0, none⟩) l c)
 have hgG : g ≠ G := by
  intro e
  subst e
  rcases own_shape hrow with ⟨h', _⟩ | ⟨g1, c1, e1, _, hg1, _⟩
  ·cases h'
  ·rcases own_shape h.out with ⟨h', _⟩ | ⟨g2, c2, e2, _, hg2, _⟩
   ·cases h'
   ·cases e1
    cases e2
    rw [hg1] at hg2
    cases hg2
    exact hT rfl
 refine ⟨⟨?_, h.oE, fun p hp => ?_, fun p hp x ex => ?_, fun p q hp hq hpq x y ex ey => ?_⟩, hg⟩
 ·have h1 := (h.out.stored i (.slice (some ⟨g, 0, none⟩) l c)).1
  rw [hds_set] at h1
  exact h1
 ·by_cases e : p = i
  ·subst e
   simp only [if_pos]
   exact own_kept hrow hg (fun x ex => by cases ex; exact hgG)
  ·simp only [if_neg e]
   refine own_kept (h.row p hp) hg (fun x ex => ?_)
   have hr := h.row p hp
   rw [ex] at hr
   rcases own_shape hr with ⟨h', _⟩ | ⟨g1, c1, e1, _⟩
   ·cases h'
   ·cases e1
    exact h.off hT hp ex
 ·by_cases e : p = i
  ·simp only [if_pos e] at ex; cases ex; exact hE
  ·simp only [if_neg e] at ex; exact h.rE p hp x ex
 ·by_cases e : p = i
  ·simp only [if_pos e] at ex
   cases ex
   simp only [if_neg (show q ≠ i by omega)] at ey
   exact (hap q hq (by omega) y ey).symm
  ·simp only [if_neg e] at ex
   by_cases e2 : q = i
   ·simp only [if_pos e2] at ey
    cases ey
    exact hap p hp e x ex
   ·simp only [if_neg e2] at ey
    exact h.apart p q hp hq hpq x y ex ey
theorem MatZ.push (hT : T ≠ TT) {E' : Nat} {a' : Option Addr} {cap' l c : Nat} {x : Option Addr} {z : Nat → Int} (h : MatZ k T TT w B E a n cap A L C Z)
  (hg : w.grownBy w' (Value.slice a n cap).ownBlock) (hout : w'.ownsRow B TT 1 (.slice a' (n + 1) cap') (n + 1) (hds A L C n ++ [Value.slice x l c])) (hsz : w'.heap.size ≤ E') (hE : E ≤ E')
  (hrow : w.ownsRow B T 1 (.slice x l c) l ((zI z l).map (Value.int k))) (hap : ∀ j, j < n → ∀ y u, A j = some y → x = some u → y.block ≠ u.block) :
  MatZ k T TT w' B E' a' (n + 1) cap' (fun j => if j = n then x else A j) (fun j => if j = n then l else L j) (fun j => if j = n then c else C j) (fun j => if j = n then z else Z j) := by
 have hrk : ∀ (u : Option Addr) (l c : Nat) (xs : List Value), w.ownsRow B T 1 (.slice u l c) l xs → w'.ownsRow B T 1 (.slice u l c) l xs := by
  intro u l c xs hr
  refine World.ownsRow.kept hr hg ?_
  rcases own_shape hr with ⟨rfl, _⟩ | ⟨g1, c1, rfl, _, hg1, _⟩
  ·exact .inl rfl
  ·right
   rcases own_shape h.out with ⟨rfl, _⟩ | ⟨g2, c2, rfl, _, hg2, _⟩
   ·simp [Value.ownBlock]
   ·simp only [Value.ownBlock, ne_eq, Option.some.injEq]
    intro e
    subst e
    rw [hg1] at hg2
    cases hg2
    exact hT rfl
 refine ⟨?_, fun y e => ?_, fun i hi => ?_, fun i hi y e => ?_, fun i j hi hj hij y u e1 e2 => ?_⟩
 ·rw [hds_snoc]
  simp only [if_pos]
  rw [← hds_congr (A := A) (L := L) (C := C) (fun i hi => by simp [show i ≠ n by omega])]
  exact hout
 ·subst e; exact Nat.lt_of_lt_of_le (hout.lt y.block rfl).2 hsz
 ·by_cases e : i = n
  ·subst e; simp only [if_pos]; exact hrk _ _ _ _ hrow
  ·simp only [if_neg e]; exact hrk _ _ _ _ (h.row i (by omega))
 ·by_cases e' : i = n
  ·subst e'
   simp only [if_pos] at e
   subst e
   exact Nat.lt_of_lt_of_le (Nat.lt_of_lt_of_le (hrow.lt y.block rfl).2 hg.size) hsz
  ·simp only [if_neg e'] at e
   exact Nat.lt_of_lt_of_le (h.rE i (by omega) y e) hE
 ·by_cases e : i = n
  ·subst e
   simp only [if_pos] at e1
   simp only [if_neg (show j ≠ i by omega)] at e2
   exact (hap j (by omega) u y e2 e1).symm
  ·simp only [if_neg e] at e1
   by_cases e' : j = n
   ·subst e'
    simp only [if_pos] at e2
    exact hap i (by omega) y u e1 e2
   ·simp only [if_neg e'] at e2
    exact h.apart i j (by omega) (by omega) hij y u e1 e2
theorem MatZ.nil (k : IntKind) (T TT : Nat) (w : World) (B E : Nat) (A : Nat → Option Addr) (L C : Nat → Nat) (Z : Nat → Nat → Int) : MatZ k T TT w B E none 0 0 A L C Z :=
 ⟨World.ownsRow_nil w B _ _, fun x e => (by cases e), fun i hi => by omega, fun i hi => by omega, fun i j hi => by omega⟩
theorem MatZ.zero {G c : Nat} (k : IntKind) (T TT : Nat) (w : World) (B E : Nat) (A : Nat → Option Addr) (L C : Nat → Nat) (Z : Nat → Nat → Int) (h : w.ownsRow B TT 1 (.slice (some ⟨G, 0, none⟩) 0 c) 0 []) (hE : G < E) : MatZ k T TT w B E (some ⟨G, 0, none⟩) 0 c A L C Z :=
 ⟨h, fun x e => by cases e; exact hE, fun i hi => by omega, fun i hi => by omega, fun i j hi => by omega⟩
theorem MatZ.made {G : Nat} (h : w.ownsRow B TT 1 (.slice (some ⟨G, 0, none⟩) n n) n (List.replicate n (Value.slice none 0 0))) (hE : G < E) (Z : Nat → Nat → Int) : MatZ k T TT w B E (some ⟨G, 0, none⟩) n n (fun _ => none) (fun _ => 0) (fun _ => 0) Z := by
 refine ⟨?_, fun x e => by cases e; exact hE, fun i _ => World.ownsRow_nil w B _ _, fun i _ x e => (by cases e), fun i j _ _ _ x y e => (by cases e)⟩
 have e : hds (fun _ => none) (fun _ => 0) (fun _ => 0) n = List.replicate n (Value.slice none 0 0) := by
  apply List.ext_getElem?
  intro i
  by_cases hi : i < n
  ·rw [hds_get _ _ _ _ _ hi]; simp [hi]
  ·rw [List.getElem?_eq_none (by rw [hds_len]; omega), List.getElem?_eq_none (by simp; omega)]
 rw [e]
 exact h
end
def MatAt (w : World) (a : Option Addr) (n : Nat) (L : Nat → Nat) (Z : Nat → Nat → Int) : Prop :=
 ∀ i, i < n → ∃ b off ai ci, a = some ⟨b, off, none⟩ ∧ w.cell? ⟨b, off + i, none⟩ = some (.slice ai (L i) ci) ∧ IntsAt w ai (L i) (zI (Z i) (L i))
theorem MatAt.below {w w' : World} {a : Option Addr} {n : Nat} {L : Nat → Nat} {Z : Nat → Nat → Int} (h : MatAt w a n L Z) (hb : Below w.heap.size w w') : MatAt w' a n L Z := fun i hi => by
 obtain ⟨b, off, ai, ci, e, hc, hr⟩ := h i hi
 exact ⟨b, off, ai, ci, e, (hb.cell (p := ⟨b, off + i, none⟩) (block_lt_of_cell hc)).trans hc, hr.below hb⟩
theorem own_ints {w : World} {B T n c : Nat} {a : Option Addr} {z : Nat → Int} (h : w.ownsRow B T 1 (.slice a n c) n ((zI z n).map (Value.int .i64))) : IntsAt w a n (zI z n) := by
 rcases own_shape h with ⟨rfl, rfl, rfl⟩ | ⟨g, cur, rfl, _⟩
 ·exact ⟨zI_len _ _, fun i hi => by omega⟩
 ·exact ownsRow.ints h
theorem MatZ.at {T TT : Nat} {w : World} {B E : Nat} {a : Option Addr} {n cap : Nat} {A : Nat → Option Addr} {L C : Nat → Nat} {Z : Nat → Nat → Int} (h : MatZ .i64 T TT w B E a n cap A L C Z) : MatAt w a n L Z := by
 intro i hi
 obtain ⟨G, rfl⟩ := h.addr (by omega)
 exact ⟨G, 0, A i, C i, rfl, by rw [Nat.zero_add]; exact h.hdr hi, own_ints (h.row i hi)⟩
end Go.Proofs.YtodnodekheaacaaGreatDoor
namespace Go.Proofs.YtodnodekheaacaaGreatDoor
theorem Tryz.infoInts : (Tryz.prog.info? 25).map (fun i => (i.zero, i.size, i.bytes)) = some (some (.slice none 0 0), 1, 24) := by kernel_rfl
abbrev MatI (w : World) (B E : Nat) (a : Option Addr) (n cap : Nat) (A : Nat → Option Addr) (L C : Nat → Nat) (Z : Nat → Nat → Int) : Prop := MatZ .i64 3 25 w B E a n cap A L C Z
theorem tiNe : (3 : Nat) ≠ 25 := by decide
theorem Tryz.infoElems : (Tryz.prog.info? 189).map (fun i => (i.zero, i.size, i.bytes)) = some (some (.slice none 0 0), 1, 24) := by kernel_rfl
abbrev MatU (w : World) (B E : Nat) (a : Option Addr) (n cap : Nat) (A : Nat → Option Addr) (L C : Nat → Nat) (Z : Nat → Nat → Int) : Prop := MatZ .u8 104 189 w B E a n cap A L C Z
theorem teNe : (104 : Nat) ≠ 189 := by decide
def side (n : Int) : Bool := decide (1 ≤ n ∧ n ≤ 16)
theorem side_nat (n : Nat) : side (n : Int) = decide (1 ≤ n ∧ n ≤ 16) := by
 unfold side
 congr 1
 simp only [eq_iff_iff]
 omega
theorem isSide_any (n : Int) (w : World) : Calls Tryz.prog 64 #[.int .i64 n] w fun e w' => e = .returned (.bool (side n)) ∧ w' = w := by
 go_enter Tryz.func64, Tryz.ntmps64
 go_wp2
 ·go_ret
  exact ⟨ret_bool (by simp [side, *]), rfl⟩
 ·go_ret
  exact ⟨ret_bool (by simp [side]; omega), rfl⟩
theorem unitAt_any (i j : Nat) (w : World) : Calls Tryz.prog 67 #[.int .i64 (i : Int), .int .i64 (j : Int)] w fun e w' => e = .returned (.int .u8 ((Gm.dl i j : Nat) : Int)) ∧ w' = w := by
 by_cases h : i = j
 ·subst h
  rw [Gm.dl_self]
  go_enter Tryz.func67, Tryz.ntmps67
  go_wp2
  go_ret
  exact ⟨rfl, rfl⟩
 ·have h' : ((i : Int) == (j : Int)) = false := by simp; omega
  rw [Gm.dl_ne h]
  go_enter Tryz.func67, Tryz.ntmps67
  go_wp2
  go_ret
  exact ⟨rfl, rfl⟩
def FillBy (g : Nat) (lb : Array Value) (r c : Nat) (F : Nat → Nat → Nat) (w : World) : Prop :=
 ∀ (W : World) (i j : Nat), Below w.heap.size w W → i < r → j < c → Calls Tryz.prog g (#[.int .i64 (i : Int), .int .i64 (j : Int)] ++ lb) W fun e w' => e = .returned (.int .u8 ((F i j : Nat) : Int)) ∧ Below W.heap.size W w'
theorem filled_any (g : Nat) (lb : Array Value) (eg : ∀ args w, (callFunc g args).run Tryz.prog w = .ok (.enter g args) w) (r c : Nat) (F : Nat → Nat → Nat) (w : World) (hp : FillBy g lb r c F w) (hF : ∀ i j, F i j < 256) (hr : r ≤ 1048576) (hc : c ≤ 1048576) :
  Calls Tryz.prog 65 #[.int .i64 (r : Int), .int .i64 (c : Int), .func (.func g) #[] lb] w fun e w' => e = .returned (.slice (some ⟨w.heap.size, 0, none⟩) r r) ∧ (∃ A, MatI w' w.heap.size w'.heap.size (some ⟨w.heap.size, 0, none⟩) r r A (fun _ => c) (fun _ => c) (fun i j => ((F i j : Nat) : Int))) ∧ Below w.heap.size w w' := by
 obtain ⟨i0, hi, hz0, hz1, hz2⟩ := info_parts Tryz.infoInts
 obtain ⟨j0, hj, hy0, hy1, hy2⟩ := info_parts Tryz.infoInt
 go_enter Tryz.func65, Tryz.ntmps65
 go_wp2_with (at_make; refine wpList_make_full _ rfl _ _ 64 rfl w.heap.size 25 i0 (.slice none 0 0) 1 Tryz.underlying64 hi hz0 hz1 .i64 .i64 _ _ r rfl rfl rfl rfl (by rw [hz2]; omega) (by unfold maxLen; omega) (Nat.le_refl _) ?_; intro w1 hown hgrow)
 have hb1 : Below w.heap.size w w1 := (Below.refl _ _).grown hgrow (Nat.le_refl _) (by simp)
 have hlt1 := (World.ownsRow.lt hown _ rfl).2
 have ho1 : MatI w1 w.heap.size w1.heap.size (some ⟨w.heap.size, 0, none⟩) r r (fun _ => none) (fun i => if i < 0 then c else 0) (fun i => if i < 0 then c else 0) (fun i j => ((F i j : Nat) : Int)) :=
  (MatZ.made (by simpa [Value.cells, toList_madeCells_one] using hown) hlt1 _).congr (fun i _ => ⟨rfl, by simp, by simp, fun j hj => rfl⟩)
 have KO : Hid _ := ho1
 have KB : Hid (Below w.heap.size w w1) := hb1
 clear hown hgrow hlt1 ho1 hb1 hi hz0 hz1 hz2
 go_loopw [14] (fun i wr => ∃ k A, k ≤ r ∧ i = .int .i64 ((k : Nat) : Int) ∧ MatI wr w.heap.size wr.heap.size (some ⟨w.heap.size, 0, none⟩) r r A (fun i => if i < k then c else 0) (fun i => if i < k then c else 0) (fun i j => ((F i j : Nat) : Int)) ∧ (∀ i, k ≤ i → A i = none) ∧ Below w.heap.size w wr) (fun i _ => r - (intOf i).toNat)
 case atStart => exact ⟨0, _, Nat.zero_le _, rfl, KO.out, fun _ _ => rfl, KB.out⟩
 case round =>
  obtain ⟨k, A, hk, rfl, hown, hAn, hbel⟩ := hrel
  clear KO KB
  by_cases hlt : k < r
  ·have hlti : (k : Int) < (r : Int) := by omega
   have KA : Hid _ := hAn
   have KM : Hid (MatI wr w.heap.size wr.heap.size (some ⟨w.heap.size, 0, none⟩) r r A (fun i => if i < k then c else 0) (fun i => if i < k then c else 0) (fun i j => ((F i j : Nat) : Int))) := hown
   have KB : Hid (Below w.heap.size w wr) := hbel
   have hsz := hbel.size
   have hGlt := hown.olt.2
   have hold0 := hown.hdr hlt
   have hfr0 := hown.ofree k
   simp only [Nat.lt_irrefl, if_false] at hold0
   clear hAn hown hbel
   go_wp2_with (at_make; refine wpList_make_full _ rfl _ _ 25 rfl wr.heap.size 3 j0 (.int .i64 0) 1 Tryz.underlying25 hj hy0 hy1 .i64 .i64 _ _ c rfl rfl rfl rfl (by rw [hy2]; omega) (by unfold maxLen; omega) (Nat.le_refl _) ?_; intro w2 hown2 hgrow2; have hb2 : Below wr.heap.size wr w2 := (Below.refl _ _).grown hgrow2 (Nat.le_refl _) (by simp); have hold2 := (hb2.cell (p := ⟨w.heap.size, k, none⟩) hGlt).trans hold0; have hfr2 := (World.frozen?_of_block (a := ⟨w.heap.size, k, none⟩) (hb2.block _ hGlt)).trans hfr0)
   have ho2 : w2.ownsRow wr.heap.size 3 1 (.slice (some ⟨wr.heap.size, 0, none⟩) c c) c ((zI (fun _ => 0) c).map (Value.int .i64)) := by
    rw [zI_const c 0 (fun _ _ => rfl)]
    simpa [Value.cells, toList_madeCells_one] using hown2
   have hSR := ((KM.out.below hb2).wide hb2.size).setRow tiNe hlt (own_base ho2 hsz) (World.ownsRow.lt ho2 _ rfl).2 (fun j hj _ x ex => by have := KM.out.rE j hj x ex; exact Nat.ne_of_lt this)
   obtain ⟨A', KA'⟩ : ∃ A', Hid (A' = fun i => if i = k then some ⟨wr.heap.size, 0, none⟩ else A i) := ⟨_, rfl⟩
   obtain ⟨g1, hg1⟩ : ∃ g1, wr.heap.size = g1 := ⟨_, rfl⟩
   rw [hg1] at hSR KA' ⊢
   obtain ⟨w3, hw3⟩ : ∃ w3, w2.setCell ⟨w.heap.size, k, none⟩ (.slice (some ⟨g1, 0, none⟩) c c) = w3 := ⟨_, rfl⟩
   rw [hw3] at hSR ⊢
   have hA'k : A' k = some ⟨g1, 0, none⟩ := by rw [KA'.out]; simp
   have KS : Hid (MatI w3 w.heap.size w3.heap.size (some ⟨w.heap.size, 0, none⟩) r r A' (fun i => if i < k + 1 then c else 0) (fun i => if i < k + 1 then c else 0) (fun i j => if i = k ∧ 0 ≤ j then 0 else ((F i j : Nat) : Int))) :=
    (hSR.1.wide hSR.2.size).congr (fun i _ => by
     rw [KA'.out]
     by_cases e : i = k
     ·subst e; simp
     ·by_cases e2 : i < k
      ·simp [e, e2, show i < k + 1 by omega]
      ·simp [e, e2, show ¬ i < k + 1 by omega])
   have KB2 : Hid (Below w.heap.size w w3) := by
    rw [← hw3]
    exact (below2 KB.out hb2).setCell (Nat.le_refl _) _
   clear hSR hw3 ho2 hown2 hgrow2 hb2 hold2 hfr2 hold0 hfr0 KM KB hGlt
   go_loopw [27] (fun j wr => ∃ q : Nat, q ≤ c ∧ j = .int .i64 (q : Int) ∧ MatI wr w.heap.size wr.heap.size (some ⟨w.heap.size, 0, none⟩) r r A' (fun i => if i < k + 1 then c else 0) (fun i => if i < k + 1 then c else 0) (fun i j => if i = k ∧ q ≤ j then 0 else ((F i j : Nat) : Int)) ∧ Below w.heap.size w wr) (fun j _ => c - (intOf j).toNat)
   case atStart => exact ⟨0, Nat.zero_le _, rfl, KS.out, KB2.out⟩
   case round =>
    obtain ⟨q, hq, rfl, hM, hbel⟩ := hrel
    clear KS KB2
    by_cases hqc : q < c
    ·have hqci : (q : Int) < (c : Int) := by omega
     have hhd := hM.hdr hlt
     rw [hA'k] at hhd
     simp only [Nat.lt_succ_self, if_true] at hhd
     have hel := hM.elt (j := q) hlt hA'k (by simp only [Nat.lt_succ_self, if_true]; exact hqc)
     simp only [Nat.le_refl, and_self, if_true] at hel
     have hcall := hp wr.drew k q ⟨hbel.os, hbel.tape, hbel.output, hbel.size, hbel.block⟩ hlt hqc
     have hFkq := hF k q
     have hGl := hM.olt.2
     have hgl := (hM.glt hlt hA'k).2
     have KM : Hid (MatI wr w.heap.size wr.heap.size (some ⟨w.heap.size, 0, none⟩) r r A' (fun i => if i < k + 1 then c else 0) (fun i => if i < k + 1 then c else 0) (fun i j => if i = k ∧ q ≤ j then 0 else ((F i j : Nat) : Int))) := hM
     have KP : Hid (FillBy g lb r c F w) := hp
     have KF : Hid (∀ i j, F i j < 256) := hF
     have KB : Hid (Below w.heap.size w wr) := hbel
     have hfr := hM.free hlt hA'k q
     clear hM hp hF hbel
     generalize hX : F k q = X at hcall hFkq
     have KX : Hid (F k q = X) := hX
     clear hX
     go_wp2_with fail
     go_region_with ((go_at_fn g; refine Calls.mono hcall ?_; rintro e w5 ⟨rfl, hb5'⟩; have hb5 := below_of_drew hb5'; clear hb5'; have hhd5 := (hb5.cell (p := ⟨w.heap.size, k, none⟩) hGl).trans hhd; have hel5 := (hb5.cell (p := ⟨g1, q, none⟩) hgl).trans hel; have hfr5 := (World.frozen?_of_block (a := ⟨g1, q, none⟩) (hb5.block _ hgl)).trans hfr))
     all_goals
      have hwx : IntKind.i64.wrap (X : Int) = (X : Int) := by rw [IntKind.wrap_i64]; omega
      rw [hwx]
      have hSE := ((KM.out.below hb5).wide hb5.size).setElt tiNe (j := q) hlt hA'k (by simp only [Nat.lt_succ_self, if_true]; exact hqc) (X : Int)
      have HS : Hid (MatI (w5.setCell ⟨g1, q, none⟩ (.int .i64 (X : Int))) w.heap.size (w5.setCell ⟨g1, q, none⟩ (.int .i64 (X : Int))).heap.size (some ⟨w.heap.size, 0, none⟩) r r A' (fun i => if i < k + 1 then c else 0) (fun i => if i < k + 1 then c else 0) (fun i j => if i = k ∧ q + 1 ≤ j then 0 else ((F i j : Nat) : Int))) :=
       (hSE.1.wide hSE.2.size).congr (fun i _ => ⟨rfl, rfl, rfl, fun j _ => by
        by_cases e : i = k
        ·subst e
         by_cases e2 : j = q
         ·subst e2
          rw [if_pos ⟨rfl, rfl⟩, if_neg (by omega), KX.out]
         ·rw [if_neg (by omega)]
          by_cases e3 : q ≤ j
          ·rw [if_pos ⟨rfl, e3⟩, if_pos ⟨rfl, by omega⟩]
          ·rw [if_neg (by omega), if_neg (by omega)]
        ·rw [if_neg (by omega), if_neg (by omega), if_neg (by omega)]⟩)
      have HB : Hid (Below w.heap.size w (w5.setCell ⟨g1, q, none⟩ (.int .i64 (X : Int)))) := (below2 KB.out hb5).setCell (show w.heap.size ≤ g1 by omega) _
      clear hSE hcall
      go_wp2
      go_roundw
      case rel => exact ⟨q + 1, by omega, by go_num, HS.out, HB.out⟩
      case measure => simp [intOf] <;> omega
    ·obtain rfl : q = c := by omega
     have KM : Hid (MatI wr w.heap.size wr.heap.size (some ⟨w.heap.size, 0, none⟩) r r A' (fun i => if i < k + 1 then q else 0) (fun i => if i < k + 1 then q else 0) (fun i j => if i = k ∧ q ≤ j then 0 else ((F i j : Nat) : Int))) := hM
     have KP : Hid (FillBy g lb r q F w) := hp
     clear hM hp
     go_wp2
     go_roundw
     case rel => exact ⟨k + 1, A', by omega, by go_num, KM.out.congr (fun i hi => ⟨rfl, rfl, rfl, fun j hj => by
      rw [if_neg]
      intro h
      by_cases e : i < k + 1
      ·rw [if_pos e] at hj; omega
      ·omega⟩), fun i hi => by rw [KA'.out]; simp [show i ≠ k by omega, KA.out i (by omega)], hbel⟩
     case measure => simp [intOf] <;> omega
  ·obtain rfl : k = r := by omega
   have KM : Hid _ := hown
   clear hown hAn hp
   go_wp2
   go_ret
   exact ⟨rfl, ⟨A, KM.out.congr (fun i hi => ⟨rfl, if_pos hi, if_pos hi, fun j _ => rfl⟩)⟩, hbel⟩
def OkM (n : Nat) (L : Nat → Nat) (Z : Nat → Nat → Int) : Prop := 1 ≤ n ∧ n ≤ 16 ∧ 1 ≤ L 0 ∧ L 0 ≤ 16 ∧ ∀ i, i < n → L i = L 0 ∧ ∀ j, j < L 0 → isB (Z i j) = true
def cZ (Z : Nat → Nat → Int) (i j : Nat) : Nat := (Z i j).toNat
theorem readE_z (z : Nat → Int) (n : Nat) {w : World} {B g : Nat} (h : OwnU w B g n n (coP (zI z n))) : w.ownsRow B 104 1 (.slice (some ⟨g, 0, none⟩) n n) n ((zI (fun j => (((z j).toNat : Nat) : Int)) n).map (Value.int .u8)) := by
 unfold OwnU at h
 rw [eI_zI, zI_congr (g := fun j => (((z j).toNat : Nat) : Int)) (fun j hj => by unfold coP; rw [zI_getD z n j hj])] at h
 exact h
theorem readM_yes (a : Option Addr) (n cap : Nat) (L : Nat → Nat) (Z : Nat → Nat → Int) (w : World) (h : MatAt w a n L Z) (ok : OkM n L Z) :
  Calls Tryz.prog 137 #[.slice a n cap] w fun e w' => e = .returned (.tuple #[.slice (some ⟨w.heap.size, 0, none⟩) n n, .bool true]) ∧ (∃ g : Nat → Nat, MatU w' w.heap.size w'.heap.size (some ⟨w.heap.size, 0, none⟩) n n (fun i => some ⟨g i, 0, none⟩) (fun _ => L 0) (fun _ => L 0) (fun i j => ((cZ Z i j : Nat) : Int))) ∧ Below w.heap.size w w' := by
 obtain ⟨i0, hi, hz0, hz1, hz2⟩ := info_parts Tryz.infoElems
 obtain ⟨hn1, hn2, hl1, hl2, hall⟩ := ok
 obtain ⟨b0, off0, ai0, ci0, e0, hc0, _⟩ := h 0 (by omega)
 subst e0
 rw [Nat.add_zero] at hc0
 obtain ⟨l, hl⟩ : ∃ l, L 0 = l := ⟨_, rfl⟩
 rw [hl] at hc0 hl1 hl2 hall ⊢
 have hs1 : side (n : Int) = true := by rw [side_nat]; simp; omega
 have hs2 : side (l : Int) = true := by rw [side_nat]; simp; omega
 have hn1' : (1 : Int) ≤ (n : Int) := by omega
 have hb0 := block_lt_of_cell hc0
 have KH : Hid (MatAt w (some ⟨b0, off0, none⟩) n L Z) := h
 have KA : Hid _ := hall
 clear h hall hl
 go_enter Tryz.func137, Tryz.ntmps137
 go_wp2_with (first | (go_at_call 64; refine (isSide_any _ _).mono ?_; rintro e w' ⟨rfl, hw⟩; obtain rfl := hw.symm) | (at_make; refine wpList_make_full _ rfl _ _ 186 rfl w.heap.size 189 i0 (.slice none 0 0) 1 Tryz.underlying186 hi hz0 hz1 .i64 .i64 _ _ n rfl rfl rfl rfl (by rw [hz2]; omega) (by unfold maxLen; omega) (Nat.le_refl _) ?_; intro w1 hown hgrow))
 have hb1 : Below w.heap.size w w1 := (Below.refl _ _).grown hgrow (Nat.le_refl _) (by simp)
 have hlt1 := (World.ownsRow.lt hown _ rfl).2
 have KO : Hid (MatU w1 w.heap.size w1.heap.size (some ⟨w.heap.size, 0, none⟩) n n (fun i => if i < 0 then some ⟨0, 0, none⟩ else none) (fun i => if i < 0 then l else 0) (fun i => if i < 0 then l else 0) (fun i j => ((cZ Z i j : Nat) : Int))) :=
  (MatZ.made (by simpa [Value.cells, toList_madeCells_one] using hown) hlt1 _).congr (fun i _ => ⟨by simp, by simp, by simp, fun j hj => rfl⟩)
 have KB : Hid (Below w.heap.size w w1) := hb1
 clear hown hgrow hlt1 hb1 hi hz0 hz1 hz2
 go_loopw [26] (fun i wr => ∃ (k : Nat) (g : Nat → Nat), k ≤ n ∧ i = .int .i64 ((k : Nat) : Int) ∧ MatU wr w.heap.size wr.heap.size (some ⟨w.heap.size, 0, none⟩) n n (fun i => if i < k then some ⟨g i, 0, none⟩ else none) (fun i => if i < k then l else 0) (fun i => if i < k then l else 0) (fun i j => ((cZ Z i j : Nat) : Int)) ∧ Below w.heap.size w wr) (fun i _ => n - (intOf i).toNat)
 case atStart => exact ⟨0, fun _ => 0, Nat.zero_le _, rfl, KO.out, KB.out⟩
 case round =>
  obtain ⟨k, g, hk, rfl, hown, hbel⟩ := hrel
  clear KO KB
  by_cases hlt : k < n
  ·have hlti : (k : Int) < (n : Int) := by omega
   obtain ⟨b, off, ai, ci, eb, hc, hr⟩ := KH.out.below hbel k hlt
   cases eb
   have hLk := (KA.out k hlt).1
   have hBk := (KA.out k hlt).2
   rw [hLk] at hc hr
   have hc0' := (hbel.cell (p := ⟨b0, off0, none⟩) hb0).trans hc0
   have hrd := readE_yes ai l ci (zI (Z k) l) wr hr (by omega) (fun i hi => by rw [zI_getD _ _ _ hi]; exact hBk i hi)
   have KM : Hid (MatU wr w.heap.size wr.heap.size (some ⟨w.heap.size, 0, none⟩) n n (fun i => if i < k then some ⟨g i, 0, none⟩ else none) (fun i => if i < k then l else 0) (fun i => if i < k then l else 0) (fun i j => ((cZ Z i j : Nat) : Int))) := hown
   have KR : Hid _ := hrd
   have KB : Hid (Below w.heap.size w wr) := hbel
   clear hown hrd hBk hr hLk hc0
   go_wp2_with fail
   refine Calls.mono KR.out ?_
   rintro e w2 ⟨rfl, ho2, hb2⟩
   have hM := (KM.out.below hb2).wide hb2.size
   have hold := hM.hdr hlt
   have hfr := hM.ofree k
   simp only [Nat.lt_irrefl, if_false] at hold
   have hsz := hbel.size
   have hSR := hM.setRow teNe hlt (own_base (readE_z (Z k) l ho2) hsz) (OwnU.lt ho2).2 (fun j hj _ x ex => by have := KM.out.rE j hj x ex; exact Nat.ne_of_lt this)
   have HS : Hid (MatU (w2.setCell ⟨w.heap.size, k, none⟩ (.slice (some ⟨wr.heap.size, 0, none⟩) l l)) w.heap.size (w2.setCell ⟨w.heap.size, k, none⟩ (.slice (some ⟨wr.heap.size, 0, none⟩) l l)).heap.size (some ⟨w.heap.size, 0, none⟩) n n (fun i => if i < k + 1 then some ⟨(fun i => if i = k then wr.heap.size else g i) i, 0, none⟩ else none) (fun i => if i < k + 1 then l else 0) (fun i => if i < k + 1 then l else 0) (fun i j => ((cZ Z i j : Nat) : Int))) :=
    (hSR.1.wide hSR.2.size).congr (fun i _ => by
     by_cases e : i = k
     ·subst e; simp [cZ]
     ·by_cases e2 : i < k
      ·simp [e, e2, show i < k + 1 by omega]
      ·simp [e, e2, show ¬ i < k + 1 by omega])
   have HB : Hid (Below w.heap.size w (w2.setCell ⟨w.heap.size, k, none⟩ (.slice (some ⟨wr.heap.size, 0, none⟩) l l))) := (below2 KB.out hb2).setCell (Nat.le_refl _) _
   clear hM ho2 hb2 hbel hSR KM KR
   go_wp2
   go_roundw
   case rel => exact ⟨k + 1, _, by omega, by go_num, HS.out, HB.out⟩
   case measure => simp [intOf] <;> omega
  ·obtain rfl : k = n := by omega
   have KM : Hid (MatU wr w.heap.size wr.heap.size (some ⟨w.heap.size, 0, none⟩) k k (fun i => if i < k then some ⟨g i, 0, none⟩ else none) (fun i => if i < k then l else 0) (fun i => if i < k then l else 0) (fun i j => ((cZ Z i j : Nat) : Int))) := hown
   clear hown
   go_wp2
   go_ret2
   exact ⟨rfl, ⟨g, KM.out.congr (fun i hi => ⟨if_pos hi, if_pos hi, if_pos hi, fun j _ => rfl⟩)⟩, hbel⟩
theorem OkM.not {n : Nat} {L : Nat → Nat} {Z : Nat → Nat → Int} (h : ¬ OkM n L Z) (h1 : 1 ≤ n) (h2 : n ≤ 16) (h3 : 1 ≤ L 0) (h4 : L 0 ≤ 16) : ∃ q, q < n ∧ ¬ (L q = L 0 ∧ ∀ j, j < L 0 → isB (Z q j) = true) := by
 refine Classical.byContradiction fun hno => h ⟨h1, h2, h3, h4, fun i hi => ?_⟩
 exact Classical.byContradiction fun hc => hno ⟨i, hi, hc⟩
theorem readM_no (a : Option Addr) (n cap : Nat) (L : Nat → Nat) (Z : Nat → Nat → Int) (w : World) (h : MatAt w a n L Z) (hL : ∀ i, i < n → L i ≤ 1048576) (ok : ¬ OkM n L Z) :
  Calls Tryz.prog 137 #[.slice a n cap] w fun e w' => e = .returned (.tuple #[.slice none 0 0, .bool false]) ∧ Below w.heap.size w w' := by
 obtain ⟨i0, hi, hz0, hz1, hz2⟩ := info_parts Tryz.infoElems
 by_cases hn : 1 ≤ n ∧ n ≤ 16
 ·obtain ⟨hn1, hn2⟩ := hn
  obtain ⟨b0, off0, ai0, ci0, e0, hc0, _⟩ := h 0 (by omega)
  subst e0
  rw [Nat.add_zero] at hc0
  have hs1 : side (n : Int) = true := by rw [side_nat]; simp; omega
  have hn1' : (1 : Int) ≤ (n : Int) := by omega
  have hb0 := block_lt_of_cell hc0
  by_cases hl : 1 ≤ L 0 ∧ L 0 ≤ 16
  ·obtain ⟨hl1, hl2⟩ := hl
   obtain ⟨q, hq, hbad⟩ := OkM.not ok hn1 hn2 hl1 hl2
   obtain ⟨l, hl⟩ : ∃ l, L 0 = l := ⟨_, rfl⟩
   rw [hl] at hc0 hl1 hl2 hbad
   have hs2 : side (l : Int) = true := by rw [side_nat]; simp; omega
   have KH : Hid (MatAt w (some ⟨b0, off0, none⟩) n L Z) := h
   have KL : Hid _ := hL
   have KB : Hid _ := hbad
   clear h hl hL hbad ok
   go_enter Tryz.func137, Tryz.ntmps137
   go_wp2_with (first | (go_at_call 64; refine (isSide_any _ _).mono ?_; rintro e w' ⟨rfl, hw⟩; obtain rfl := hw.symm) | (at_make; refine wpList_make_full _ rfl _ _ 186 rfl w.heap.size 189 i0 (.slice none 0 0) 1 Tryz.underlying186 hi hz0 hz1 .i64 .i64 _ _ n rfl rfl rfl rfl (by rw [hz2]; omega) (by unfold maxLen; omega) (Nat.le_refl _) ?_; intro w1 hown hgrow))
   have hb1 : Below w.heap.size w w1 := (Below.refl _ _).grown hgrow (Nat.le_refl _) (by simp)
   clear hgrow hi hz0 hz1 hz2
   go_loopw [26] (fun i wr => ∃ (k : Nat) (vs : List Value), k ≤ q ∧ i = .int .i64 ((k : Nat) : Int) ∧ wr.ownsRow w.heap.size 189 1 (.slice (some ⟨w.heap.size, 0, none⟩) n n) n vs ∧ Below w.heap.size w wr) (fun i _ => n - (intOf i).toNat)
   case atStart => exact ⟨0, _, Nat.zero_le _, rfl, hown, hb1⟩
   case round =>
    obtain ⟨k, vs, hk, rfl, hown', hbel⟩ := hrel
    clear hown hb1
    have hlt : k < n := by omega
    have hlti : (k : Int) < (n : Int) := by omega
    obtain ⟨b, off, ai, ci, eb, hc, hr⟩ := KH.out.below hbel k hlt
    cases eb
    have hc0' := (hbel.cell (p := ⟨b0, off0, none⟩) hb0).trans hc0
    have hLk := KL.out k hlt
    clear hc0
    by_cases hkl : L k = l
    ·rw [hkl] at hc hr
     by_cases hB : ∀ j, j < l → isB (Z k j) = true
     ·have hkq : k ≠ q := fun e => KB.out (by rw [← e]; exact ⟨hkl, hB⟩)
      have hrd := readE_yes ai l ci (zI (Z k) l) wr hr (by omega) (fun i hi => by rw [zI_getD _ _ _ hi]; exact hB i hi)
      obtain ⟨old, hold⟩ : ∃ v, wr.cell? ⟨w.heap.size, k, none⟩ = some v := by
       rw [hown'.cellAt k (by omega)]
       exact ⟨_, List.getElem?_eq_getElem (by rw [hown'.1]; omega)⟩
      have hfr := hown'.frozenAt k
      have hGlt := (hown'.lt _ rfl).2
      have KR : Hid _ := hrd
      have KW : Hid _ := hown'
      have KE : Hid (Below w.heap.size w wr) := hbel
      clear hrd hB hr hown' hbel
      go_wp2_with fail
      refine Calls.mono KR.out ?_
      rintro e w2 ⟨rfl, _, hb2⟩
      have hold2 := (hb2.cell (p := ⟨w.heap.size, k, none⟩) hGlt).trans hold
      have hfr2 := (World.frozen?_of_block (a := ⟨w.heap.size, k, none⟩) (hb2.block _ hGlt)).trans hfr
      have HS : Hid _ := ((ownsRow_below KW.out hb2).stored k (.slice (some ⟨wr.heap.size, 0, none⟩) l l)).1
      have HB : Hid (Below w.heap.size w (w2.setCell ⟨w.heap.size, k, none⟩ (.slice (some ⟨wr.heap.size, 0, none⟩) l l))) := (below2 KE.out hb2).setCell (Nat.le_refl _) _
      clear hb2 hold hfr KR KW
      go_wp2
      go_roundw
      case rel => exact ⟨k + 1, _, by omega, by go_num, HS.out, HB.out⟩
      case measure => simp [intOf] <;> omega
     ·have hrd := readE_no ai l ci (zI (Z k) l) wr hr (by omega) (by
       refine Classical.byContradiction fun hno => hB fun j hj => ?_
       refine Classical.byContradiction fun hc => hno ⟨j, hj, ?_⟩
       rw [zI_getD _ _ _ hj]
       simpa using hc)
      have KR : Hid _ := hrd
      have KE : Hid (Below w.heap.size w wr) := hbel
      clear hrd hB hr hown' hbel
      go_wp2_with fail
      refine Calls.mono KR.out ?_
      rintro e w2 ⟨rfl, hb2⟩
      go_wp2
      go_ret2
      exact ⟨rfl, below2 KE.out hb2⟩
    ·have hne : ((L k : Int) != (l : Int)) = true := by simp; omega
     generalize L k = lk at hc hne
     clear hown' hr
     go_wp2
     go_ret2
     exact ⟨rfl, hbel⟩
  ·have hs2 : side (L 0 : Int) = false := by rw [side_nat]; simp; omega
   clear h hL ok hl
   generalize L 0 = l at hc0 hs2
   go_enter Tryz.func137, Tryz.ntmps137
   go_wp2_with (go_at_call 64; refine (isSide_any _ _).mono ?_; rintro e w' ⟨rfl, hw⟩; obtain rfl := hw.symm)
   go_ret2
   exact ⟨rfl, Below.refl _ _⟩
 ·have hs1 : side (n : Int) = false := by rw [side_nat]; simp; omega
  clear h hL ok
  go_enter Tryz.func137, Tryz.ntmps137
  go_wp2_with (go_at_call 64; refine (isSide_any _ _).mono ?_; rintro e w' ⟨rfl, hw⟩; obtain rfl := hw.symm)
  go_ret2
  exact ⟨rfl, Below.refl _ _⟩
noncomputable def okM (n : Nat) (L : Nat → Nat) (Z : Nat → Nat → Int) : Bool := @decide (OkM n L Z) (Classical.propDecidable _)
theorem okM_yes {n : Nat} {L : Nat → Nat} {Z : Nat → Nat → Int} (h : OkM n L Z) : okM n L Z = true := by unfold okM; exact @decide_eq_true _ (Classical.propDecidable _) h
theorem okM_no {n : Nat} {L : Nat → Nat} {Z : Nat → Nat → Int} (h : ¬ OkM n L Z) : okM n L Z = false := by unfold okM; exact @decide_eq_false _ (Classical.propDecidable _) h
end Go.Proofs.YtodnodekheaacaaGreatDoor
