import Derived.Test.YtodnodekheaacaaGreatDoorG6
import Derived.Deep.AppendLies
import Derived.Test.YtodnodekheaacaaGreatDoorG2
import Derived.Deep.Matrix
import Derived.Shelf.Abstract
set_option maxHeartbeats 8000000
set_option maxRecDepth 2000
open Go.ChangeShapes Go.WideShapes Go.ChangeAt Go.RowKit
namespace Go.Proofs.YtodnodekheaacaaGreatDoor
def Under (a : Option Addr) (n g : Nat) : Prop := 0 < n → ∀ b off, a = some ⟨b, off, none⟩ → b < g
theorem CodeAt.under {w : World} {a : Option Addr} {n g : Nat} (h : CodeAt w a n) (hg : w.heap.size ≤ g) : Under a n g := by
 intro hn b off e
 obtain ⟨b', off', x, e', hc, _⟩ := h.2 0 hn
 rw [e] at e'
 simp at e'
 have := block_lt_of_cell hc
 simp at this
 omega
theorem Cur.far {w w' : World} {g n cap r : Nat} {a : Option Addr} (h : Cur w g a n cap) (hg : w.grownBy w' (some r)) (hr : g < r) (hab : Under a n g) : Cur w' g a n cap := by
 obtain ⟨hn, ⟨i, hh, hi, hblk⟩, hby⟩ := h
 refine ⟨hn, ⟨i, hh, hi, ?_⟩, ?_⟩
 ·rw [hg.block g (Array.getElem?_eq_some_iff.1 hblk).1 (by simp; omega)]; exact hblk
 ·intro j hj
  obtain ⟨b, off, x, e, hbg, hc, hx⟩ := hby j hj
  have := hab (by omega) b off e
  exact ⟨b, off, x, e, hbg, hg.cell hc (by simp; omega), hx⟩
theorem grown_new {w0 w w' : World} {g r : Nat} (h : w0.grownBy w (some g)) (k : w.grownBy w' (some r)) (hr : w0.heap.size ≤ r) : w0.grownBy w' (some g) :=
 ⟨k.os.trans h.os, k.tape.trans h.tape, k.output.trans h.output, Nat.le_trans h.size k.size, fun j hj hn => (k.block j (Nat.lt_of_lt_of_le hj h.size) (by simp; omega)).trans (h.block j hj hn)⟩
theorem bytes_any (g n cap : Nat) (a : Option Addr) (m : Nat) (w : World) (hc : Cur w g a n cap) (hab : Under a n g) (hm : m ≤ 4000) :
  Calls Tryz.prog 49 #[.pointer (some ⟨g, 0, none⟩), .int .i64 (m : Int)] w fun e w' => ∃ s : ByteArray, s.size = m ∧ e = .returned (.string s) ∧ w.grownBy w' (some g) ∧ Cur w' g a n cap := by
 obtain ⟨i0, hi, hz0, hz1, hz2⟩ := info_parts Tryz.infoByte
 have hgl := hc.lt
 go_enter Tryz.func49, Tryz.ntmps49
 go_wp2
 have ho1 : (w.alloc (.cells #[] 5)).ownsRow w.heap.size 5 1 (.slice (some ⟨w.heap.size, 0, none⟩) 0 0) 0 (([] : List Int).map (Value.int .u8)) :=
  World.ownsRow_lit w #[] 0 (Nat.le_refl _) (by unfold maxLen; omega) rfl
 go_loopw [5, 6] (fun v i wr => ∃ (k gg cap2 : Nat) (xs : List Int), k ≤ m ∧ i = .int .i64 k ∧ v = .slice (some ⟨gg, 0, none⟩) k cap2 ∧ w.heap.size ≤ gg ∧ wr.ownsRow w.heap.size 5 1 (.slice (some ⟨gg, 0, none⟩) k cap2) k (xs.map (Value.int .u8)) ∧ w.grownBy wr (some g) ∧ Cur wr g a n cap) (fun _ i _ => m - (intOf i).toNat)
 case atStart => exact ⟨0, _, _, [], Nat.zero_le _, rfl, rfl, Nat.le_refl _, ho1, World.grownBy_alloc _ _ _, hc.alloc _⟩
 case round =>
  obtain ⟨k, gg, cap2, xs, hk, rfl, rfl, hgg, hown, hgr, hcr⟩ := hrel
  clear ho1 hc
  by_cases hlt : k < m
  ·have hlti : (k : Int) < (m : Int) := by omega
   go_wp2_with fail
   refine (belowN_any g n cap a _ _ hcr).mono ?_
   rintro e w1 ⟨x, x0, x1, _, rfl, hg1, hc1⟩
   have x2 := x1 (by omega)
   have hown1 := hown.kept hg1 (.inr (by simp [Value.ownBlock]; omega))
   have hs1 : w.heap.size ≤ w1.heap.size := Nat.le_trans hgr.size hg1.size
   clear hown hcr x1
   go_wp2_with (at_builtin; refine wpList_append_lies _ (by rfl) _ _ 22 (by rfl) w.heap.size 5 i0 (.int .u8 0) 1 1 Tryz.underlying22 hi hz0 hz1 hz2 rfl (by decide) (.slice (some ⟨gg, 0, none⟩) k cap2) k _ (by rfl) (hown1.alloc _) ⟨w1.heap.size, 0, none⟩ 1 1 [.int .u8 x] (by rfl) (by rfl) (World.news_of_block (cs := #[.int .u8 x]) (t := 5) (fr := (0, 0)) (heap_alloc_new w1 _)) (by simp [Value.oneCell']) (by omega) (by unfold maxLen; omega) (by omega) (by simp; omega) (w1.heap.size + 1) (by simp) ?_; intro g2 cap3 w2 hown2 hgrow hat hltg)
   have hgrow' : (w1.alloc (.cells #[.int .u8 x] 5)).grownBy w2 (some gg) := hgrow
   go_roundw
   case rel => exact ⟨k + 1, g2, cap3, xs ++ [x], by omega, by go_num, rfl, (hown2.lt g2 rfl).1, by rw [List.map_append]; exact hown2, grown_new (grownBy_trans (grownBy_trans hgr hg1) (World.grownBy_alloc w1 _ _)) hgrow' hgg, (hc1.alloc _).far hgrow' (by omega) hab⟩
   case measure => simp [intOf]; omega
  ·have e : k = m := by omega
   subst e
   have hl : xs.length = k := by simpa using hown.1
   have HL : Hid (xs.length = k) := hl
   clear hl
   have hcv := run_convert_bytes_arg (P := Tryz.prog) wr 22 5 Tryz.underlying22 Tryz.underlying5 gg 0 k cap2 xs HL.out (fun i hi => by
    rw [Nat.zero_add, hown.cellAt i (by omega)]
    simp [HL.out, hi]) 9 Tryz.underlying9
   go_wp2
   go_ret
   exact ⟨_, by rw [strOfNums_size]; exact HL.out, rfl, hgr, hcr⟩
def marks (k n : Nat) : List Int := eI (fun i => k + i) n
theorem owns_cap {w : World} {B E g n cap : Nat} {xs : List Value} (h : w.ownsRow B E 1 (.slice (some ⟨g, 0, none⟩) n cap) n xs) : n ≤ cap := by
 rcases h.2 with h' | ⟨g', cap', cur, e, _, _, hn, _⟩
 ·cases h'.1
 ·cases e; exact hn
def pf (F : Nat → Nat → Nat) (N : Nat → Nat) : Nat → (Nat → Nat) × Nat
 | 0 => (Gp.one, 1)
 | i + 1 => (Gp.cv (pf F N i).1 (F i) (pf F N i).2, Gp.tl (Gp.cv (pf F N i).1 (F i) (pf F N i).2) ((pf F N i).2 + N i))
def OwnR (w : World) (B g n cap : Nat) (f : Nat → Nat) : Prop := w.ownsRow B 3 1 (.slice (some ⟨g, 0, none⟩) n cap) n ((eI f n).map (Value.int .i64))
theorem OwnR.lt {w : World} {B g n cap : Nat} {f : Nat → Nat} (h : OwnR w B g n cap f) : B ≤ g ∧ g < w.heap.size := World.ownsRow.lt h g rfl
theorem eI_snoc (f : Nat → Nat) (k : Nat) : eI f (k + 1) = eI f k ++ [((f k : Nat) : Int)] := by
 unfold eI
 rw [List.range_succ, List.map_append]
 rfl
theorem OwnR.snoc {w : World} {B g k cap : Nat} {f : Nat → Nat} (h : w.ownsRow B 3 1 (.slice (some ⟨g, 0, none⟩) (k + 1) cap) (k + 1) ((eI f k).map (Value.int .i64) ++ [.int .i64 ((f k : Nat) : Int)])) : OwnR w B g (k + 1) cap f := by
 unfold OwnR
 rw [eI_snoc, List.map_append]
 exact h
theorem sBytes_any (a : Option Addr) (n cap : Nat) (zs : List Int) (w : World) (h : IntsAt w a n zs) (hn : n ≤ 1048576) :
  Calls Tryz.prog 163 #[.slice a n cap] w fun e w' => e = .returned (.bool (zs.all isB)) ∧ w' = w := by
 have HL : Hid (zs.length = n) := h.1
 go_enter Tryz.func163, Tryz.ntmps163
 go_wp2
 go_loop [3] (fun p => ∃ k : Nat, k ≤ n ∧ p = .int .i64 k ∧ Hid (∀ j : Nat, j < k → isB (zs.getD j 0) = true)) (fun p => n - (intOf p).toNat)
 case atStart => exact ⟨0, by omega, rfl, fun j hj => absurd hj (by omega)⟩
 case round =>
  obtain ⟨k, hk, rfl, HB⟩ := hrel
  by_cases hlt : k < n
  ·obtain ⟨b, off, rfl, hc⟩ := h.2 k hlt
   have hltI : (k : Int) < (n : Int) := by omega
   clear h
   obtain ⟨x, HX⟩ : ∃ x, Hid (x = zs.getD k 0) := ⟨_, rfl⟩
   rw [← HX.out] at hc
   by_cases hx : isB x = true
   ·go_wp2_with (go_at_call 76; refine (sIs_any _ _).mono ?_; rintro e w' ⟨rfl, rfl⟩)
    go_round
    case rel => exact ⟨k + 1, by omega, by go_num, fun j hj => by
     by_cases e : j = k
     ·subst e; rw [← HX.out]; exact hx
     ·exact HB.out j (by omega)⟩
    case measure => simp [intOf] <;> omega
   ·have hx' : isB x = false := by simpa using hx
    have HR : Hid (zs.all isB = false) := by
     show _ = _
     rw [List.all_eq_false]
     refine ⟨x, ?_, hx⟩
     rw [HX.out]
     have := HL.out
     have hl : k < zs.length := by omega
     simp [List.getD, hl]
    go_wp2_with (go_at_call 76; refine (sIs_any _ _).mono ?_; rintro e w' ⟨rfl, rfl⟩)
    go_ret
    exact ⟨ret_bool HR.out.symm, rfl⟩
  ·have HR : Hid (zs.all isB = true) := by
    show _ = _
    rw [List.all_eq_true]
    intro x hx
    obtain ⟨i, hi, rfl⟩ := List.mem_iff_getElem.1 hx
    have := HL.out
    have h2 := HB.out i (by omega)
    simpa [List.getD, hi] using h2
   clear h
   go_wp2
   go_ret
   exact ⟨ret_bool HR.out.symm, rfl⟩
theorem lit0 (w : World) (f : Nat → Nat) : OwnR (w.alloc (.cells #[] 3)) w.heap.size w.heap.size 0 0 f :=
 World.ownsRow_lit w #[] 0 (Nat.le_refl _) (by unfold maxLen; omega) rfl
def zI (z : Nat → Int) (n : Nat) : List Int := (List.range n).map z
theorem zI_len (z : Nat → Int) (n : Nat) : (zI z n).length = n := by simp [zI]
theorem zI_get (z : Nat → Int) (n i : Nat) (h : i < n) : (zI z n)[i]? = some (z i) := by simp [zI, h]
theorem zI_getD (z : Nat → Int) (n i : Nat) (h : i < n) : (zI z n).getD i 0 = z i := by simp [List.getD, zI_get z n i h]
theorem zI_congr {f g : Nat → Int} {n : Nat} (h : ∀ i, i < n → f i = g i) : zI f n = zI g n := by
 unfold zI
 apply List.map_congr_left
 intro i hi
 rw [h i (List.mem_range.1 hi)]
theorem zI_set (z : Nat → Int) (n k : Nat) (v : Int) (d : IntKind) (h : k < n) : ((zI z n).map (Value.int d)).set k (.int d v) = (zI (fun i => if i = k then v else z i) n).map (Value.int d) := by
 apply List.ext_getElem?
 intro i
 rw [List.getElem?_set]
 by_cases hi : i < n
 ·by_cases e : k = i
  ·subst e
   simp [zI, h]
  ·simp [zI, hi, e, Ne.symm e]
 ·by_cases e : k = i
  ·omega
  ·rw [if_neg e, List.getElem?_eq_none (by simp [zI_len]; omega), List.getElem?_eq_none (by simp [zI_len]; omega)]
theorem eI_zI (f : Nat → Nat) (n : Nat) : eI f n = zI (fun i => ((f i : Nat) : Int)) n := rfl
theorem zI_const {z : Nat → Int} (n : Nat) (v : Int) (h : ∀ i, i < n → z i = v) : zI z n = List.replicate n v := by
 apply List.ext_getElem?
 intro i
 by_cases hi : i < n
 ·rw [zI_get z n i hi, h i hi]
  simp [hi]
 ·rw [List.getElem?_eq_none (by rw [zI_len]; omega), List.getElem?_eq_none (by simp; omega)]
def hds (A : Nat → Option Addr) (L C : Nat → Nat) (n : Nat) : List Value := (List.range n).map fun i => Value.slice (A i) (L i) (C i)
theorem hds_len (A : Nat → Option Addr) (L C : Nat → Nat) (n : Nat) : (hds A L C n).length = n := by simp [hds]
theorem hds_get (A : Nat → Option Addr) (L C : Nat → Nat) (n i : Nat) (h : i < n) : (hds A L C n)[i]? = some (Value.slice (A i) (L i) (C i)) := by simp [hds, h]
theorem hds_set (A : Nat → Option Addr) (L C : Nat → Nat) (n k : Nat) (x : Option Addr) (l c : Nat) : (hds A L C n).set k (.slice x l c) = hds (fun i => if i = k then x else A i) (fun i => if i = k then l else L i) (fun i => if i = k then c else C i) n := by
 apply List.ext_getElem?
 intro i
 rw [List.getElem?_set]
 by_cases hi : i < n
 ·rw [hds_get (fun i => if i = k then x else A i) _ _ _ _ hi]
  by_cases e : k = i
  ·subst e
   rw [if_pos rfl, if_pos (by rw [hds_len]; exact hi)]
   simp
  ·rw [if_neg e, hds_get _ _ _ _ _ hi]
   simp [Ne.symm e]
 ·rw [List.getElem?_eq_none (l := hds (fun i => if i = k then x else A i) _ _ _) (by rw [hds_len]; omega)]
  by_cases e : k = i
  ·subst e
   rw [if_pos rfl, if_neg (by rw [hds_len]; omega)]
  ·rw [if_neg e, List.getElem?_eq_none (by rw [hds_len]; omega)]
theorem hds_congr {A A' : Nat → Option Addr} {L L' C C' : Nat → Nat} {n : Nat} (h : ∀ i, i < n → A i = A' i ∧ L i = L' i ∧ C i = C' i) : hds A L C n = hds A' L' C' n := by
 unfold hds
 apply List.map_congr_left
 intro i hi
 obtain ⟨h1, h2, h3⟩ := h i (List.mem_range.1 hi)
 rw [h1, h2, h3]
theorem hds_snoc (A : Nat → Option Addr) (L C : Nat → Nat) (n : Nat) : hds A L C (n + 1) = hds A L C n ++ [Value.slice (A n) (L n) (C n)] := by
 unfold hds
 rw [List.range_succ, List.map_append]
 rfl
structure MatZ (k : IntKind) (T TT : Nat) (w : World) (B E : Nat) (a : Option Addr) (n cap : Nat) (A : Nat → Option Addr) (L C : Nat → Nat) (Z : Nat → Nat → Int) : Prop where
 out : w.ownsRow B TT 1 (.slice a n cap) n (hds A L C n)
 oE : ∀ x, a = some x → x.block < E
 row : ∀ i, i < n → w.ownsRow B T 1 (.slice (A i) (L i) (C i)) (L i) ((zI (Z i) (L i)).map (Value.int k))
 rE : ∀ i, i < n → ∀ x, A i = some x → x.block < E
 apart : ∀ i j, i < n → j < n → i ≠ j → ∀ x y, A i = some x → A j = some y → x.block ≠ y.block
section
variable {k : IntKind} {T TT : Nat} {w w' : World} {B E : Nat} {a : Option Addr} {n cap : Nat} {A : Nat → Option Addr} {L C : Nat → Nat} {Z : Nat → Nat → Int}
theorem MatZ.addr (h : MatZ k T TT w B E a n cap A L C Z) (hn : 0 < n) : ∃ G, a = some ⟨G, 0, none⟩ := by
 rcases own_shape h.out with ⟨_, h0, _⟩ | ⟨g, _, e, _⟩
 ·omega
 ·exact ⟨g, e⟩
theorem MatZ.hdr {G i : Nat} (h : MatZ k T TT w B E (some ⟨G, 0, none⟩) n cap A L C Z) (hi : i < n) : w.cell? ⟨G, i, none⟩ = some (.slice (A i) (L i) (C i)) := by
 rw [h.out.cellAt i (by omega), hds_get _ _ _ _ _ hi]
theorem MatZ.elt {g i j : Nat} (h : MatZ k T TT w B E a n cap A L C Z) (hi : i < n) (hA : A i = some ⟨g, 0, none⟩) (hj : j < L i) : w.cell? ⟨g, j, none⟩ = some (.int k (Z i j)) := by
 have hr := h.row i hi
 rw [hA] at hr
 rw [hr.cellAt j (by omega)]
 simp [zI, hj]
theorem MatZ.free {g i : Nat} (h : MatZ k T TT w B E a n cap A L C Z) (hi : i < n) (hA : A i = some ⟨g, 0, none⟩) (j : Nat) : w.frozen? ⟨g, j, none⟩ = false := by
 have hr := h.row i hi
 rw [hA] at hr
 exact hr.frozenAt j
theorem MatZ.ofree {G : Nat} (h : MatZ k T TT w B E (some ⟨G, 0, none⟩) n cap A L C Z) (j : Nat) : w.frozen? ⟨G, j, none⟩ = false := h.out.frozenAt j
theorem MatZ.olt {G : Nat} (h : MatZ k T TT w B E (some ⟨G, 0, none⟩) n cap A L C Z) : B ≤ G ∧ G < w.heap.size := h.out.lt G rfl
theorem MatZ.glt {g i : Nat} (h : MatZ k T TT w B E a n cap A L C Z) (hi : i < n) (hA : A i = some ⟨g, 0, none⟩) : B ≤ g ∧ g < w.heap.size := by
 have hr := h.row i hi
 rw [hA] at hr
 exact hr.lt g rfl
theorem MatZ.off (hT : T ≠ TT) {g G i : Nat} (h : MatZ k T TT w B E (some ⟨G, 0, none⟩) n cap A L C Z) (hi : i < n) (hA : A i = some ⟨g, 0, none⟩) : g ≠ G := by
 intro e
 subst e
 have hr := h.row i hi
 rw [hA] at hr
 rcases own_shape hr with ⟨h', _⟩ | ⟨g1, c1, e1, _, hg1, _⟩
 ·cases h'
 ·rcases own_shape h.out with ⟨h', _⟩ | ⟨g2, c2, e2, _, hg2, _⟩
  ·cases h'
  ·cases e1
   cases e2
   rw [hg1] at hg2
   cases hg2
   exact hT rfl
theorem MatZ.below (h : MatZ k T TT w B E a n cap A L C Z) (hb : Below w.heap.size w w') : MatZ k T TT w' B E a n cap A L C Z :=
 ⟨ownsRow_below h.out hb, h.oE, fun i hi => ownsRow_below (h.row i hi) hb, h.rE, h.apart⟩
theorem MatZ.wide {E' : Nat} (h : MatZ k T TT w B E a n cap A L C Z) (hE : E ≤ E') : MatZ k T TT w B E' a n cap A L C Z :=
 ⟨h.out, fun x e => Nat.lt_of_lt_of_le (h.oE x e) hE, h.row, fun i hi x e => Nat.lt_of_lt_of_le (h.rE i hi x e) hE, h.apart⟩
theorem MatZ.tight (h : MatZ k T TT w B E a n cap A L C Z) : MatZ k T TT w B w.heap.size a n cap A L C Z := by
 refine ⟨h.out, fun x e => ?_, h.row, fun i hi x e => ?_, h.apart⟩
 ·subst e; exact (h.out.lt x.block rfl).2
 ·have hr := h.row i hi
  rw [e] at hr
  exact (hr.lt x.block rfl).2
theorem MatZ.congr {A' : Nat → Option Addr} {L' C' : Nat → Nat} {Z' : Nat → Nat → Int} (h : MatZ k T TT w B E a n cap A L C Z) (e : ∀ i, i < n → A i = A' i ∧ L i = L' i ∧ C i = C' i ∧ ∀ j, j < L i → Z i j = Z' i j) : MatZ k T TT w B E a n cap A' L' C' Z' := by
 refine ⟨?_, h.oE, fun i hi => ?_, fun i hi x ex => ?_, fun i j hi hj hij x y ex ey => ?_⟩
 ·rw [← hds_congr (fun i hi => ⟨(e i hi).1, (e i hi).2.1, (e i hi).2.2.1⟩)]; exact h.out
 ·obtain ⟨e1, e2, e3, e4⟩ := e i hi
  have hr := h.row i hi
  rw [zI_congr e4, e1, e2, e3] at hr
  exact hr
 ·exact h.rE i hi x ((e i hi).1.trans ex)
 ·exact h.apart i j hi hj hij x y ((e i hi).1.trans ex) ((e j hj).1.trans ey)
theorem MatZ.kept {b : Nat} (h : MatZ k T TT w B E a n cap A L C Z) (hg : w.grownBy w' (some b)) (ho : ∀ x, a = some x → x.block ≠ b) (hr : ∀ i, i < n → ∀ x, A i = some x → x.block ≠ b) : MatZ k T TT w' B E a n cap A L C Z :=
 ⟨own_kept h.out hg ho, h.oE, fun i hi => own_kept (h.row i hi) hg (hr i hi), h.rE, h.apart⟩
theorem MatZ.keptE {b : Nat} (h : MatZ k T TT w B E a n cap A L C Z) (hg : w.grownBy w' (some b)) (hb : E ≤ b) : MatZ k T TT w' B E a n cap A L C Z :=
 h.kept hg (fun x e => by have := h.oE x e; omega) (fun i hi x e => by have := h.rE i hi x e; omega)
theorem MatZ.setElt (hT : T ≠ TT) {g i j : Nat} (h : MatZ k T TT w B E a n cap A L C Z) (hi : i < n) (hA : A i = some ⟨g, 0, none⟩) (hj : j < L i) (v : Int) :
  MatZ k T TT (w.setCell ⟨g, j, none⟩ (.int k v)) B E a n cap A L C (fun p q => if p = i ∧ q = j then v else Z p q) ∧ w.grownBy (w.setCell ⟨g, j, none⟩ (.int k v)) (some g) := by
 have hg := grown_set w g j (.int k v)
 obtain ⟨G, rfl⟩ := h.addr (by omega)
 refine ⟨⟨own_kept h.out hg (fun x e => by cases e; exact (h.off hT hi hA).symm), h.oE, fun p hp => ?_, h.rE, h.apart⟩, hg⟩
 by_cases e : p = i
 ·subst e
  have hr := h.row p hp
  rw [hA] at hr ⊢
  have h1 := (hr.stored j (.int k v)).1
  rw [zI_set _ _ _ _ _ hj] at h1
  rw [zI_congr (g := fun q => if q = j then v else Z p q) (fun q _ => by simp)]
  exact h1
 ·have hr := own_kept (h.row p hp) hg (fun x ex => h.apart p i hp hi e x _ ex hA)
  rw [zI_congr (f := fun q => if p = i ∧ q = j then v else Z p q) (g := Z p) (fun q _ => by simp [e])]
  exact hr
theorem MatZ.setRow (hT : T ≠ TT) {G g i l c : Nat} {z : Nat → Int} (h : MatZ k T TT w B E (some ⟨G, 0, none⟩) n cap A L C Z) (hi : i < n)
  (hrow : w.ownsRow B T 1 (.slice (some ⟨g, 0, none⟩) l c) l ((zI z l).map (Value.int k))) (hE : g < E) (hap : ∀ j, j < n → j ≠ i → ∀ x, A j = some x → x.block ≠ g) :
  MatZ k T TT (w.setCell ⟨G, i, none⟩ (.slice (some ⟨g, 0, none⟩) l c)) B E (some ⟨G, 0, none⟩) n cap (fun j => if j = i then some ⟨g, 0, none⟩ else A j) (fun j => if j = i then l else L j) (fun j => if j = i then c else C j) (fun j => if j = i then z else Z j) ∧ w.grownBy (w.setCell ⟨G, i, none⟩ (.slice (some ⟨g, 0, none⟩) l c)) (some G) := by
 have hg := grown_set w G i (.slice (some ⟨g, 0, none⟩) l c)
 have hgG : g ≠ G := by
  intro e
  subst e
  rcases own_shape hrow with ⟨h', _⟩ | ⟨g1, c1, e1, _, hg1, _⟩
  ·cases h'
  ·rcases own_shape h.out with ⟨h', _⟩ | ⟨g2, c2, e2, _, hg2, _⟩
   ·cases h'
   ·cases e1
    cases e2
    rw [hg1] at hg2
    cases hg2
    exact hT rfl
 refine ⟨⟨?_, h.oE, fun p hp => ?_, fun p hp x ex => ?_, fun p q hp hq hpq x y ex ey => ?_⟩, hg⟩
 ·have h1 := (h.out.stored i (.slice (some ⟨g, 0, none⟩) l c)).1
  rw [hds_set] at h1
  exact h1
 ·by_cases e : p = i
  ·subst e
   simp only [if_pos]
   exact own_kept hrow hg (fun x ex => by cases ex; exact hgG)
  ·simp only [if_neg e]
   refine own_kept (h.row p hp) hg (fun x ex => ?_)
   have hr := h.row p hp
   rw [ex] at hr
   rcases own_shape hr with ⟨h', _⟩ | ⟨g1, c1, e1, _⟩
   ·cases h'
   ·cases e1
    exact h.off hT hp ex
 ·by_cases e : p = i
  ·simp only [if_pos e] at ex; cases ex; exact hE
  ·simp only [if_neg e] at ex; exact h.rE p hp x ex
 ·by_cases e : p = i
  ·simp only [if_pos e] at ex
   cases ex
   simp only [if_neg (show q ≠ i by omega)] at ey
   exact (hap q hq (by omega) y ey).symm
  ·simp only [if_neg e] at ex
   by_cases e2 : q = i
   ·simp only [if_pos e2] at ey
    cases ey
    exact hap p hp e x ex
   ·simp only [if_neg e2] at ey
    exact h.apart p q hp hq hpq x y ex ey
theorem MatZ.push (hT : T ≠ TT) {E' : Nat} {a' : Option Addr} {cap' l c : Nat} {x : Option Addr} {z : Nat → Int} (h : MatZ k T TT w B E a n cap A L C Z)
  (hg : w.grownBy w' (Value.slice a n cap).ownBlock) (hout : w'.ownsRow B TT 1 (.slice a' (n + 1) cap') (n + 1) (hds A L C n ++ [Value.slice x l c])) (hsz : w'.heap.size ≤ E') (hE : E ≤ E')
  (hrow : w.ownsRow B T 1 (.slice x l c) l ((zI z l).map (Value.int k))) (hap : ∀ j, j < n → ∀ y u, A j = some y → x = some u → y.block ≠ u.block) :
  MatZ k T TT w' B E' a' (n + 1) cap' (fun j => if j = n then x else A j) (fun j => if j = n then l else L j) (fun j => if j = n then c else C j) (fun j => if j = n then z else Z j) := by
 have hrk : ∀ (u : Option Addr) (l c : Nat) (xs : List Value), w.ownsRow B T 1 (.slice u l c) l xs → w'.ownsRow B T 1 (.slice u l c) l xs := by
  intro u l c xs hr
  refine World.ownsRow.kept hr hg ?_
  rcases own_shape hr with ⟨rfl, _⟩ | ⟨g1, c1, rfl, _, hg1, _⟩
  ·exact .inl rfl
  ·right
   rcases own_shape h.out with ⟨rfl, _⟩ | ⟨g2, c2, rfl, _, hg2, _⟩
   ·simp [Value.ownBlock]
   ·simp only [Value.ownBlock, ne_eq, Option.some.injEq]
    intro e
    subst e
    rw [hg1] at hg2
    cases hg2
    exact hT rfl
 refine ⟨?_, fun y e => ?_, fun i hi => ?_, fun i hi y e => ?_, fun i j hi hj hij y u e1 e2 => ?_⟩
 ·rw [hds_snoc]
  simp only [if_pos]
  rw [← hds_congr (A := A) (L := L) (C := C) (fun i hi => by simp [show i ≠ n by omega])]
  exact hout
 ·subst e; exact Nat.lt_of_lt_of_le (hout.lt y.block rfl).2 hsz
 ·by_cases e : i = n
  ·subst e; simp only [if_pos]; exact hrk _ _ _ _ hrow
  ·simp only [if_neg e]; exact hrk _ _ _ _ (h.row i (by omega))
 ·by_cases e' : i = n
  ·subst e'
   simp only [if_pos] at e
   subst e
   exact Nat.lt_of_lt_of_le (Nat.lt_of_lt_of_le (hrow.lt y.block rfl).2 hg.size) hsz
  ·simp only [if_neg e'] at e
   exact Nat.lt_of_lt_of_le (h.rE i (by omega) y e) hE
 ·by_cases e : i = n
  ·subst e
   simp only [if_pos] at e1
   simp only [if_neg (show j ≠ i by omega)] at e2
   exact (hap j (by omega) u y e2 e1).symm
  ·simp only [if_neg e] at e1
   by_cases e' : j = n
   ·subst e'
    simp only [if_pos] at e2
    exact hap i (by omega) y u e1 e2
   ·simp only [if_neg e'] at e2
    exact h.apart i j (by omega) (by omega) hij y u e1 e2
theorem MatZ.nil (k : IntKind) (T TT : Nat) (w : World) (B E : Nat) (A : Nat → Option Addr) (L C : Nat → Nat) (Z : Nat → Nat → Int) : MatZ k T TT w B E none 0 0 A L C Z :=
 ⟨World.ownsRow_nil w B _ _, fun x e => (by cases e), fun i hi => by omega, fun i hi => by omega, fun i j hi => by omega⟩
theorem MatZ.zero {G c : Nat} (k : IntKind) (T TT : Nat) (w : World) (B E : Nat) (A : Nat → Option Addr) (L C : Nat → Nat) (Z : Nat → Nat → Int) (h : w.ownsRow B TT 1 (.slice (some ⟨G, 0, none⟩) 0 c) 0 []) (hE : G < E) : MatZ k T TT w B E (some ⟨G, 0, none⟩) 0 c A L C Z :=
 ⟨h, fun x e => by cases e; exact hE, fun i hi => by omega, fun i hi => by omega, fun i j hi => by omega⟩
theorem MatZ.made {G : Nat} (h : w.ownsRow B TT 1 (.slice (some ⟨G, 0, none⟩) n n) n (List.replicate n (Value.slice none 0 0))) (hE : G < E) (Z : Nat → Nat → Int) : MatZ k T TT w B E (some ⟨G, 0, none⟩) n n (fun _ => none) (fun _ => 0) (fun _ => 0) Z := by
 refine ⟨?_, fun x e => by cases e; exact hE, fun i _ => World.ownsRow_nil w B _ _, fun i _ x e => (by cases e), fun i j _ _ _ x y e => (by cases e)⟩
 have e : hds (fun _ => none) (fun _ => 0) (fun _ => 0) n = List.replicate n (Value.slice none 0 0) := by
  apply List.ext_getElem?
  intro i
  by_cases hi : i < n
  ·rw [hds_get _ _ _ _ _ hi]; simp [hi]
  ·rw [List.getElem?_eq_none (by rw [hds_len]; omega), List.getElem?_eq_none (by simp; omega)]
 rw [e]
 exact h
end
def MatAt (w : World) (a : Option Addr) (n : Nat) (L : Nat → Nat) (Z : Nat → Nat → Int) : Prop :=
 ∀ i, i < n → ∃ b off ai ci, a = some ⟨b, off, none⟩ ∧ w.cell? ⟨b, off + i, none⟩ = some (.slice ai (L i) ci) ∧ IntsAt w ai (L i) (zI (Z i) (L i))
theorem MatAt.below {w w' : World} {a : Option Addr} {n : Nat} {L : Nat → Nat} {Z : Nat → Nat → Int} (h : MatAt w a n L Z) (hb : Below w.heap.size w w') : MatAt w' a n L Z := fun i hi => by
 obtain ⟨b, off, ai, ci, e, hc, hr⟩ := h i hi
 exact ⟨b, off, ai, ci, e, (hb.cell (p := ⟨b, off + i, none⟩) (block_lt_of_cell hc)).trans hc, hr.below hb⟩
theorem own_ints {w : World} {B T n c : Nat} {a : Option Addr} {z : Nat → Int} (h : w.ownsRow B T 1 (.slice a n c) n ((zI z n).map (Value.int .i64))) : IntsAt w a n (zI z n) := by
 rcases own_shape h with ⟨rfl, rfl, rfl⟩ | ⟨g, cur, rfl, _⟩
 ·exact ⟨zI_len _ _, fun i hi => by omega⟩
 ·exact ownsRow.ints h
theorem MatZ.at {T TT : Nat} {w : World} {B E : Nat} {a : Option Addr} {n cap : Nat} {A : Nat → Option Addr} {L C : Nat → Nat} {Z : Nat → Nat → Int} (h : MatZ .i64 T TT w B E a n cap A L C Z) : MatAt w a n L Z := by
 intro i hi
 obtain ⟨G, rfl⟩ := h.addr (by omega)
 exact ⟨G, 0, A i, C i, rfl, by rw [Nat.zero_add]; exact h.hdr hi, own_ints (h.row i hi)⟩
end Go.Proofs.YtodnodekheaacaaGreatDoor
namespace Go.Proofs.YtodnodekheaacaaGreatDoor
theorem Tryz.infoInts : (Tryz.prog.info? 25).map (fun i => (i.zero, i.size, i.bytes)) = some (some (.slice none 0 0), 1, 24) := by kernel_rfl
abbrev MatI (w : World) (B E : Nat) (a : Option Addr) (n cap : Nat) (A : Nat → Option Addr) (L C : Nat → Nat) (Z : Nat → Nat → Int) : Prop := MatZ .i64 3 25 w B E a n cap A L C Z
theorem tiNe : (3 : Nat) ≠ 25 := by decide
theorem Tryz.infoElems : (Tryz.prog.info? 189).map (fun i => (i.zero, i.size, i.bytes)) = some (some (.slice none 0 0), 1, 24) := by kernel_rfl
abbrev MatU (w : World) (B E : Nat) (a : Option Addr) (n cap : Nat) (A : Nat → Option Addr) (L C : Nat → Nat) (Z : Nat → Nat → Int) : Prop := MatZ .u8 104 189 w B E a n cap A L C Z
theorem teNe : (104 : Nat) ≠ 189 := by decide
def side (n : Int) : Bool := decide (1 ≤ n ∧ n ≤ 16)
theorem side_nat (n : Nat) : side (n : Int) = decide (1 ≤ n ∧ n ≤ 16) := by
 unfold side
 congr 1
 simp only [eq_iff_iff]
 omega
theorem isSide_any (n : Int) (w : World) : Calls Tryz.prog 64 #[.int .i64 n] w fun e w' => e = .returned (.bool (side n)) ∧ w' = w := by
 go_enter Tryz.func64, Tryz.ntmps64
 go_wp2
 ·go_ret
  exact ⟨ret_bool (by simp [side, *]), rfl⟩
 ·go_ret
  exact ⟨ret_bool (by simp [side]; omega), rfl⟩
theorem unitAt_any (i j : Nat) (w : World) : Calls Tryz.prog 67 #[.int .i64 (i : Int), .int .i64 (j : Int)] w fun e w' => e = .returned (.int .u8 ((Gm.dl i j : Nat) : Int)) ∧ w' = w := by
 by_cases h : i = j
 ·subst h
  rw [Gm.dl_self]
  go_enter Tryz.func67, Tryz.ntmps67
  go_wp2
  go_ret
  exact ⟨rfl, rfl⟩
 ·have h' : ((i : Int) == (j : Int)) = false := by simp; omega
  rw [Gm.dl_ne h]
  go_enter Tryz.func67, Tryz.ntmps67
  go_wp2
  go_ret
  exact ⟨rfl, rfl⟩
def FillBy (g : Nat) (lb : Array Value) (r c : Nat) (F : Nat → Nat → Nat) (w : World) : Prop :=
 ∀ (W : World) (i j : Nat), Below w.heap.size w W → i < r → j < c → Calls Tryz.prog g (#[.int .i64 (i : Int), .int .i64 (j : Int)] ++ lb) W fun e w' => e = .returned (.int .u8 ((F i j : Nat) : Int)) ∧ Below W.heap.size W w'
theorem filled_any (g : Nat) (lb : Array Value) (eg : ∀ args w, (callFunc g args).run Tryz.prog w = .ok (.enter g args) w) (r c : Nat) (F : Nat → Nat → Nat) (w : World) (hp : FillBy g lb r c F w) (hF : ∀ i j, F i j < 256) (hr : r ≤ 1048576) (hc : c ≤ 1048576) :
  Calls Tryz.prog 65 #[.int .i64 (r : Int), .int .i64 (c : Int), .func (.func g) #[] lb] w fun e w' => e = .returned (.slice (some ⟨w.heap.size, 0, none⟩) r r) ∧ (∃ A, MatI w' w.heap.size w'.heap.size (some ⟨w.heap.size, 0, none⟩) r r A (fun _ => c) (fun _ => c) (fun i j => ((F i j : Nat) : Int))) ∧ Below w.heap.size w w' := by
 obtain ⟨i0, hi, hz0, hz1, hz2⟩ := info_parts Tryz.infoInts
 obtain ⟨j0, hj, hy0, hy1, hy2⟩ := info_parts Tryz.infoInt
 go_enter Tryz.func65, Tryz.ntmps65
 go_wp2_with (at_make; refine wpList_make_full _ rfl _ _ 64 rfl w.heap.size 25 i0 (.slice none 0 0) 1 Tryz.underlying64 hi hz0 hz1 .i64 .i64 _ _ r rfl rfl rfl rfl (by rw [hz2]; omega) (by unfold maxLen; omega) (Nat.le_refl _) ?_; intro w1 hown hgrow)
 have hb1 : Below w.heap.size w w1 := (Below.refl _ _).grown hgrow (Nat.le_refl _) (by simp)
 have hlt1 := (World.ownsRow.lt hown _ rfl).2
 have ho1 : MatI w1 w.heap.size w1.heap.size (some ⟨w.heap.size, 0, none⟩) r r (fun _ => none) (fun i => if i < 0 then c else 0) (fun i => if i < 0 then c else 0) (fun i j => ((F i j : Nat) : Int)) :=
  (MatZ.made (by simpa [Value.cells, toList_madeCells_one] using hown) hlt1 _).congr (fun i _ => ⟨rfl, by simp, by simp, fun j hj => rfl⟩)
 have KO : Hid _ := ho1
 have KB : Hid (Below w.heap.size w w1) := hb1
 clear hown hgrow hlt1 ho1 hb1 hi hz0 hz1 hz2
 go_loopw [14] (fun i wr => ∃ k A, k ≤ r ∧ i = .int .i64 ((k : Nat) : Int) ∧ MatI wr w.heap.size wr.heap.size (some ⟨w.heap.size, 0, none⟩) r r A (fun i => if i < k then c else 0) (fun i => if i < k then c else 0) (fun i j => ((F i j : Nat) : Int)) ∧ (∀ i, k ≤ i → A i = none) ∧ Below w.heap.size w wr) (fun i _ => r - (intOf i).toNat)
 case atStart => exact ⟨0, _, Nat.zero_le _, rfl, KO.out, fun _ _ => rfl, KB.out⟩
 case round =>
  obtain ⟨k, A, hk, rfl, hown, hAn, hbel⟩ := hrel
  clear KO KB
  by_cases hlt : k < r
  ·have hlti : (k : Int) < (r : Int) := by omega
   have KA : Hid _ := hAn
   have KM : Hid (MatI wr w.heap.size wr.heap.size (some ⟨w.heap.size, 0, none⟩) r r A (fun i => if i < k then c else 0) (fun i => if i < k then c else 0) (fun i j => ((F i j : Nat) : Int))) := hown
   have KB : Hid (Below w.heap.size w wr) := hbel
   have hsz := hbel.size
   have hGlt := hown.olt.2
   have hold0 := hown.hdr hlt
   have hfr0 := hown.ofree k
   simp only [Nat.lt_irrefl, if_false] at hold0
   clear hAn hown hbel
   go_wp2_with (at_make; refine wpList_make_full _ rfl _ _ 25 rfl wr.heap.size 3 j0 (.int .i64 0) 1 Tryz.underlying25 hj hy0 hy1 .i64 .i64 _ _ c rfl rfl rfl rfl (by rw [hy2]; omega) (by unfold maxLen; omega) (Nat.le_refl _) ?_; intro w2 hown2 hgrow2; have hb2 : Below wr.heap.size wr w2 := (Below.refl _ _).grown hgrow2 (Nat.le_refl _) (by simp); have hold2 := (hb2.cell (p := ⟨w.heap.size, k, none⟩) hGlt).trans hold0; have hfr2 := (World.frozen?_of_block (a := ⟨w.heap.size, k, none⟩) (hb2.block _ hGlt)).trans hfr0)
   have ho2 : w2.ownsRow wr.heap.size 3 1 (.slice (some ⟨wr.heap.size, 0, none⟩) c c) c ((zI (fun _ => 0) c).map (Value.int .i64)) := by
    rw [zI_const c 0 (fun _ _ => rfl)]
    simpa [Value.cells, toList_madeCells_one] using hown2
   have hSR := ((KM.out.below hb2).wide hb2.size).setRow tiNe hlt (own_base ho2 hsz) (World.ownsRow.lt ho2 _ rfl).2 (fun j hj _ x ex => by have := KM.out.rE j hj x ex; exact Nat.ne_of_lt this)
   obtain ⟨A', KA'⟩ : ∃ A', Hid (A' = fun i => if i = k then some ⟨wr.heap.size, 0, none⟩ else A i) := ⟨_, rfl⟩
   obtain ⟨g1, hg1⟩ : ∃ g1, wr.heap.size = g1 := ⟨_, rfl⟩
   rw [hg1] at hSR KA' ⊢
   obtain ⟨w3, hw3⟩ : ∃ w3, w2.setCell ⟨w.heap.size, k, none⟩ (.slice (some ⟨g1, 0, none⟩) c c) = w3 := ⟨_, rfl⟩
   rw [hw3] at hSR ⊢
   have hA'k : A' k = some ⟨g1, 0, none⟩ := by rw [KA'.out]; simp
   have KS : Hid (MatI w3 w.heap.size w3.heap.size (some ⟨w.heap.size, 0, none⟩) r r A' (fun i => if i < k + 1 then c else 0) (fun i => if i < k + 1 then c else 0) (fun i j => if i = k ∧ 0 ≤ j then 0 else ((F i j : Nat) : Int))) :=
    (hSR.1.wide hSR.2.size).congr (fun i _ => by
     rw [KA'.out]
     by_cases e : i = k
     ·subst e; simp
     ·by_cases e2 : i < k
      ·simp [e, e2, show i < k + 1 by omega]
      ·simp [e, e2, show ¬ i < k + 1 by omega])
   have KB2 : Hid (Below w.heap.size w w3) := by
    rw [← hw3]
    exact (below2 KB.out hb2).setCell (Nat.le_refl _) _
   clear hSR hw3 ho2 hown2 hgrow2 hb2 hold2 hfr2 hold0 hfr0 KM KB hGlt
   go_loopw [27] (fun j wr => ∃ q : Nat, q ≤ c ∧ j = .int .i64 (q : Int) ∧ MatI wr w.heap.size wr.heap.size (some ⟨w.heap.size, 0, none⟩) r r A' (fun i => if i < k + 1 then c else 0) (fun i => if i < k + 1 then c else 0) (fun i j => if i = k ∧ q ≤ j then 0 else ((F i j : Nat) : Int)) ∧ Below w.heap.size w wr) (fun j _ => c - (intOf j).toNat)
   case atStart => exact ⟨0, Nat.zero_le _, rfl, KS.out, KB2.out⟩
   case round =>
    obtain ⟨q, hq, rfl, hM, hbel⟩ := hrel
    clear KS KB2
    by_cases hqc : q < c
    ·have hqci : (q : Int) < (c : Int) := by omega
     have hhd := hM.hdr hlt
     rw [hA'k] at hhd
     simp only [Nat.lt_succ_self, if_true] at hhd
     have hel := hM.elt (j := q) hlt hA'k (by simp only [Nat.lt_succ_self, if_true]; exact hqc)
     simp only [Nat.le_refl, and_self, if_true] at hel
     have hcall := hp wr.drew k q ⟨hbel.os, hbel.tape, hbel.output, hbel.size, hbel.block⟩ hlt hqc
     have hFkq := hF k q
     have hGl := hM.olt.2
     have hgl := (hM.glt hlt hA'k).2
     have KM : Hid (MatI wr w.heap.size wr.heap.size (some ⟨w.heap.size, 0, none⟩) r r A' (fun i => if i < k + 1 then c else 0) (fun i => if i < k + 1 then c else 0) (fun i j => if i = k ∧ q ≤ j then 0 else ((F i j : Nat) : Int))) := hM
     have KP : Hid (FillBy g lb r c F w) := hp
     have KF : Hid (∀ i j, F i j < 256) := hF
     have KB : Hid (Below w.heap.size w wr) := hbel
     have hfr := hM.free hlt hA'k q
     clear hM hp hF hbel
     generalize hX : F k q = X at hcall hFkq
     have KX : Hid (F k q = X) := hX
     clear hX
     go_wp2_with fail
     go_region_with ((go_at_fn g; refine Calls.mono hcall ?_; rintro e w5 ⟨rfl, hb5'⟩; have hb5 := below_of_drew hb5'; clear hb5'; have hhd5 := (hb5.cell (p := ⟨w.heap.size, k, none⟩) hGl).trans hhd; have hel5 := (hb5.cell (p := ⟨g1, q, none⟩) hgl).trans hel; have hfr5 := (World.frozen?_of_block (a := ⟨g1, q, none⟩) (hb5.block _ hgl)).trans hfr))
     all_goals
      have hwx : IntKind.i64.wrap (X : Int) = (X : Int) := by rw [IntKind.wrap_i64]; omega
      rw [hwx]
      have hSE := ((KM.out.below hb5).wide hb5.size).setElt tiNe (j := q) hlt hA'k (by simp only [Nat.lt_succ_self, if_true]; exact hqc) (X : Int)
      have HS : Hid (MatI (w5.setCell ⟨g1, q, none⟩ (.int .i64 (X : Int))) w.heap.size (w5.setCell ⟨g1, q, none⟩ (.int .i64 (X : Int))).heap.size (some ⟨w.heap.size, 0, none⟩) r r A' (fun i => if i < k + 1 then c else 0) (fun i => if i < k + 1 then c else 0) (fun i j => if i = k ∧ q + 1 ≤ j then 0 else ((F i j : Nat) : Int))) :=
       (hSE.1.wide hSE.2.size).congr (fun i _ => ⟨rfl, rfl, rfl, fun j _ => by
        by_cases e : i = k
        ·subst e
         by_cases e2 : j = q
         ·subst e2
          rw [if_pos ⟨rfl, rfl⟩, if_neg (by omega), KX.out]
         ·rw [if_neg (by omega)]
          by_cases e3 : q ≤ j
          ·rw [if_pos ⟨rfl, e3⟩, if_pos ⟨rfl, by omega⟩]
          ·rw [if_neg (by omega), if_neg (by omega)]
        ·rw [if_neg (by omega), if_neg (by omega), if_neg (by omega)]⟩)
      have HB : Hid (Below w.heap.size w (w5.setCell ⟨g1, q, none⟩ (.int .i64 (X : Int)))) := (below2 KB.out hb5).setCell (show w.heap.size ≤ g1 by omega) _
      clear hSE hcall
      go_wp2
      go_roundw
      case rel => exact ⟨q + 1, by omega, by go_num, HS.out, HB.out⟩
      case measure => simp [intOf] <;> omega
    ·obtain rfl : q = c := by omega
     have KM : Hid (MatI wr w.heap.size wr.heap.size (some ⟨w.heap.size, 0, none⟩) r r A' (fun i => if i < k + 1 then q else 0) (fun i => if i < k + 1 then q else 0) (fun i j => if i = k ∧ q ≤ j then 0 else ((F i j : Nat) : Int))) := hM
     have KP : Hid (FillBy g lb r q F w) := hp
     clear hM hp
     go_wp2
     go_roundw
     case rel => exact ⟨k + 1, A', by omega, by go_num, KM.out.congr (fun i hi => ⟨rfl, rfl, rfl, fun j hj => by
      rw [if_neg]
      intro h
      by_cases e : i < k + 1
      ·rw [if_pos e] at hj; omega
      ·omega⟩), fun i hi => by rw [KA'.out]; simp [show i ≠ k by omega, KA.out i (by omega)], hbel⟩
     case measure => simp [intOf] <;> omega
  ·obtain rfl : k = r := by omega
   have KM : Hid _ := hown
   clear hown hAn hp
   go_wp2
   go_ret
   exact ⟨rfl, ⟨A, KM.out.congr (fun i hi => ⟨rfl, if_pos hi, if_pos hi, fun j _ => rfl⟩)⟩, hbel⟩
def OkM (n : Nat) (L : Nat → Nat) (Z : Nat → Nat → Int) : Prop := 1 ≤ n ∧ n ≤ 16 ∧ 1 ≤ L 0 ∧ L 0 ≤ 16 ∧ ∀ i, i < n → L i = L 0 ∧ ∀ j, j < L 0 → isB (Z i j) = true
def cZ (Z : Nat → Nat → Int) (i j : Nat) : Nat := (Z i j).toNat
theorem readE_z (z : Nat → Int) (n : Nat) {w : World} {B g : Nat} (h : OwnU w B g n n (coP (zI z n))) : w.ownsRow B 104 1 (.slice (some ⟨g, 0, none⟩) n n) n ((zI (fun j => (((z j).toNat : Nat) : Int)) n).map (Value.int .u8)) := by
 unfold OwnU at h
 rw [eI_zI, zI_congr (g := fun j => (((z j).toNat : Nat) : Int)) (fun j hj => by unfold coP; rw [zI_getD z n j hj])] at h
 exact h
theorem readM_yes (a : Option Addr) (n cap : Nat) (L : Nat → Nat) (Z : Nat → Nat → Int) (w : World) (h : MatAt w a n L Z) (ok : OkM n L Z) :
  Calls Tryz.prog 137 #[.slice a n cap] w fun e w' => e = .returned (.tuple #[.slice (some ⟨w.heap.size, 0, none⟩) n n, .bool true]) ∧ (∃ g : Nat → Nat, MatU w' w.heap.size w'.heap.size (some ⟨w.heap.size, 0, none⟩) n n (fun i => some ⟨g i, 0, none⟩) (fun _ => L 0) (fun _ => L 0) (fun i j => ((cZ Z i j : Nat) : Int))) ∧ Below w.heap.size w w' := by
 obtain ⟨i0, hi, hz0, hz1, hz2⟩ := info_parts Tryz.infoElems
 obtain ⟨hn1, hn2, hl1, hl2, hall⟩ := ok
 obtain ⟨b0, off0, ai0, ci0, e0, hc0, _⟩ := h 0 (by omega)
 subst e0
 rw [Nat.add_zero] at hc0
 obtain ⟨l, hl⟩ : ∃ l, L 0 = l := ⟨_, rfl⟩
 rw [hl] at hc0 hl1 hl2 hall ⊢
 have hs1 : side (n : Int) = true := by rw [side_nat]; simp; omega
 have hs2 : side (l : Int) = true := by rw [side_nat]; simp; omega
 have hn1' : (1 : Int) ≤ (n : Int) := by omega
 have hb0 := block_lt_of_cell hc0
 have KH : Hid (MatAt w (some ⟨b0, off0, none⟩) n L Z) := h
 have KA : Hid _ := hall
 clear h hall hl
 go_enter Tryz.func137, Tryz.ntmps137
 go_wp2_with (first | (go_at_call 64; refine (isSide_any _ _).mono ?_; rintro e w' ⟨rfl, hw⟩; obtain rfl := hw.symm) | (at_make; refine wpList_make_full _ rfl _ _ 186 rfl w.heap.size 189 i0 (.slice none 0 0) 1 Tryz.underlying186 hi hz0 hz1 .i64 .i64 _ _ n rfl rfl rfl rfl (by rw [hz2]; omega) (by unfold maxLen; omega) (Nat.le_refl _) ?_; intro w1 hown hgrow))
 have hb1 : Below w.heap.size w w1 := (Below.refl _ _).grown hgrow (Nat.le_refl _) (by simp)
 have hlt1 := (World.ownsRow.lt hown _ rfl).2
 have KO : Hid (MatU w1 w.heap.size w1.heap.size (some ⟨w.heap.size, 0, none⟩) n n (fun i => if i < 0 then some ⟨0, 0, none⟩ else none) (fun i => if i < 0 then l else 0) (fun i => if i < 0 then l else 0) (fun i j => ((cZ Z i j : Nat) : Int))) :=
  (MatZ.made (by simpa [Value.cells, toList_madeCells_one] using hown) hlt1 _).congr (fun i _ => ⟨by simp, by simp, by simp, fun j hj => rfl⟩)
 have KB : Hid (Below w.heap.size w w1) := hb1
 clear hown hgrow hlt1 hb1 hi hz0 hz1 hz2
 go_loopw [26] (fun i wr => ∃ (k : Nat) (g : Nat → Nat), k ≤ n ∧ i = .int .i64 ((k : Nat) : Int) ∧ MatU wr w.heap.size wr.heap.size (some ⟨w.heap.size, 0, none⟩) n n (fun i => if i < k then some ⟨g i, 0, none⟩ else none) (fun i => if i < k then l else 0) (fun i => if i < k then l else 0) (fun i j => ((cZ Z i j : Nat) : Int)) ∧ Below w.heap.size w wr) (fun i _ => n - (intOf i).toNat)
 case atStart => exact ⟨0, fun _ => 0, Nat.zero_le _, rfl, KO.out, KB.out⟩
 case round =>
  obtain ⟨k, g, hk, rfl, hown, hbel⟩ := hrel
  clear KO KB
  by_cases hlt : k < n
  ·have hlti : (k : Int) < (n : Int) := by omega
   obtain ⟨b, off, ai, ci, eb, hc, hr⟩ := KH.out.below hbel k hlt
   cases eb
   have hLk := (KA.out k hlt).1
   have hBk := (KA.out k hlt).2
   rw [hLk] at hc hr
   have hc0' := (hbel.cell (p := ⟨b0, off0, none⟩) hb0).trans hc0
   have hrd := readE_yes ai l ci (zI (Z k) l) wr hr (by omega) (fun i hi => by rw [zI_getD _ _ _ hi]; exact hBk i hi)
   have KM : Hid (MatU wr w.heap.size wr.heap.size (some ⟨w.heap.size, 0, none⟩) n n (fun i => if i < k then some ⟨g i, 0, none⟩ else none) (fun i => if i < k then l else 0) (fun i => if i < k then l else 0) (fun i j => ((cZ Z i j : Nat) : Int))) := hown
   have KR : Hid _ := hrd
   have KB : Hid (Below w.heap.size w wr) := hbel
   clear hown hrd hBk hr hLk hc0
   go_wp2_with fail
   refine Calls.mono KR.out ?_
   rintro e w2 ⟨rfl, ho2, hb2⟩
   have hM := (KM.out.below hb2).wide hb2.size
   have hold := hM.hdr hlt
   have hfr := hM.ofree k
   simp only [Nat.lt_irrefl, if_false] at hold
   have hsz := hbel.size
   have hSR := hM.setRow teNe hlt (own_base (readE_z (Z k) l ho2) hsz) (OwnU.lt ho2).2 (fun j hj _ x ex => by have := KM.out.rE j hj x ex; exact Nat.ne_of_lt this)
   have HS : Hid (MatU (w2.setCell ⟨w.heap.size, k, none⟩ (.slice (some ⟨wr.heap.size, 0, none⟩) l l)) w.heap.size (w2.setCell ⟨w.heap.size, k, none⟩ (.slice (some ⟨wr.heap.size, 0, none⟩) l l)).heap.size (some ⟨w.heap.size, 0, none⟩) n n (fun i => if i < k + 1 then some ⟨(fun i => if i = k then wr.heap.size else g i) i, 0, none⟩ else none) (fun i => if i < k + 1 then l else 0) (fun i => if i < k + 1 then l else 0) (fun i j => ((cZ Z i j : Nat) : Int))) :=
    (hSR.1.wide hSR.2.size).congr (fun i _ => by
     by_cases e : i = k
     ·subst e; simp [cZ]
     ·by_cases e2 : i < k
      ·simp [e, e2, show i < k + 1 by omega]
      ·simp [e, e2, show ¬ i < k + 1 by omega])
   have HB : Hid (Below w.heap.size w (w2.setCell ⟨w.heap.size, k, none⟩ (.slice (some ⟨wr.heap.size, 0, none⟩) l l))) := (below2 KB.out hb2).setCell (Nat.le_refl _) _
   clear hM ho2 hb2 hbel hSR KM KR
   go_wp2
   go_roundw
   case rel => exact ⟨k + 1, _, by omega, by go_num, HS.out, HB.out⟩
   case measure => simp [intOf] <;> omega
  ·obtain rfl : k = n := by omega
   have KM : Hid (MatU wr w.heap.size wr.heap.size (some ⟨w.heap.size, 0, none⟩) k k (fun i => if i < k then some ⟨g i, 0, none⟩ else none) (fun i => if i < k then l else 0) (fun i => if i < k then l else 0) (fun i j => ((cZ Z i j : Nat) : Int))) := hown
   clear hown
   go_wp2
   go_ret2
   exact ⟨rfl, ⟨g, KM.out.congr (fun i hi => ⟨if_pos hi, if_pos hi, if_pos hi, fun j _ => rfl⟩)⟩, hbel⟩
theorem OkM.not {n : Nat} {L : Nat → Nat} {Z : Nat → Nat → Int} (h : ¬ OkM n L Z) (h1 : 1 ≤ n) (h2 : n ≤ 16) (h3 : 1 ≤ L 0) (h4 : L 0 ≤ 16) : ∃ q, q < n ∧ ¬ (L q = L 0 ∧ ∀ j, j < L 0 → isB (Z q j) = true) := by
 refine Classical.byContradiction fun hno => h ⟨h1, h2, h3, h4, fun i hi => ?_⟩
 exact Classical.byContradiction fun hc => hno ⟨i, hi, hc⟩
theorem readM_no (a : Option Addr) (n cap : Nat) (L : Nat → Nat) (Z : Nat → Nat → Int) (w : World) (h : MatAt w a n L Z) (hL : ∀ i, i < n → L i ≤ 1048576) (ok : ¬ OkM n L Z) :
  Calls Tryz.prog 137 #[.slice a n cap] w fun e w' => e = .returned (.tuple #[.slice none 0 0, .bool false]) ∧ Below w.heap.size w w' := by
 obtain ⟨i0, hi, hz0, hz1, hz2⟩ := info_parts Tryz.infoElems
 by_cases hn : 1 ≤ n ∧ n ≤ 16
 ·obtain ⟨hn1, hn2⟩ := hn
  obtain ⟨b0, off0, ai0, ci0, e0, hc0, _⟩ := h 0 (by omega)
  subst e0
  rw [Nat.add_zero] at hc0
  have hs1 : side (n : Int) = true := by rw [side_nat]; simp; omega
  have hn1' : (1 : Int) ≤ (n : Int) := by omega
  have hb0 := block_lt_of_cell hc0
  by_cases hl : 1 ≤ L 0 ∧ L 0 ≤ 16
  ·obtain ⟨hl1, hl2⟩ := hl
   obtain ⟨q, hq, hbad⟩ := OkM.not ok hn1 hn2 hl1 hl2
   obtain ⟨l, hl⟩ : ∃ l, L 0 = l := ⟨_, rfl⟩
   rw [hl] at hc0 hl1 hl2 hbad
   have hs2 : side (l : Int) = true := by rw [side_nat]; simp; omega
   have KH : Hid (MatAt w (some ⟨b0, off0, none⟩) n L Z) := h
   have KL : Hid _ := hL
   have KB : Hid _ := hbad
   clear h hl hL hbad ok
   go_enter Tryz.func137, Tryz.ntmps137
   go_wp2_with (first | (go_at_call 64; refine (isSide_any _ _).mono ?_; rintro e w' ⟨rfl, hw⟩; obtain rfl := hw.symm) | (at_make; refine wpList_make_full _ rfl _ _ 186 rfl w.heap.size 189 i0 (.slice none 0 0) 1 Tryz.underlying186 hi hz0 hz1 .i64 .i64 _ _ n rfl rfl rfl rfl (by rw [hz2]; omega) (by unfold maxLen; omega) (Nat.le_refl _) ?_; intro w1 hown hgrow))
   have hb1 : Below w.heap.size w w1 := (Below.refl _ _).grown hgrow (Nat.le_refl _) (by simp)
   clear hgrow hi hz0 hz1 hz2
   go_loopw [26] (fun i wr => ∃ (k : Nat) (vs : List Value), k ≤ q ∧ i = .int .i64 ((k : Nat) : Int) ∧ wr.ownsRow w.heap.size 189 1 (.slice (some ⟨w.heap.size, 0, none⟩) n n) n vs ∧ Below w.heap.size w wr) (fun i _ => n - (intOf i).toNat)
   case atStart => exact ⟨0, _, Nat.zero_le _, rfl, hown, hb1⟩
   case round =>
    obtain ⟨k, vs, hk, rfl, hown', hbel⟩ := hrel
    clear hown hb1
    have hlt : k < n := by omega
    have hlti : (k : Int) < (n : Int) := by omega
    obtain ⟨b, off, ai, ci, eb, hc, hr⟩ := KH.out.below hbel k hlt
    cases eb
    have hc0' := (hbel.cell (p := ⟨b0, off0, none⟩) hb0).trans hc0
    have hLk := KL.out k hlt
    clear hc0
    by_cases hkl : L k = l
    ·rw [hkl] at hc hr
     by_cases hB : ∀ j, j < l → isB (Z k j) = true
     ·have hkq : k ≠ q := fun e => KB.out (by rw [← e]; exact ⟨hkl, hB⟩)
      have hrd := readE_yes ai l ci (zI (Z k) l) wr hr (by omega) (fun i hi => by rw [zI_getD _ _ _ hi]; exact hB i hi)
      obtain ⟨old, hold⟩ : ∃ v, wr.cell? ⟨w.heap.size, k, none⟩ = some v := by
       rw [hown'.cellAt k (by omega)]
       exact ⟨_, List.getElem?_eq_getElem (by rw [hown'.1]; omega)⟩
      have hfr := hown'.frozenAt k
      have hGlt := (hown'.lt _ rfl).2
      have KR : Hid _ := hrd
      have KW : Hid _ := hown'
      have KE : Hid (Below w.heap.size w wr) := hbel
      clear hrd hB hr hown' hbel
      go_wp2_with fail
      refine Calls.mono KR.out ?_
      rintro e w2 ⟨rfl, _, hb2⟩
      have hold2 := (hb2.cell (p := ⟨w.heap.size, k, none⟩) hGlt).trans hold
      have hfr2 := (World.frozen?_of_block (a := ⟨w.heap.size, k, none⟩) (hb2.block _ hGlt)).trans hfr
      have HS : Hid _ := ((ownsRow_below KW.out hb2).stored k (.slice (some ⟨wr.heap.size, 0, none⟩) l l)).1
      have HB : Hid (Below w.heap.size w (w2.setCell ⟨w.heap.size, k, none⟩ (.slice (some ⟨wr.heap.size, 0, none⟩) l l))) := (below2 KE.out hb2).setCell (Nat.le_refl _) _
      clear hb2 hold hfr KR KW
      go_wp2
      go_roundw
      case rel => exact ⟨k + 1, _, by omega, by go_num, HS.out, HB.out⟩
      case measure => simp [intOf] <;> omega
     ·have hrd := readE_no ai l ci (zI (Z k) l) wr hr (by omega) (by
       refine Classical.byContradiction fun hno => hB fun j hj => ?_
       refine Classical.byContradiction fun hc => hno ⟨j, hj, ?_⟩
       rw [zI_getD _ _ _ hj]
       simpa using hc)
      have KR : Hid _ := hrd
      have KE : Hid (Below w.heap.size w wr) := hbel
      clear hrd hB hr hown' hbel
      go_wp2_with fail
      refine Calls.mono KR.out ?_
      rintro e w2 ⟨rfl, hb2⟩
      go_wp2
      go_ret2
      exact ⟨rfl, below2 KE.out hb2⟩
    ·have hne : ((L k : Int) != (l : Int)) = true := by simp; omega
     generalize L k = lk at hc hne
     clear hown' hr
     go_wp2
     go_ret2
     exact ⟨rfl, hbel⟩
  ·have hs2 : side (L 0 : Int) = false := by rw [side_nat]; simp; omega
   clear h hL ok hl
   generalize L 0 = l at hc0 hs2
   go_enter Tryz.func137, Tryz.ntmps137
   go_wp2_with (go_at_call 64; refine (isSide_any _ _).mono ?_; rintro e w' ⟨rfl, hw⟩; obtain rfl := hw.symm)
   go_ret2
   exact ⟨rfl, Below.refl _ _⟩
 ·have hs1 : side (n : Int) = false := by rw [side_nat]; simp; omega
  clear h hL ok
  go_enter Tryz.func137, Tryz.ntmps137
  go_wp2_with (go_at_call 64; refine (isSide_any _ _).mono ?_; rintro e w' ⟨rfl, hw⟩; obtain rfl := hw.symm)
  go_ret2
  exact ⟨rfl, Below.refl _ _⟩
noncomputable def okM (n : Nat) (L : Nat → Nat) (Z : Nat → Nat → Int) : Bool := @decide (OkM n L Z) (Classical.propDecidable _)
theorem okM_yes {n : Nat} {L : Nat → Nat} {Z : Nat → Nat → Int} (h : OkM n L Z) : okM n L Z = true := by unfold okM; exact @decide_eq_true _ (Classical.propDecidable _) h
theorem okM_no {n : Nat} {L : Nat → Nat} {Z : Nat → Nat → Int} (h : ¬ OkM n L Z) : okM n L Z = false := by unfold okM; exact @decide_eq_false _ (Classical.propDecidable _) h
def ResM (w w' : World) (v : Value) (r c : Nat) (F : Nat → Nat → Nat) : Prop := ∃ a cap A C, v = .slice a r cap ∧ MatI w' w.heap.size w'.heap.size a r cap A (fun _ => c) C (fun i j => ((F i j : Nat) : Int))
theorem ResM.none (w w' : World) (c : Nat) (F : Nat → Nat → Nat) : ResM w w' (.slice none 0 0) 0 c F := ⟨_, _, fun _ => .none, fun _ => 0, rfl, MatZ.nil _ _ _ _ _ _ _ _ _ _⟩
theorem ResM.mk {w w' : World} {a : Option Addr} {r cap c : Nat} {A : Nat → Option Addr} {C : Nat → Nat} {F : Nat → Nat → Nat} {B : Nat} (h : MatI w' B w'.heap.size a r cap A (fun _ => c) C (fun i j => ((F i j : Nat) : Int))) (hB : w.heap.size ≤ B) : ResM w w' (.slice a r cap) r c F :=
 ⟨a, cap, A, C, rfl, ⟨own_base h.out hB, h.oE, fun i hi => own_base (h.row i hi) hB, h.rE, h.apart⟩⟩
theorem spread1_any (kb k i j : Nat) (w : World) (hk : w.cell? ⟨kb, 0, none⟩ = some (.int .i64 (k : Int))) (hi : i < 256) (hj : j < 256) :
  Calls Tryz.prog 66 #[.int .i64 (i : Int), .int .i64 (j : Int), .pointer (some ⟨kb, 0, none⟩)] w fun e w' => e = .returned (.int .u8 ((Gm.sprd k i j : Nat) : Int)) ∧ Below w.heap.size w w' := by
 by_cases h : i < k
 ·have h' : (i : Int) < (k : Int) := by omega
  have HS : Hid (Gm.sprd k i j = Gm.dl i j) := by show _ = _; unfold Gm.sprd; rw [if_pos h]
  go_enter Tryz.func66, Tryz.ntmps66
  go_wp2_with (go_at_call 67; refine (unitAt_any i j _).mono ?_; rintro e w' ⟨rfl, hw⟩; obtain rfl := hw.symm)
  go_ret
  exact ⟨by rw [HS.out] <;> rfl, Below.refl _ _⟩
 ·have h' : ¬ (i : Int) < (k : Int) := by omega
  have HS : Hid (Gm.sprd k i j = Gf.inv (i ^^^ j)) := by show _ = _; unfold Gm.sprd; rw [if_neg h]
  have hx := Gf.xor_lt hi hj
  go_enter Tryz.func66, Tryz.ntmps66
  go_wp2_with (first | (go_at_call 68; refine (plus_any i j _ hi hj).mono ?_; rintro e w' ⟨rfl, hw⟩; obtain rfl := hw.symm) | (go_at_call 69; refine (inverse_any (i ^^^ j) _ hx).mono ?_; rintro e w2 ⟨rfl, hb2⟩))
  go_ret
  exact ⟨by rw [HS.out] <;> rfl, hb2⟩
theorem spreadEnter : ∀ args w, (callFunc 66 args).run Tryz.prog w = .ok (.enter 66 args) w := enters_of Tryz.func66 (by kernel_rfl) rfl
theorem spreadFill (kb k r c : Nat) (w : World) (hk : w.cell? ⟨kb, 0, none⟩ = some (.int .i64 (k : Int))) (hr : r ≤ 256) (hc : c ≤ 256) : FillBy 66 #[.pointer (some ⟨kb, 0, none⟩)] r c (Gm.sprd k) w := fun W i j hb hi hj =>
 spread1_any kb k i j W ((hb.cell (p := ⟨kb, 0, none⟩) (block_lt_of_cell hk)).trans hk) (by omega) (by omega)
theorem boxed (w : World) (v : Value) (t : TypeId) : (w.alloc (.cells #[v] t)).cell? ⟨w.heap.size, 0, none⟩ = some v := cell_of_one (heap_alloc_new w _)
def sprOk (k n : Int) : Bool := side n && decide (1 ≤ k ∧ k ≤ n)
def sprR (k n : Int) : Nat := if sprOk k n = true then n.toNat else 0
theorem spread_any (k n : Int) (w : World) : Calls Tryz.prog 34 #[.int .i64 k, .int .i64 n] w fun e w' => ∃ v, e = .returned (.tuple #[v, .bool (sprOk k n)]) ∧ ResM w w' v (sprR k n) k.toNat (Gm.sprd k.toNat) ∧ Below w.heap.size w w' := by
 have hbx := boxed w (.int .i64 k) 3
 have hb1 : Below w.heap.size w (w.alloc (.cells #[.int .i64 k] 3)) := (Below.refl _ _).alloc (Nat.le_refl _) _
 have hsz : (w.alloc (.cells #[.int .i64 k] 3)).heap.size = w.heap.size + 1 := by simp
 by_cases h1 : side n = true
 ·by_cases h2 : 1 ≤ k
  ·by_cases h3 : k ≤ n
   ·have hr : 1 ≤ n ∧ n ≤ 16 := by simpa [side] using h1
    have hok : sprOk k n = true := by unfold sprOk; rw [h1]; simp; omega
    obtain ⟨N, rfl⟩ : ∃ N : Nat, n = (N : Int) := ⟨n.toNat, by omega⟩
    obtain ⟨K, rfl⟩ : ∃ K : Nat, k = (K : Int) := ⟨k.toNat, by omega⟩
    have hN : sprR (K : Int) (N : Int) = N := by unfold sprR; rw [if_pos hok]; simp
    rw [hN, hok, Int.toNat_natCast]
    have KF : Hid _ := filled_any 66 #[.pointer (some ⟨w.heap.size, 0, none⟩)] spreadEnter N K (Gm.sprd K) _ (spreadFill w.heap.size K N K _ hbx (by omega) (by omega)) (Gm.sprd_byt K) (by omega) (by omega)
    have h2' : ¬ (K : Int) < 1 := by omega
    have h3' : ¬ (K : Int) > (N : Int) := by omega
    obtain ⟨w1, hw1⟩ : ∃ w1, w.alloc (.cells #[.int .i64 (K : Int)] 3) = w1 := ⟨_, rfl⟩
    have KW : Hid (w.alloc (.cells #[.int .i64 (K : Int)] 3) = w1) := hw1
    rw [hw1] at KF hb1 hbx
    clear hw1 hN hok hsz
    go_enter Tryz.func34, Tryz.ntmps34
    go_wp2_with fail
    rw [KW.out]
    refine (isSide_any _ _).mono ?_
    rintro e w' ⟨rfl, hw⟩
    obtain rfl := hw.symm
    go_wp2_with fail
    refine Calls.mono KF.out ?_
    rintro e w2 ⟨rfl, ⟨A, hM⟩, hb2⟩
    have KM : Hid _ := hM
    clear hM
    go_wp2
    go_ret2
    exact ⟨_, rfl, ResM.mk KM.out hb1.size, below2 hb1 hb2⟩
   ·have hok : sprOk k n = false := by unfold sprOk; simp [h3]
    have hN : sprR k n = 0 := by unfold sprR; rw [if_neg (by rw [hok]; simp)]
    rw [hN, hok]
    have h2' : ¬ k < 1 := by omega
    have h3' : k > n := by omega
    clear hok hN
    go_enter Tryz.func34, Tryz.ntmps34
    go_wp2_with fail
    refine (isSide_any _ _).mono ?_
    rintro e w' ⟨rfl, hw⟩
    obtain rfl := hw.symm
    go_wp2
    go_ret2
    exact ⟨_, rfl, ResM.none _ _ _ _, hb1⟩
  ·have hok : sprOk k n = false := by unfold sprOk; simp [h2]
   have hN : sprR k n = 0 := by unfold sprR; rw [if_neg (by rw [hok]; simp)]
   rw [hN, hok]
   have h2' : k < 1 := by omega
   clear hok hN
   go_enter Tryz.func34, Tryz.ntmps34
   go_wp2_with fail
   refine (isSide_any _ _).mono ?_
   rintro e w' ⟨rfl, hw⟩
   obtain rfl := hw.symm
   go_wp2
   go_ret2
   exact ⟨_, rfl, ResM.none _ _ _ _, hb1⟩
 ·have h1' : side n = false := by simpa using h1
  have hok : sprOk k n = false := by unfold sprOk; simp [h1']
  have hN : sprR k n = 0 := by unfold sprR; rw [if_neg (by rw [hok]; simp)]
  rw [hN, hok]
  clear hok hN
  go_enter Tryz.func34, Tryz.ntmps34
  go_wp2_with fail
  refine (isSide_any _ _).mono ?_
  rintro e w' ⟨rfl, hw⟩
  obtain rfl := hw.symm
  go_wp2
  go_ret2
  exact ⟨_, rfl, ResM.none _ _ _ _, hb1⟩
def RdU (w : World) (pb r c : Nat) (F : Nat → Nat → Nat) : Prop :=
 ∃ G cap, w.cell? ⟨pb, 0, none⟩ = some (.slice (some ⟨G, 0, none⟩) r cap) ∧ ∀ i, i < r → ∃ g cc, w.cell? ⟨G, i, none⟩ = some (.slice (some ⟨g, 0, none⟩) c cc) ∧ ∀ j, j < c → w.cell? ⟨g, j, none⟩ = some (.int .u8 ((F i j : Nat) : Int))
theorem RdU.below {w w' : World} {pb r c : Nat} {F : Nat → Nat → Nat} (h : RdU w pb r c F) (hb : Below w.heap.size w w') : RdU w' pb r c F := by
 obtain ⟨G, cap, hp, hr⟩ := h
 refine ⟨G, cap, (hb.cell (p := ⟨pb, 0, none⟩) (block_lt_of_cell hp)).trans hp, fun i hi => ?_⟩
 obtain ⟨g, cc, hc, he⟩ := hr i hi
 exact ⟨g, cc, (hb.cell (p := ⟨G, i, none⟩) (block_lt_of_cell hc)).trans hc, fun j hj => (hb.cell (p := ⟨g, j, none⟩) (block_lt_of_cell (he j hj))).trans (he j hj)⟩
theorem MatU.rd {w w' : World} {B E G r cap c pb : Nat} {g : Nat → Nat} {C : Nat → Nat} {F : Nat → Nat → Nat} (h : MatU w B E (some ⟨G, 0, none⟩) r cap (fun i => some ⟨g i, 0, none⟩) (fun _ => c) C (fun i j => ((F i j : Nat) : Int))) (hb : Below w.heap.size w w') (hp : w'.cell? ⟨pb, 0, none⟩ = some (.slice (some ⟨G, 0, none⟩) r cap)) : RdU w' pb r c F := by
 have h' := h.below hb
 exact ⟨G, cap, hp, fun i hi => ⟨g i, C i, h'.hdr hi, fun j hj => h'.elt hi rfl hj⟩⟩
theorem cZ_byt {n : Nat} {L : Nat → Nat} {Z : Nat → Nat → Int} (ok : OkM n L Z) : ∀ i j, i < n → j < L 0 → cZ Z i j < 256 := fun i j hi hj => by
 obtain ⟨X, hX, e⟩ := isB_nat ((ok.2.2.2.2 i hi).2 j hj)
 unfold cZ
 rw [e]
 simpa using hX
def bZ (n : Nat) (L : Nat → Nat) (Z : Nat → Nat → Int) (i j : Nat) : Nat := if i < n ∧ j < L 0 then cZ Z i j % 256 else 0
theorem bZ_byt (n : Nat) (L : Nat → Nat) (Z : Nat → Nat → Int) : Gm.Byt (bZ n L Z) := fun i j => by unfold bZ; split <;> omega
theorem bZ_eq {n : Nat} {L : Nat → Nat} {Z : Nat → Nat → Int} (ok : OkM n L Z) {i j : Nat} (hi : i < n) (hj : j < L 0) : bZ n L Z i j = cZ Z i j := by
 unfold bZ
 rw [if_pos ⟨hi, hj⟩, Nat.mod_eq_of_lt (cZ_byt ok i j hi hj)]
theorem readM_b (a : Option Addr) (n cap : Nat) (L : Nat → Nat) (Z : Nat → Nat → Int) (w : World) (h : MatAt w a n L Z) (ok : OkM n L Z) :
  Calls Tryz.prog 137 #[.slice a n cap] w fun e w' => e = .returned (.tuple #[.slice (some ⟨w.heap.size, 0, none⟩) n n, .bool true]) ∧ (∃ g : Nat → Nat, MatU w' w.heap.size w'.heap.size (some ⟨w.heap.size, 0, none⟩) n n (fun i => some ⟨g i, 0, none⟩) (fun _ => L 0) (fun _ => L 0) (fun i j => ((bZ n L Z i j : Nat) : Int))) ∧ Below w.heap.size w w' := by
 refine Calls.mono (readM_yes a n cap L Z w h ok) ?_
 rintro e w' ⟨rfl, ⟨g, hM⟩, hb⟩
 exact ⟨rfl, ⟨g, hM.congr (fun i hi => ⟨rfl, rfl, rfl, fun j hj => by rw [bZ_eq ok hi hj]⟩)⟩, hb⟩
theorem all_zI (z : Nat → Int) (n : Nat) : (zI z n).all isB = true ↔ ∀ j, j < n → isB (z j) = true := by
 simp [zI, List.all_eq_true]
theorem MatI.pushed {wr w2 : World} {B b0 G k cap g2 cap3 gr W capr : Nat} {A : Nat → Option Addr} {C : Nat → Nat} {F : Nat → Nat → Nat} (o : Obj) (hM : MatI wr B b0 (some ⟨G, 0, none⟩) k cap A (fun _ => W) C (fun i j => ((F i j : Nat) : Int)))
  (hb : B ≤ b0) (hr : OwnR wr b0 gr W capr (F k)) (hgrow : (wr.alloc o).grownBy w2 (some G))
  (hout : w2.ownsRow B 25 1 (.slice (some ⟨g2, 0, none⟩) (k + 1) cap3) (k + 1) (hds A (fun _ => W) C k ++ [.slice (some ⟨gr, 0, none⟩) W capr])) :
  ∃ A' C', MatI w2 B w2.heap.size (some ⟨g2, 0, none⟩) (k + 1) cap3 A' (fun _ => W) C' (fun i j => ((F i j : Nat) : Int)) := by
 have hbo : Below wr.heap.size wr (wr.alloc o) := (Below.refl _ _).alloc (Nat.le_refl _) _
 have hM1 := hM.below hbo
 have hr1 : (wr.alloc o).ownsRow B 3 1 (.slice (some ⟨gr, 0, none⟩) W capr) W ((zI (fun j => ((F k j : Nat) : Int)) W).map (Value.int .i64)) := own_base (ownsRow_below hr hbo) hb
 have hgr := hr.lt.1
 refine ⟨_, _, (MatZ.push tiNe hM1 hgrow hout (Nat.le_refl _) ?_ hr1 (fun j hj y u ey eu => ?_)).congr (fun i _ => ⟨rfl, by split <;> rfl, rfl, fun j _ => by by_cases e : i = k; subst e; simp; simp [e]⟩)⟩
 ·by_cases h0 : G < b0
  ·exact Nat.le_trans (Nat.le_of_lt (Nat.lt_of_le_of_lt hgr hr.lt.2)) (Nat.le_trans hbo.size hgrow.size)
  ·exact Nat.le_trans (Nat.le_of_lt (Nat.lt_of_le_of_lt hgr hr.lt.2)) (Nat.le_trans hbo.size hgrow.size)
 ·cases eu
  have := hM.rE j hj y ey
  exact Nat.ne_of_lt (Nat.lt_of_lt_of_le this hgr)
theorem MatI.rowed {wr w2 : World} {B b0 gr : Nat} {a : Option Addr} {k cap W : Nat} {A : Nat → Option Addr} {C : Nat → Nat} {F : Nat → Nat → Nat} (o : Obj) (hM : MatI wr B b0 a k cap A (fun _ => W) C (fun i j => ((F i j : Nat) : Int))) (hgr : b0 ≤ gr) (hgrow : (wr.alloc o).grownBy w2 (some gr)) :
  MatI w2 B b0 a k cap A (fun _ => W) C (fun i j => ((F i j : Nat) : Int)) := (hM.below ((Below.refl _ _).alloc (Nat.le_refl _) o)).keptE hgrow hgr
theorem litM (w : World) (A : Nat → Option Addr) (L C : Nat → Nat) (Z : Nat → Nat → Int) : MatI (w.alloc (.cells #[] 25)) w.heap.size (w.alloc (.cells #[] 25)).heap.size (some ⟨w.heap.size, 0, none⟩) 0 0 A L C Z :=
 MatZ.zero _ _ _ _ _ _ _ _ _ _ (World.ownsRow_lit w #[] 0 (Nat.le_refl _) (by unfold maxLen; omega) rfl) (by simp)
theorem resLit0 (w w1 : World) (h : w.heap.size ≤ w1.heap.size) (c : Nat) (F : Nat → Nat → Nat) : ResM w (w1.alloc (.cells #[] 25)) (.slice (some ⟨w1.heap.size, 0, none⟩) 0 0) 0 c F :=
 ResM.mk (litM w1 (fun _ => none) (fun _ => c) (fun _ => 0) _) h
theorem sMatOk_any (a : Option Addr) (n cap : Nat) (L : Nat → Nat) (Z : Nat → Nat → Int) (w : World) (h : MatAt w a n L Z) (hL : ∀ i, i < n → L i ≤ 1048576) :
  Calls Tryz.prog 142 #[.slice a n cap] w fun e w' => e = .returned (.bool (okM n L Z)) ∧ Below w.heap.size w w' := by
 by_cases hn : 1 ≤ n ∧ n ≤ 16
 ·have hs1 : inB (n : Int) 1 16 = true := by unfold inB; simp; omega
  have hn0' : 0 < n := by omega
  have hn0i : (0 : Int) < (n : Int) := by omega
  obtain ⟨b0, off0, ai0, ci0, e0, hc0, _⟩ := h 0 (by omega)
  subst e0
  rw [Nat.add_zero] at hc0
  by_cases hl : 1 ≤ L 0 ∧ L 0 ≤ 16
  ·have hs2 : inB (L 0 : Int) 1 16 = true := by unfold inB; simp; omega
   have KO : Hid (∀ q, q ≤ n → (∀ i, i < q → L i = L 0 ∧ ∀ j, j < L 0 → isB (Z i j) = true) → q < n → ¬ (L q = L 0 ∧ ∀ j, j < L 0 → isB (Z q j) = true) → okM n L Z = false) := fun q _ _ h2 h3 => okM_no (fun hh => h3 (hh.2.2.2.2 q h2))
   have KY : Hid ((∀ i, i < n → L i = L 0 ∧ ∀ j, j < L 0 → isB (Z i j) = true) → okM n L Z = true) := fun h1 => okM_yes ⟨hn.1, hn.2, hl.1, hl.2, h1⟩
   generalize okM n L Z = okf at KO KY
   have KH : Hid (MatAt w (some ⟨b0, off0, none⟩) n L Z) := h
   obtain ⟨l, hl0⟩ : ∃ l, L 0 = l := ⟨_, rfl⟩
   rw [hl0] at hc0 hl hs2 KO KY
   have KL : Hid _ := hL
   clear h hL hl0
   go_enter Tryz.func142, Tryz.ntmps142
   go_wp2_with (go_at_call 41; refine (sIn_any _ _ _ _).mono ?_; rintro e w' ⟨rfl, hw⟩; obtain rfl := hw.symm)
   go_loopw [3] (fun p wr => ∃ k : Nat, k ≤ n ∧ p = .int .i64 (k : Int) ∧ Hid (∀ i, i < k → L i = l ∧ ∀ j, j < l → isB (Z i j) = true) ∧ Below w.heap.size w wr) (fun p _ => n - (intOf p).toNat)
   case atStart => exact ⟨0, Nat.zero_le _, rfl, fun i hi => by omega, Below.refl _ _⟩
   case round =>
    obtain ⟨k, hk, rfl, HB, hbel⟩ := hrel
    by_cases hlt : k < n
    ·have hki : (k : Int) < (n : Int) := by omega
     obtain ⟨b, off, ai, ci, eb, hc, hr⟩ := KH.out.below hbel k hlt
     cases eb
     have hc0' := (hbel.cell (p := ⟨b0, off0, none⟩) (block_lt_of_cell hc0)).trans hc0
     have hLk := KL.out k hlt
     clear hc0
     by_cases hkl : L k = l
     ·rw [hkl] at hc hr
      have hS := fun w h => sBytes_any ai l ci (zI (Z k) l) w h (by omega)
      have hall := all_zI (Z k) l
      obtain ⟨ba, hba⟩ : ∃ ba, (zI (Z k) l).all isB = ba := ⟨_, rfl⟩
      rw [hba] at hS hall
      clear hba
      cases ba with
      | true =>
       have HB2 : Hid (∀ i, i < k + 1 → L i = l ∧ ∀ j, j < l → isB (Z i j) = true) := fun i hi => by
        by_cases e : i = k
        ·subst e; exact ⟨hkl, hall.1 rfl⟩
        ·exact HB.out i (by omega)
       clear hall
       generalize zI (Z k) l = zs at hr hS
       go_wp2_with fail
       go_quiet ((go_at_call 163; exact Calls.quiet_of_same (hS _ (hr.below ⟨rfl, rfl, rfl, Nat.le_refl _, fun _ _ => rfl⟩))))
       go_wp2
       go_roundw
       case rel => exact ⟨k + 1, by omega, by go_num, HB2, below_drewN hbel _⟩
       case measure => simp [intOf] <;> omega
      | false =>
       have HN : Hid (okf = false) := KO.out k (by omega) HB.out hlt (fun hh => by have := hall.2 hh.2; cases this)
       clear hall
       generalize zI (Z k) l = zs at hr hS
       go_wp2_with fail
       go_quiet ((go_at_call 163; exact Calls.quiet_of_same (hS _ (hr.below ⟨rfl, rfl, rfl, Nat.le_refl _, fun _ _ => rfl⟩))))
       go_wp2
       go_ret
       exact ⟨ret_bool HN.out.symm, below_drewN hbel _⟩
     ·have HN : Hid (okf = false) := KO.out k (by omega) HB.out hlt (fun hh => hkl hh.1)
      have hne : ((L k : Int) != (l : Int)) = true := by simp; omega
      clear hr
      generalize L k = lk at hc hne
      go_wp2_with fail
      go_quiet (fail)
      go_wp2
      go_ret
      exact ⟨ret_bool HN.out.symm, below_drewN hbel _⟩
    ·obtain rfl : k = n := by omega
     have HN : Hid (okf = true) := KY.out HB.out
     go_wp2
     go_ret
     exact ⟨ret_bool HN.out.symm, hbel⟩
  ·have hs2 : inB (L 0 : Int) 1 16 = false := by unfold inB; simp; omega
   have HN : Hid (okM n L Z = false) := okM_no (fun hh => hl ⟨hh.2.2.1, hh.2.2.2.1⟩)
   generalize okM n L Z = okf at HN
   clear h hL hl
   generalize L 0 = l at hc0 hs2
   go_enter Tryz.func142, Tryz.ntmps142
   go_wp2_with (go_at_call 41; refine (sIn_any _ _ _ _).mono ?_; rintro e w' ⟨rfl, hw⟩; obtain rfl := hw.symm)
   go_ret
   exact ⟨ret_bool HN.out.symm, Below.refl _ _⟩
 ·have hs1 : inB (n : Int) 1 16 = false := by unfold inB; simp; omega
  have HN : Hid (okM n L Z = false) := okM_no (fun hh => hn ⟨hh.1, hh.2.1⟩)
  generalize okM n L Z = okf at HN
  clear h hL
  go_enter Tryz.func142, Tryz.ntmps142
  go_wp2_with (go_at_call 41; refine (sIn_any _ _ _ _).mono ?_; rintro e w' ⟨rfl, hw⟩; obtain rfl := hw.symm)
  go_ret
  exact ⟨ret_bool HN.out.symm, Below.refl _ _⟩
end Go.Proofs.YtodnodekheaacaaGreatDoor
