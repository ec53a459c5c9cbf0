import Derived.Test.YtihklfkhjpnjkaaGreatDoorU17
import Derived.Test.YtihklfkhjpnjkaaGreatDoorU12
import Derived.Test.YtihklfkhjpnjkaaGreatDoorU10
import Derived.Lib.BufferWrite
import Derived.Laws.CopyOwn
set_option maxHeartbeats 8000000
set_option maxRecDepth 2000
open Go.ChangeShapes Go.WideShapes Go.ChangeAt Go.RowKit
namespace Go.Proofs.YtihklfkhjpnjkaaGreatDoor
def OwnB (w : World) (B g n cap : Nat) (f : Nat → Nat) : Prop := w.ownsRow B 5 1 (.slice (some ⟨g, 0, none⟩) n cap) n ((eI f n).map (Value.int .u8))
theorem OwnB.lt {w : World} {B g n cap : Nat} {f : Nat → Nat} (h : OwnB w B g n cap f) : B ≤ g ∧ g < w.heap.size := World.ownsRow.lt h g rfl
theorem OwnB.cell {w : World} {B g n cap i : Nat} {f : Nat → Nat} (h : OwnB w B g n cap f) (hi : i < n) : w.cell? ⟨g, i, none⟩ = some (.int .u8 ((f i : Nat) : Int)) := by
 rw [World.ownsRow.cellAt h i (by omega)]
 simp [eI, hi]
theorem OwnB.below {w w' : World} {B g n cap : Nat} {f : Nat → Nat} (h : OwnB w B g n cap f) (hb : Below w.heap.size w w') : OwnB w' B g n cap f := ownsRow_below h hb
theorem OwnB.congr {w : World} {B g n cap : Nat} {f h : Nat → Nat} (ho : OwnB w B g n cap f) (e : ∀ i, i < n → f i = h i) : OwnB w B g n cap h := by
 unfold OwnB at *
 rw [← eI_congr e]
 exact ho
theorem OwnB.set {w : World} {B g n cap k v : Nat} {f : Nat → Nat} (h : OwnB w B g n cap f) (hk : k < n) :
  OwnB (w.setCell ⟨g, k, none⟩ (.int .u8 (v : Int))) B g n cap (fun i => if i = k then v else f i) ∧ w.grownBy (w.setCell ⟨g, k, none⟩ (.int .u8 (v : Int))) (some g) := by
 have h1 := (World.ownsRow.stored h k (.int .u8 (v : Int))).1
 rw [eI_set f n k v .u8 hk] at h1
 exact ⟨h1, grown_set w g k _⟩
def rs (R : Nat → Nat) (T : Nat → Nat → Nat) (i p : Nat) : Nat := Gm.sm (fun t => Gp.m (R t) (T t p)) i
theorem rs_lt (R : Nat → Nat) (T : Nat → Nat → Nat) (i p : Nat) : rs R T i p < 256 := Gm.sm_lt (fun _ => Gp.m_lt _ _) _
theorem rs_step {R : Nat → Nat} {T : Nat → Nat → Nat} {i q : Nat} (hR : R i < 256) (hT : T i q < 256) (p : Nat) : (if p = q then rs R T i q ^^^ Gf.mul (T i q) (R i) else if p < q then rs R T (i + 1) p else rs R T i p) = if p < q + 1 then rs R T (i + 1) p else rs R T i p := by
 by_cases e : p = q
 ·subst e
  rw [if_pos rfl, if_pos (by omega), Gp.m_nat hT hR, Gp.m_comm]
  rfl
 ·rw [if_neg e]
  by_cases e2 : p < q
  ·rw [if_pos e2, if_pos (by omega)]
  ·rw [if_neg e2, if_neg (by omega)]
def PcsAt (w : World) (a : Option Addr) (n l : Nat) (T : Nat → Nat → Nat) : Prop :=
 ∀ i, i < n → ∃ b off g o c, a = some ⟨b, off, none⟩ ∧ w.cell? ⟨b, off + i, none⟩ = some (.slice (some ⟨g, o, none⟩) l c) ∧ ∀ p, p < l → w.cell? ⟨g, o + p, none⟩ = some (.int .u8 ((T i p : Nat) : Int))
theorem PcsAt.below {w w' : World} {a : Option Addr} {n l : Nat} {T : Nat → Nat → Nat} (h : PcsAt w a n l T) (hb : Below w.heap.size w w') : PcsAt w' a n l T := fun i hi => by
 obtain ⟨b, off, g, o, c, e, hc, hp⟩ := h i hi
 exact ⟨b, off, g, o, c, e, (hb.cell (p := ⟨b, off + i, none⟩) (block_lt_of_cell hc)).trans hc, fun p hpl => (hb.cell (p := ⟨g, o + p, none⟩) (block_lt_of_cell (hp p hpl))).trans (hp p hpl)⟩
set_option maxRecDepth 100000 in
theorem rowSumB_any (ra : Option Addr) (rc : Nat) (R : Nat → Nat) (a : Option Addr) (cp n l : Nat) (T : Nat → Nat → Nat) (w : World) (hr : IntsAt w ra n (eI R n)) (h : PcsAt w a n l T) (hT : Gm.Byt T) (hn : 1 ≤ n ∧ n ≤ 16) (hl : 1 ≤ l ∧ l ≤ 1048576) (hR : ∀ i, R i < 256) :
  Calls Tryz.prog 103 #[.slice ra n rc, .slice a n cp] w fun e w' => e = .returned (.slice (some ⟨w.heap.size, 0, none⟩) l l) ∧ OwnB w' w.heap.size w.heap.size l l (rs R T n) ∧ Below w.heap.size w w' := by
 obtain ⟨i0, hi, hz0, hz1, hz2⟩ := info_parts Tryz.infoByte
 obtain ⟨hn1, hn16⟩ := hn
 obtain ⟨hl1, hl20⟩ := hl
 have KH : Hid (PcsAt w a n l T) := h
 have KR : Hid (IntsAt w ra n (eI R n)) := hr
 have hn0' : 0 < n := by omega
 obtain ⟨b0, off0, g00, o00, c00, rfl, hc0, _⟩ := h 0 hn0'
 rw [Nat.add_zero] at hc0
 clear h hr
 go_enter Tryz.func103, Tryz.ntmps103
 go_wp2_with (at_make; refine wpList_make_full _ rfl _ _ 22 rfl w.heap.size 5 i0 (.int .u8 0) 1 Tryz.underlying22 hi hz0 hz1 .i64 .i64 _ _ l rfl rfl rfl rfl (by rw [hz2]; omega) (by unfold maxLen; omega) (Nat.le_refl _) ?_; intro w1 hown hgrow)
 have hb1 : Below w.heap.size w w1 := (Below.refl _ _).grown hgrow (Nat.le_refl _) (by simp)
 have ho1 : OwnB w1 w.heap.size w.heap.size l l (rs R T 0) := by
  unfold OwnB
  rw [eI_const (f := rs R T 0) l 0 (fun _ _ => rfl)]
  simpa [Value.cells, toList_madeCells_one] using hown
 have K1 : Hid (OwnB w1 w.heap.size w.heap.size l l (rs R T 0)) := ho1
 have KB1 : Hid (Below w.heap.size w w1) := hb1
 clear hown hgrow ho1 hb1 hi hz0 hz1 hz2 hc0
 go_loopw [17] (fun i wr => ∃ k : Nat, k ≤ n ∧ i = .int .i64 k ∧ OwnB wr w.heap.size w.heap.size l l (rs R T k) ∧ Below w.heap.size w wr) (fun i _ => n - (intOf i).toNat)
 case atStart => exact ⟨0, Nat.zero_le _, rfl, K1.out, KB1.out⟩
 case round =>
  obtain ⟨k, hk, rfl, hown, hbel⟩ := hrel
  clear K1 KB1
  by_cases hlt : k < n
  ·have hki : (k : Int) < (n : Int) := by omega
   obtain ⟨b1, off1, g1, o1, c1, eb, hc1w, hp1⟩ := KH.out k hlt
   cases eb
   have hc1 := (hbel.cell (p := ⟨b0, off0 + k, none⟩) (block_lt_of_cell hc1w)).trans hc1w
   have KP : Hid (∀ p, p < l → w.cell? ⟨g1, o1 + p, none⟩ = some (.int .u8 ((T k p : Nat) : Int))) := hp1
   clear hp1 hc1w
   obtain ⟨br, offr, rfl, hcr⟩ := (KR.out.below hbel).2 k hlt
   rw [eI_getD _ _ _ hlt] at hcr
   have hRk := hR k
   obtain ⟨X, hX⟩ : ∃ X, R k = X := ⟨_, rfl⟩
   have KX : Hid (R k = X) := hX
   rw [hX] at hcr hRk
   clear hX
   have hwx : IntKind.u8.wrap (X : Int) = (X : Int) := by rw [IntKind.wrap_u8]; omega
   have hszw := hbel.size
   by_cases hx0 : X = 0
   ·subst hx0
    have HO : Hid (OwnB wr w.heap.size w.heap.size l l (rs R T (k + 1))) := hown.congr (fun p _ => by unfold rs; rw [Gm.sm_s, KX.out, Gp.zero_m, Nat.xor_zero])
    clear hown
    go_wp2
    go_roundw
    case rel => exact ⟨k + 1, by omega, by go_num, HO.out, hbel⟩
    case measure => simp [intOf] <;> omega
   ·have hx0' : ((X : Int) == 0) = false := by simp; omega
    have K2 : Hid (OwnB wr w.heap.size w.heap.size l l (fun p => if p < 0 then rs R T (k + 1) p else rs R T k p)) := hown.congr (fun p _ => by simp)
    have KB2 : Hid (Below w.heap.size w wr) := hbel
    have hbel0 := hbel
    clear hown hbel
    go_wp2
    go_loopw [31] (fun i wr => ∃ q : Nat, q ≤ l ∧ i = .int .i64 q ∧ OwnB wr w.heap.size w.heap.size l l (fun p => if p < q then rs R T (k + 1) p else rs R T k p) ∧ Below w.heap.size w wr) (fun i _ => l - (intOf i).toNat)
    case atStart => exact ⟨0, Nat.zero_le _, rfl, K2.out, KB2.out⟩
    case round =>
     obtain ⟨q, hq, rfl, hown, hbel⟩ := hrel
     clear K2 KB2
     by_cases hql : q < l
     ·have hqi : (q : Int) < (l : Int) := by omega
      have hcp := (hbel.cell (p := ⟨g1, o1 + q, none⟩) (block_lt_of_cell (KP.out q hql))).trans (KP.out q hql)
      have hcs := hown.cell hql
      simp only [Nat.lt_irrefl, if_false] at hcs
      have hfs := World.ownsRow.frozenAt hown q
      have hsl := rs_lt R T k q
      have KS : Hid (∀ p, (if p = q then rs R T k q ^^^ Gf.mul (T k q) (R k) else if p < q then rs R T (k + 1) p else rs R T k p) = if p < q + 1 then rs R T (k + 1) p else rs R T k p) := fun p => rs_step (hR k) (hT k q) p
      rw [KX.out] at KS
      have KO : Hid (OwnB wr w.heap.size w.heap.size l l (fun p => if p < q then rs R T (k + 1) p else rs R T k p)) := hown
      obtain ⟨Y, hY⟩ : ∃ Y, rs R T k q = Y := ⟨_, rfl⟩
      rw [hY] at hcs hsl KS
      have hVl := hT k q
      generalize T k q = V at hcp hVl KS
      have hml := Gf.mul_lt hVl hRk
      have hgl := hown.lt.2
      have KB : Hid (Below w.heap.size w wr) := hbel
      clear hown hY hbel
      go_wp2_with fail
      go_region_with ((first | (go_at_call 140; refine (times_any V X _ hVl hRk).mono ?_; rintro e w5 ⟨rfl, hb5'⟩; have hb5 := below_of_drew hb5'; clear hb5'; have hcs5 := (hb5.cell (p := ⟨w.heap.size, q, none⟩) hgl).trans hcs; have hfs5 := (World.frozen?_of_block (a := ⟨w.heap.size, q, none⟩) (hb5.block _ hgl)).trans hfs; have hcp5 := (hb5.cell (p := ⟨g1, o1 + q, none⟩) (block_lt_of_cell hcp)).trans hcp) | (go_at_call 101; refine (plus_any Y (Gf.mul V X) _ hsl hml).mono ?_; rintro e w6 ⟨rfl, hw6⟩; obtain rfl := hw6.symm)))
      all_goals
       have hS := OwnB.set (k := q) (v := Y ^^^ Gf.mul V X) (KO.out.below hb5) hql
       have HO : Hid (OwnB (w5.setCell ⟨w.heap.size, q, none⟩ (.int .u8 ((Y ^^^ Gf.mul V X : Nat) : Int))) w.heap.size w.heap.size l l (fun p => if p < q + 1 then rs R T (k + 1) p else rs R T k p)) := hS.1.congr (fun p _ => KS.out p)
       have HB : Hid (Below w.heap.size w (w5.setCell ⟨w.heap.size, q, none⟩ (.int .u8 ((Y ^^^ Gf.mul V X : Nat) : Int)))) := (below2 KB.out hb5).setCell (Nat.le_refl _) _
       clear hS hcs hfs hcs5 hfs5 KO KS KB
       go_wp2
       go_roundw
       case rel => exact ⟨q + 1, by omega, by go_num, HO.out, HB.out⟩
       case measure => simp [intOf] <;> omega
     ·obtain rfl : q = l := by omega
      have HO : Hid (OwnB wr w.heap.size w.heap.size q q (rs R T (k + 1))) := hown.congr (fun p hp => if_pos hp)
      clear hown
      go_wp2
      go_roundw
      case rel => exact ⟨k + 1, by omega, by go_num, HO.out, hbel⟩
      case measure => simp [intOf] <;> omega
  ·obtain rfl : k = n := by omega
   have HO : Hid _ := hown
   clear hown
   go_wp2
   go_ret
   exact ⟨rfl, HO.out, hbel⟩
def ovl (f : Nat → Nat) (off m : Nat) (h : Nat → Nat) (i : Nat) : Nat := if off ≤ i ∧ i < off + m then h (i - off) else f i
theorem ovl_list (f h : Nat → Nat) (n off m : Nat) (hm : off + m ≤ n) : ((eI f n).map (Value.int .u8)).take off ++ ((eI h m).map (Value.int .u8) ++ ((eI f n).map (Value.int .u8)).drop (off + m)) = (eI (ovl f off m h) n).map (Value.int .u8) := by
 apply List.ext_getElem?
 intro i
 simp only [List.getElem?_append, List.length_take, List.length_map, eI_len, List.getElem?_take, List.getElem?_drop]
 by_cases h1 : i < off
 ·have h2 : i < min off n := by omega
  simp [h1, h2, eI, ovl, show i < n by omega, show ¬ (off ≤ i ∧ i < off + m) by omega]
 ·by_cases h3 : i < off + m
  ·have h2 : ¬ i < min off n := by omega
   simp [h2, eI, ovl, show i < n by omega, show off ≤ i by omega, h3, show i - off < m by omega, show i - min off n = i - off by omega]
  ·have h2 : ¬ i < min off n := by omega
   have h4 : ¬ i - min off n < m := by omega
   simp only [h2, h4, if_false]
   rw [show off + m + (i - min off n - m) = i by omega]
   by_cases h5 : i < n
   ·simp [eI, ovl, h5, show ¬ (off ≤ i ∧ i < off + m) by omega]
   ·rw [List.getElem?_eq_none (by simp [eI_len]; omega), List.getElem?_eq_none (by simp [eI_len]; omega)]
theorem OwnB.heap {w : World} {B g n : Nat} {f : Nat → Nat} (h : OwnB w B g n n f) : w.heap[g]? = some (.cells ((eI f n).map (Value.int .u8)).toArray 5 (0, 0)) ∧ B ≤ g ∧ n ≤ maxLen := by
 rcases h.2 with ⟨e, _⟩ | ⟨g', cap, cur, e, hB, hg, hn, hm, hs, ht⟩
 ·cases e
 ·cases e
  have e2 : cur.toList.take (n * 1) = cur.toList := List.take_of_length_le (by rw [Array.length_toList, hs]; exact Nat.le_refl _)
  rw [e2] at ht
  refine ⟨?_, hB, hm⟩
  rw [hg, ← ht]
theorem OwnB.of {w : World} {B g n : Nat} {f : Nat → Nat} (h : w.heap[g]? = some (.cells ((eI f n).map (Value.int .u8)).toArray 5 (0, 0))) (hB : B ≤ g) (hm : n ≤ maxLen) : OwnB w B g n n f :=
 ⟨by simp [eI_len], .inr ⟨g, n, _, rfl, hB, h, Nat.le_refl _, hm, by simp [eI_len], by rw [List.take_of_length_le (by simp [eI_len])]⟩⟩
theorem byteCells_tat (s : ByteArray) : Go.Lib.byteCells s.data.toList = (eI (tat s) s.size).map (Value.int .u8) := by
 apply List.ext_getElem?
 intro i
 unfold Go.Lib.byteCells
 by_cases h : i < s.size
 ·have h' : i < s.data.toList.length := by simpa using h
  rw [List.getElem?_map, List.getElem?_map, eI_get _ _ _ h, List.getElem?_eq_getElem h']
  simp [tat, List.getD, List.getElem?_eq_getElem h']
 ·rw [List.getElem?_eq_none (by simp at h ⊢; exact h), List.getElem?_eq_none (by simp [eI_len]; omega)]
theorem wpList_copyS {w : World} {ops : Array Oper} {rest : List Oper} {o : Oper} {a : Act} {Q : Exit → Act → World → Prop} (hgd : o.guard = none) (d s : Operand) (sT : TypeId)
  (ho : o.op = .call { callee := .builtin .copy, args := #[d, s], argTypes := #[22, sT] })
  (dp : Option Addr) (dLen dCap : Nat) (S : ByteArray) (hd : a.eval d = .slice dp dLen dCap) (hs : a.eval s = .string S) (B g n : Nat) (f : Nat → Nat) (hown : OwnB w B g n n f) (off : Nat) (hdp : 0 < S.size → dp = some ⟨g, off, none⟩) (hle : S.size ≤ dLen) (hfit : off + S.size ≤ n)
  (h : ∀ w', OwnB w' B g n n (ovl f off S.size (tat S)) → w.grownBy w' (some g) → wpList Tryz.prog ops Q rest (a.put o.dst (goInt S.size)) w') : wpList Tryz.prog ops Q (o :: rest) a w := by
 obtain ⟨hg, hB, hm⟩ := hown.heap
 have hu : Tryz.prog.underlying 22 = some (.slice 5) := Tryz.underlying22
 have hz : (Tryz.prog.info? 5).map (·.size) = some 1 := by
  obtain ⟨i0, hi, _, hz1, _⟩ := info_parts Tryz.infoByte
  rw [hi]; simp [hz1]
 refine wpList_plain hgd fun K hK => ?_
 by_cases h0 : S.size = 0
 ·have hrun := Go.Lib.run_copy_empty_string (P := Tryz.prog) w 22 sT o.type 5 dp dLen dCap S hu (by rw [hz]; rfl) h0
  unfold Oper.wp
  simp [execOp, ho, resolve, invoke, builtin, hd, hs, hrun, Result.andThen]
  refine hK _ _ ?_
  have h1 := h w (hown.congr (fun i _ => by unfold ovl; rw [if_neg (by omega)])) (World.grownBy.refl _ _)
  rw [h0] at h1
  exact h1
 ·obtain rfl := hdp (by omega)
  have hrun := Go.Lib.run_copy_row_string (P := Tryz.prog) w 22 sT o.type 5 g off dLen dCap S _ 5 hu hz hg hle (by simp [eI_len]; exact hfit)
  unfold Oper.wp
  simp [execOp, ho, resolve, invoke, builtin, hd, hs, hrun, Result.andThen]
  refine hK _ _ (h _ ?_ ⟨rfl, rfl, rfl, by simp [World.setRow], fun j _ hj => setRow_other w g j _ (fun e => hj (by rw [e]))⟩)
  refine OwnB.of ?_ hB hm
  rw [setRow_heap w g _ _ 5 _ hg, byteCells_tat, ← ovl_list f (tat S) n off S.size hfit]
theorem shr8 {n : Nat} (hn : n ≤ 2000) : IntKind.u8.wrap ((n : Int) / 256) = ((n / 256 : Nat) : Int) := by rw [IntKind.wrap_u8]; omega
theorem low8 (n : Nat) : IntKind.u8.wrap (n : Int) = ((n % 256 : Nat) : Int) := by rw [IntKind.wrap_u8]; omega
theorem madeB {w1 : World} {B g N : Nat} (hown : w1.ownsRow B 5 1 (.slice (some ⟨g, 0, none⟩) N N) N (madeCells (Value.int .u8 0).cells (N * 1)).toList) : OwnB w1 B g N N (fun _ => 0) := by
 unfold OwnB
 rw [eI_const (f := fun _ => 0) N 0 (fun _ _ => rfl)]
 simpa [Value.cells, toList_madeCells_one] using hown
theorem twoB {w w1 : World} {g N x y : Nat} {f : Nat → Nat} (h : OwnB w1 w.heap.size g N N f) (hN : 1 < N) (hb : Below w.heap.size w w1) :
  (w1.cell? ⟨g, 0, none⟩ = some (.int .u8 ((f 0 : Nat) : Int)) ∧ w1.frozen? ⟨g, 0, none⟩ = false) ∧
  ((w1.setCell ⟨g, 0, none⟩ (.int .u8 (x : Int))).cell? ⟨g, 1, none⟩ = some (.int .u8 ((f 1 : Nat) : Int)) ∧ (w1.setCell ⟨g, 0, none⟩ (.int .u8 (x : Int))).frozen? ⟨g, 1, none⟩ = false) ∧
  OwnB ((w1.setCell ⟨g, 0, none⟩ (.int .u8 (x : Int))).setCell ⟨g, 1, none⟩ (.int .u8 (y : Int))) w.heap.size g N N (fun i => if i = 1 then y else if i = 0 then x else f i) ∧
  Below w.heap.size w ((w1.setCell ⟨g, 0, none⟩ (.int .u8 (x : Int))).setCell ⟨g, 1, none⟩ (.int .u8 (y : Int))) := by
 have h1 := OwnB.set (k := 0) (v := x) h (by omega)
 have h2 := OwnB.set (k := 1) (v := y) h1.1 hN
 refine ⟨⟨h.cell (by omega), World.ownsRow.frozenAt h 0⟩, ⟨?_, World.ownsRow.frozenAt h1.1 1⟩, h2.1, (hb.setCell h.lt.1 _).setCell h.lt.1 _⟩
 have := h1.1.cell (i := 1) hN
 simpa using this
set_option maxRecDepth 100000 in
theorem framed_any (s : ByteArray) (N : Nat) (w : World) (hs : s.size ≤ 2000) (hN : s.size + 2 ≤ N) (hN2 : N ≤ 100000) :
  Calls Tryz.prog 71 #[.string s, .int .i64 (N : Int)] w fun e w' => e = .returned (.slice (some ⟨w.heap.size, 0, none⟩) N N) ∧ OwnB w' w.heap.size w.heap.size N N (frm s) ∧ Below w.heap.size w w' := by
 obtain ⟨i0, hi, hz0, hz1, hz2⟩ := info_parts Tryz.infoByte
 obtain ⟨n, hn⟩ : ∃ n, s.size = n := ⟨_, rfl⟩
 have e1 := shr8 (n := n) (by omega)
 have e2 := low8 n
 have KF : Hid (∀ i, i < N → frm s i = ovl (fun i => if i = 1 then n % 256 else if i = 0 then n / 256 else 0) 2 n (tat s) i) := fun i hi => by
  unfold frm ovl
  rw [hn]
  by_cases h0 : i = 0
  ·subst h0; simp
  ·by_cases h1 : i = 1
   ·subst h1; simp
   ·rw [if_neg h0, if_neg h1]
    by_cases h2 : i < 2 + n
    ·rw [if_pos (by omega)]
    ·rw [if_neg (by omega)]
     simp only [h1, h0, if_false]
     exact tat_out s _ (by omega)
 obtain ⟨x, hx⟩ : ∃ x, n / 256 = x := ⟨_, rfl⟩
 obtain ⟨y, hy⟩ : ∃ y, n % 256 = y := ⟨_, rfl⟩
 rw [hx] at e1 KF
 rw [hy] at e2 KF
 clear hx hy
 have hN1 : (1 : Int) < (N : Int) := by omega
 have hN0 : (0 : Int) < (N : Int) := by omega
 have hN3 : (2 : Int) ≤ (N : Int) := by omega
 have hN4 : 1 < N := by omega
 have hN5 : 0 < N := by omega
 have hN6 : 2 ≤ N := by omega
 by_cases hN7 : N = 2
 case pos =>
  subst hN7
  go_enter Tryz.func71, Tryz.ntmps71
  go_wp2_with (first | (at_make; refine wpList_make_full _ rfl _ _ 22 rfl w.heap.size 5 i0 (.int .u8 0) 1 Tryz.underlying22 hi hz0 hz1 .i64 .i64 _ _ 2 rfl rfl rfl rfl (by rw [hz2]; omega) (by unfold maxLen; omega) (Nat.le_refl _) ?_; intro w1 hown hgrow; have hb1 : Below w.heap.size w w1 := (Below.refl _ _).grown hgrow (Nat.le_refl _) (by simp); obtain ⟨⟨hc0, hf0⟩, ⟨hc1, hf1⟩, hO2, hB2⟩ := twoB (x := x) (y := y) (madeB hown) hN4 hb1; have K2 : Hid _ := hO2; have KB2 : Hid _ := hB2; clear hO2 hB2 hown hgrow hb1) | (guard_hyp K2; refine wpList_copyS (by rfl) _ _ 9 (by rfl) _ _ _ s (by rfl) (by rfl) _ _ _ _ K2.out 2 (fun h => by first | rfl | omega) (by omega) (by omega) ?_; intro w5 hO5 hg5; have HO5 : Hid _ := hO5; have HB5 : Hid (Below w.heap.size w w5) := KB2.out.grown hg5 KB2.out.size (fun j hj => by cases hj; exact Nat.le_refl _); clear hO5 hg5))
  go_wp2
  go_ret
  exact ⟨rfl, OwnB.congr HO5.out (fun i hi => by rw [hn]; exact (KF.out i (by omega)).symm), HB5.out⟩
 have hN8 : ¬ N - 2 = 0 := by omega
 go_enter Tryz.func71, Tryz.ntmps71
 go_wp2_with (first | (at_make; refine wpList_make_full _ rfl _ _ 22 rfl w.heap.size 5 i0 (.int .u8 0) 1 Tryz.underlying22 hi hz0 hz1 .i64 .i64 _ _ N rfl rfl rfl rfl (by rw [hz2]; omega) (by unfold maxLen; omega) (Nat.le_refl _) ?_; intro w1 hown hgrow; have hb1 : Below w.heap.size w w1 := (Below.refl _ _).grown hgrow (Nat.le_refl _) (by simp); obtain ⟨⟨hc0, hf0⟩, ⟨hc1, hf1⟩, hO2, hB2⟩ := twoB (x := x) (y := y) (madeB hown) hN4 hb1; have K2 : Hid _ := hO2; have KB2 : Hid _ := hB2; clear hO2 hB2 hown hgrow hb1) | (guard_hyp K2; refine wpList_copyS (by rfl) _ _ 9 (by rfl) _ _ _ s (by rfl) (by rfl) _ _ _ _ K2.out 2 (fun h => by first | rfl | omega) (by omega) (by omega) ?_; intro w5 hO5 hg5; have HO5 : Hid _ := hO5; have HB5 : Hid (Below w.heap.size w w5) := KB2.out.grown hg5 KB2.out.size (fun j hj => by cases hj; exact Nat.le_refl _); clear hO5 hg5))
 go_wp2
 go_ret
 exact ⟨rfl, OwnB.congr HO5.out (fun i hi => by rw [hn]; exact (KF.out i (by omega)).symm), HB5.out⟩
theorem Tryz.infoBytes : (Tryz.prog.info? 22).map (fun i => (i.zero, i.size, i.bytes)) = some (some (.slice none 0 0), 1, 24) := by kernel_rfl
theorem MatAt.rowE {w : World} {a : Option Addr} {r n : Nat} {F : Nat → Nat → Nat} (h : MatAt w a r (fun _ => n) (fun i j => ((F i j : Nat) : Int))) {i : Nat} (hi : i < r) : ∃ b off ai ci, a = some ⟨b, off, none⟩ ∧ w.cell? ⟨b, off + i, none⟩ = some (.slice ai n ci) ∧ IntsAt w ai n (eI (F i) n) := h i hi
set_option maxRecDepth 100000 in
theorem rowSumsB_any (ma : Option Addr) (mc r : Nat) (F : Nat → Nat → Nat) (a : Option Addr) (cp n l : Nat) (T : Nat → Nat → Nat) (w : World) (hm : MatAt w ma r (fun _ => n) (fun i j => ((F i j : Nat) : Int))) (h : PcsAt w a n l T) (hT : Gm.Byt T) (hr : r ≤ 1048576) (hn : 1 ≤ n ∧ n ≤ 16) (hl : 1 ≤ l ∧ l ≤ 1048576) (hF : Gm.Byt F) :
  Calls Tryz.prog 69 #[.slice ma r mc, .slice a n cp] w fun e w' => e = .returned (.slice (some ⟨w.heap.size, 0, none⟩) r r) ∧ OwnT w' w.heap.size (some ⟨w.heap.size, 0, none⟩) r r (bod n F T l) ∧ Below w.heap.size w w' := by
 obtain ⟨i0, hi, hz0, hz1, hz2⟩ := info_parts Tryz.infoStr
 have KH : Hid (PcsAt w a n l T) := h
 have KM : Hid (MatAt w ma r (fun _ => n) (fun i j => ((F i j : Nat) : Int))) := hm
 clear h hm
 go_enter Tryz.func69, Tryz.ntmps69
 go_wp2_with (at_make; refine wpList_make_full _ rfl _ _ 31 rfl w.heap.size 9 i0 (.string ByteArray.empty) 1 Tryz.underlying31 hi hz0 hz1 .i64 .i64 _ _ r rfl rfl rfl rfl (by rw [hz2]; omega) (by unfold maxLen; omega) (Nat.le_refl _) ?_; intro w1 hown hgrow)
 have hb1 : Below w.heap.size w w1 := (Below.refl _ _).grown hgrow (Nat.le_refl _) (by simp)
 have K1 : Hid (OwnT w1 w.heap.size (some ⟨w.heap.size, 0, none⟩) r r (fun i => if i < 0 then bod n F T l i else ByteArray.empty)) := by
  have e : sL (fun i => if i < 0 then bod n F T l i else ByteArray.empty) r = List.replicate r (Value.string ByteArray.empty) := by rw [← sL_empty]; exact sL_congr (fun i _ => by simp)
  show OwnT _ _ _ _ _ _
  unfold OwnT
  rw [e]
  simpa [Value.cells, toList_madeCells_one] using hown
 have KB1 : Hid (Below w.heap.size w w1) := hb1
 clear hown hgrow hb1 hi hz0 hz1 hz2
 go_loopw [13] (fun i wr => ∃ k : Nat, k ≤ r ∧ i = .int .i64 k ∧ OwnT wr w.heap.size (some ⟨w.heap.size, 0, none⟩) r r (fun i => if i < k then bod n F T l i else ByteArray.empty) ∧ Below w.heap.size w wr) (fun i _ => r - (intOf i).toNat)
 case atStart => exact ⟨0, Nat.zero_le _, rfl, K1.out, KB1.out⟩
 case round =>
  obtain ⟨k, hk, rfl, hown, hbel⟩ := hrel
  clear K1 KB1
  by_cases hlt : k < r
  ·have hki : (k : Int) < (r : Int) := by omega
   obtain ⟨b1, off1, ai, ci, rfl, hc1, hr1⟩ := (KM.out.below hbel).rowE hlt
   have KC : Hid _ := rowSumB_any ai ci (F k) a cp n l T wr hr1 (KH.out.below hbel) hT hn hl (fun i => hF k i)
   have hgl := (World.ownsRow.lt hown _ rfl).2
   obtain ⟨old, hold⟩ : ∃ v, wr.cell? ⟨w.heap.size, k, none⟩ = some v := by
    rw [World.ownsRow.cellAt hown k (by omega)]
    exact ⟨_, sL_get _ _ _ hlt⟩
   have hfr := World.ownsRow.frozenAt hown k
   have KO : Hid (OwnT wr w.heap.size (some ⟨w.heap.size, 0, none⟩) r r (fun i => if i < k then bod n F T l i else ByteArray.empty)) := hown
   have KB : Hid (Below w.heap.size w wr) := hbel
   clear hr1 hown hbel
   go_wp2_with fail
   refine Calls.mono KC.out ?_
   rintro e w2 ⟨rfl, hO2, hb2⟩
   have hold2 := (hb2.cell (p := ⟨w.heap.size, k, none⟩) hgl).trans hold
   have hfr2 := (World.frozen?_of_block (a := ⟨w.heap.size, k, none⟩) (hb2.block _ hgl)).trans hfr
   have hcv := run_convert_bytes_arg (P := Tryz.prog) w2 22 5 Tryz.underlying22 Tryz.underlying5 wr.heap.size 0 l l (eI (rs (F k) T n) l) (eI_len _ _) (fun i hi => by
    rw [Nat.zero_add, hO2.cell hi, eI_getD _ _ _ hi]) 9 Tryz.underlying9
   rw [show strOfNums (eI (rs (F k) T n) l) = bod n F T l k from rfl] at hcv
   have hst := World.ownsRow.stored (OwnT.below KO.out hb2) k (.string (bod n F T l k))
   rw [sL_set _ _ _ _ hlt] at hst
   have HO : Hid (OwnT (w2.setCell ⟨w.heap.size, k, none⟩ (.string (bod n F T l k))) w.heap.size (some ⟨w.heap.size, 0, none⟩) r r (fun i => if i < k + 1 then bod n F T l i else ByteArray.empty)) := OwnT.congr hst.1 (fun i _ => by
    by_cases e : i = k
    ·simp [e]
    ·by_cases e2 : i < k
     ·simp [e, e2, show i < k + 1 by omega]
     ·simp [e, e2, show ¬ i < k + 1 by omega])
   have HB : Hid (Below w.heap.size w (w2.setCell ⟨w.heap.size, k, none⟩ (.string (bod n F T l k)))) := (below2 KB.out hb2).setCell (Nat.le_refl _) _
   generalize bod n F T l k = sv at hcv HO HB
   clear hst hO2 hold hfr KC KO KB
   go_wp2
   go_roundw
   case rel => exact ⟨k + 1, by omega, by go_num, HO.out, HB.out⟩
   case measure => simp [intOf] <;> omega
  ·obtain rfl : k = r := by omega
   have HO : Hid (OwnT wr w.heap.size (some ⟨w.heap.size, 0, none⟩) k k (bod n F T l)) := hown.congr (fun i hi => if_pos hi)
   clear hown
   go_wp2
   go_ret
   exact ⟨rfl, HO.out, hbel⟩
set_option maxRecDepth 100000 in
theorem cut_any (g N k l : Nat) (W : Nat → Nat) (w : World) (hW : ∀ q, q < N → w.cell? ⟨g, q, none⟩ = some (.int .u8 ((W q : Nat) : Int))) (hN : N = k * l) (hk : 1 ≤ k ∧ k ≤ 16) (hl : 1 ≤ l ∧ l ≤ 100000) :
  Calls Tryz.prog 70 #[.slice (some ⟨g, 0, none⟩) N N, .int .i64 (l : Int)] w fun e w' => ∃ G c, e = .returned (.slice (some ⟨G, 0, none⟩) k c) ∧ PcsAt w' (some ⟨G, 0, none⟩) k l (pcs W l) ∧ Below w.heap.size w w' := by
 obtain ⟨i0, hi, hz0, hz1, hz2⟩ := info_parts Tryz.infoBytes
 obtain ⟨hk1, hk16⟩ := hk
 obtain ⟨hl1, hl2⟩ := hl
 have hq : Int.tdiv (N : Int) (l : Int) = (k : Int) := by
  rw [hN, ← Int.ofNat_tdiv]
  congr 1
  exact Nat.mul_div_cancel _ (by omega)
 have hNb : N ≤ 1600000 := by rw [hN]; exact Nat.le_trans (Nat.mul_le_mul hk16 hl2) (by omega)
 have hl0 : ((l : Int) == 0) = false := by simp; omega
 have hl0' : ¬ ((l : Int) = 0) := by omega
 have hwq : IntKind.i64.wrap (k : Int) = (k : Int) := by rw [IntKind.wrap_i64]; omega
 have KN : Hid (N = k * l) := hN
 have KW : Hid (∀ q, q < N → w.cell? ⟨g, q, none⟩ = some (.int .u8 ((W q : Nat) : Int))) := hW
 clear hN hW
 go_enter Tryz.func70, Tryz.ntmps70
 go_wp2_with (at_make; refine wpList_make_own _ rfl _ _ 86 rfl w.heap.size 22 i0 (.slice none 0 0) 1 Tryz.underlying86 hi hz0 hz1 .i64 .i64 _ k rfl rfl (by first | rfl | assumption) (by rw [hz2]; omega) (by unfold maxLen; omega) (Nat.le_refl _) ?_; intro w1 hown hgrow)
 have hb1 : Below w.heap.size w w1 := (Below.refl _ _).grown hgrow (Nat.le_refl _) (by simp)
 have K1 : Hid (w1.ownsRow w.heap.size 22 1 (.slice (some ⟨w.heap.size, 0, none⟩) 0 k) 0 (hds (fun j => some ⟨g, j * l, none⟩) (fun _ => l) (fun _ => l) 0)) := hown
 have KB1 : Hid (Below w.heap.size w w1) := hb1
 clear hown hgrow hb1 hq hwq
 go_loopw [5, 6] (fun v p wr => ∃ i x G c : Nat, i ≤ k ∧ Hid (x = i * l) ∧ x + (k - i) * l = N ∧ p = .int .i64 (x : Int) ∧ v = .slice (some ⟨G, 0, none⟩) i c ∧ wr.ownsRow w.heap.size 22 1 (.slice (some ⟨G, 0, none⟩) i c) i (hds (fun j => some ⟨g, j * l, none⟩) (fun _ => l) (fun _ => l) i) ∧ Below w.heap.size w wr) (fun _ p _ => N - (intOf p).toNat)
 case atStart => exact ⟨0, 0, _, _, Nat.zero_le _, by show 0 = 0 * l; omega, by rw [KN.out]; simp, rfl, rfl, K1.out, KB1.out⟩
 case round =>
  obtain ⟨i, x, G, c, hik, HX, hxN, rfl, rfl, hown, hbel⟩ := hrel
  clear K1 KB1
  by_cases hlt : i < k
  ·have hxl : x + l ≤ N := by
    rw [← hxN]
    have : l ≤ (k - i) * l := Nat.le_mul_of_pos_left _ (by omega)
    omega
   have hxn2 : x + l + (k - (i + 1)) * l = N := by
    rw [← hxN, show k - i = k - (i + 1) + 1 by omega, Nat.succ_mul]
    omega
   have HX2 : Hid (x + l = (i + 1) * l) := by show _ = _; rw [HX.out, Nat.succ_mul]
   have hxi : (x : Int) < (N : Int) := by omega
   have hsz := hbel.size
   have hGl := (World.ownsRow.lt hown _ rfl).1
   have hw1 : IntKind.i64.wrap ((x : Int) + (l : Int)) = (x : Int) + (l : Int) := by rw [IntKind.wrap_i64]; omega
   have h1 : (0 : Int) ≤ (x : Int) := by omega
   have h2 : (x : Int) ≤ (x : Int) + (l : Int) := by omega
   have h3 : (x : Int) + (l : Int) ≤ (N : Int) := by omega
   have h4 : ¬ (x + l - x = 0) := by omega
   have h5 : x + l - x = l := by omega
   have h6 : ¬ (x + l = x) := by omega
   clear hxN
   go_wp2_with (at_builtin; refine wpList_append_lies _ (by rfl) _ _ 86 (by rfl) w.heap.size 22 i0 (.slice none 0 0) 1 24 Tryz.underlying86 hi hz0 hz1 hz2 rfl (by decide) (.slice (some ⟨G, 0, none⟩) i c) i _ (by rfl) (World.ownsRow.alloc hown _) ⟨wr.heap.size, 0, none⟩ 1 1 [.slice (some ⟨g, x, none⟩) l l] (by rfl) (by rfl) (World.news_of_block (cs := #[.slice (some ⟨g, x, none⟩) l l]) (t := 22) (fr := (0, 0)) (heap_alloc_new wr _)) (by simp [Value.oneCell']) (by omega) (by unfold maxLen; omega) (by omega) (by simp; omega) (wr.heap.size + 1) (by simp) ?_; intro g2 cap3 w2 hown2 hgrow hat hltg)
   have HO : Hid (w2.ownsRow w.heap.size 22 1 (.slice (some ⟨g2, 0, none⟩) (i + 1) cap3) (i + 1) (hds (fun j => some ⟨g, j * l, none⟩) (fun _ => l) (fun _ => l) (i + 1))) := by
    rw [hds_snoc, ← HX.out]
    exact hown2
   have hb' : Below w.heap.size w w2 := (hbel.alloc hsz _).grown (show World.grownBy _ w2 (some G) from hgrow) (by simp; omega) (fun j hj => by cases hj; exact hGl)
   clear hown2 hgrow hat hltg hown
   go_roundw
   case rel => exact ⟨i + 1, x + l, g2, cap3, by omega, HX2, hxn2, by simp, rfl, HO.out, hb'⟩
   case measure => simp [intOf] <;> omega
  ·obtain rfl : i = k := by omega
   have hxi : ¬ (x : Int) < (N : Int) := by
    have : x = N := by rw [← hxN]; simp
    omega
   have HP : Hid (PcsAt wr (some ⟨G, 0, none⟩) i l (pcs W l)) := fun j hj => by
    refine ⟨G, 0, g, j * l, l, rfl, ?_, fun p hp => ?_⟩
    ·rw [Nat.zero_add, World.ownsRow.cellAt hown j (by omega), hds_get _ _ _ _ _ hj]
    ·have hlt2 : j * l + p < N := by
      rw [KN.out]
      have : (j + 1) * l ≤ i * l := Nat.mul_le_mul_right _ hj
      rw [Nat.succ_mul] at this
      omega
     have h0 := KW.out _ hlt2
     exact (hbel.cell (p := ⟨g, j * l + p, none⟩) (block_lt_of_cell h0)).trans h0
   clear hown hxN
   go_wp2
   go_ret
   exact ⟨G, ⟨c, rfl⟩, HP.out, hbel⟩
def encOk (s : ByteArray) (k n : Int) : Bool := decide (s.size ≤ 2000) && sprOk k n
def encR (s : ByteArray) (k n : Int) : Nat := if encOk s k n = true then n.toNat else 0
def encS (s : ByteArray) (k : Nat) : Nat → ByteArray := bod k (Gm.sprd k) (enc s k) (blen s.size k)
theorem sprOk_parts {k n : Int} (h : sprOk k n = true) : 1 ≤ k ∧ k ≤ n ∧ n ≤ 16 := by
 have : (1 ≤ n ∧ n ≤ 16) ∧ 1 ≤ k ∧ k ≤ n := by simpa [sprOk, side] using h
 omega
set_option maxRecDepth 100000 in
theorem encode_any (s : ByteArray) (k n : Int) (w : World) (hs : s.size ≤ 1048576) :
  Calls Tryz.prog 30 #[.string s, .int .i64 k, .int .i64 n] w fun e w' => ∃ v, e = .returned (.tuple #[v, .bool (encOk s k n)]) ∧ ResT w w' v (encR s k n) (encS s k.toNat) ∧ Below w.heap.size w w' := by
 have KSP : Hid _ := spread_any k n w
 obtain ⟨sz, hsz⟩ : ∃ sz, s.size = sz := ⟨_, rfl⟩
 by_cases hok : sprOk k n = true
 case neg =>
  have hok' : sprOk k n = false := by simpa using hok
  have he : encOk s k n = false := by unfold encOk; rw [hok']; simp
  have hr : encR s k n = 0 := by unfold encR; rw [if_neg (by rw [he]; simp)]
  rw [he, hr]
  rw [hok'] at KSP
  have hB := fun w => bodyLen_any (sz : Int) k w
  generalize blI (sz : Int) k = bl at hB
  clear he hr hok hok'
  go_enter Tryz.func30, Tryz.ntmps30
  go_wp2_with fail
  refine Calls.mono KSP.out ?_
  rintro e w1 ⟨v, rfl, _, hb1⟩
  go_wp2_with (go_at_call 68; refine (hB _).mono ?_; rintro e w' ⟨rfl, hw⟩; obtain rfl := hw.symm)
  go_ret2
  exact ⟨_, rfl, ResT.none _ _ _, hb1⟩
 obtain ⟨h1, h2, h3⟩ := sprOk_parts hok
 obtain ⟨K, rfl⟩ := Int.eq_ofNat_of_zero_le (show 0 ≤ k by omega)
 obtain ⟨M, rfl⟩ := Int.eq_ofNat_of_zero_le (show 0 ≤ n by omega)
 have hR : sprR (K : Int) (M : Int) = M := by unfold sprR; rw [if_pos hok]; simp
 rw [hok, hR, Int.toNat_natCast] at KSP
 by_cases hs2 : sz ≤ 2000
 case neg =>
  have he : encOk s (K : Int) (M : Int) = false := by unfold encOk; simp; omega
  have hr : encR s (K : Int) (M : Int) = 0 := by unfold encR; rw [if_neg (by rw [he]; simp)]
  rw [he, hr]
  have hB := fun w => bodyLen_any (sz : Int) (K : Int) w
  rw [blI_no (by omega)] at hB
  clear he hr hok
  go_enter Tryz.func30, Tryz.ntmps30
  go_wp2_with fail
  refine Calls.mono KSP.out ?_
  rintro e w1 ⟨v, rfl, _, hb1⟩
  go_wp2_with (go_at_call 68; refine (hB _).mono ?_; rintro e w' ⟨rfl, hw⟩; obtain rfl := hw.symm)
  go_ret2
  exact ⟨_, rfl, ResT.none _ _ _, hb1⟩
 have he : encOk s (K : Int) (M : Int) = true := by unfold encOk; rw [hok]; simp; omega
 have hr : encR s (K : Int) (M : Int) = M := by unfold encR; rw [if_pos he]; simp
 rw [he, hr, Int.toNat_natCast]
 have hK1 : 1 ≤ K := by omega
 have hK16 : K ≤ 16 := by omega
 have hB := fun w => bodyLen_any (sz : Int) (K : Int) w
 rw [blI_yes hs2 hK1 hK16] at hB
 have hbg := blen_ge (s := sz) hK1
 have hbp := blen_pos (s := sz) hK1
 have hble := blen_le (s := sz) hK1
 have KEN : Hid (encS s K = bod K (Gm.sprd K) (pcs (frm s) (blen sz K)) (blen sz K)) := by show _ = _; unfold encS; rw [hsz]; unfold enc; rw [hsz]
 obtain ⟨l, hl⟩ : ∃ l, blen sz K = l := ⟨_, rfl⟩
 rw [hl] at hB hbg hbp hble KEN
 obtain ⟨NN, hNN⟩ : ∃ NN, K * l = NN := ⟨_, rfl⟩
 have hNb : NN ≤ 100000 := by rw [← hNN]; exact Nat.le_trans (Nat.mul_le_mul hK16 hble) (by omega)
 rw [hNN] at hbg
 have hm : (K : Int) * (l : Int) = (NN : Int) := by rw [← hNN, Int.natCast_mul]
 have hwm : IntKind.i64.wrap ((K : Int) * (l : Int)) = (NN : Int) := by rw [hm, IntKind.wrap_i64]; omega
 have hl0 : ¬ ((l : Int) < 0) := by omega
 have KNN : Hid (NN = K * l) := hNN.symm
 have hFB : Gm.Byt (pcs (frm s) l) := fun i p => frm_lt (by omega) _
 clear he hr hok hl hNN hR hm
 go_enter Tryz.func30, Tryz.ntmps30
 go_wp2_with fail
 refine Calls.mono KSP.out ?_
 rintro e w1 ⟨v, rfl, hRM, hb1⟩
 obtain ⟨am, cm, Am, Cm, rfl, hMM⟩ := hRM
 have KMA : Hid (MatAt w1 am M (fun _ => K) (fun i j => ((Gm.sprd K i j : Nat) : Int))) := hMM.at
 clear hMM KSP
 go_wp2_with (go_at_call 68; refine (hB _).mono ?_; rintro e w' ⟨rfl, hw⟩; obtain rfl := hw.symm)
 refine Calls.mono (framed_any s NN w1 (by omega) (by omega) hNb) ?_
 rintro e w2 ⟨rfl, hO2, hb2⟩
 have KO2 : Hid (∀ q, q < NN → w2.cell? ⟨w1.heap.size, q, none⟩ = some (.int .u8 ((frm s q : Nat) : Int))) := fun q hq => hO2.cell hq
 clear hO2 hB
 go_wp2_with fail
 refine Calls.mono (cut_any w1.heap.size NN K l (frm s) w2 KO2.out KNN.out ⟨hK1, hK16⟩ ⟨hbp, by omega⟩) ?_
 rintro e w3 ⟨G3, c3, rfl, hP3, hb3⟩
 have KP3 : Hid (PcsAt w3 (some ⟨G3, 0, none⟩) K l (pcs (frm s) l)) := hP3
 have hb23 := below2 hb2 hb3
 clear hP3 KO2
 go_wp2_with fail
 refine Calls.mono (rowSumsB_any am cm M (Gm.sprd K) (some ⟨G3, 0, none⟩) c3 K l (pcs (frm s) l) w3 (KMA.out.below hb23) KP3.out hFB (by omega) ⟨hK1, hK16⟩ ⟨hbp, by omega⟩ (Gm.sprd_byt K)) ?_
 rintro e w4 ⟨rfl, hO4, hb4⟩
 have hs3 : w.heap.size ≤ w3.heap.size := Nat.le_trans hb1.size hb23.size
 have HO4 : Hid (ResT w w4 (.slice (some ⟨w3.heap.size, 0, none⟩) M M) M (encS s K)) := ⟨_, _, rfl, by rw [KEN.out]; exact OwnT.base hO4 hs3⟩
 clear hO4 KP3 KMA
 go_wp2
 go_ret2
 exact ⟨_, rfl, HO4.out, below2 (below2 hb1 hb23) hb4⟩
end Go.Proofs.YtihklfkhjpnjkaaGreatDoor
