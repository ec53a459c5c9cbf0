import Derived.Test.YtihklfkhjpnjkaaGreatDoorJ15
import Derived.Test.YtihklfkhjpnjkaaGreatDoorJ1
import Derived.Sort.LoopGhostIn
set_option maxHeartbeats 8000000
set_option maxRecDepth 2000
open Go.ChangeShapes Go.WideShapes Go.ChangeAt Go.RowKit
namespace Go.Proofs.YtihklfkhjpnjkaaGreatDoor
open Go.ChangeShapes Go.WideShapes Go.ChangeAt Go.RowKit Go.Shelf
open Gt (nb hf nm)
abbrev jEnc (s : Nat × Nat) : Array Value := #[.int .i64 (s.1 : Int), .int .i64 ((nb s.1 : Nat) : Int)]
abbrev jOk (s : Nat × Nat) : Prop := 1 < s.2 ∧ nb s.1 < s.2 ∧ s.1 < s.2 ∧ s.2 ≤ 64
abbrev jNx (s : Nat × Nat) : Nat × Nat := nm (s.1 / 2) (hf s.2)
abbrev jFin (s : Nat × Nat) : Prop := s.2 ≤ 1
theorem wideFn (f : FuncId) : Fence.wide.fn f = True := rfl
theorem wideDepth : Fence.wide.depth = none := rfl
theorem joins_iter (i n : Nat) (hi : i < n) (hn : n ≤ 64) : IterM Tryz.prog 118 (SpV (i : Int) (n : Int)) jEnc jOk jNx jFin (nm i n) := by
 intro nn m l J W hJ hY hm h0
 subst hm
 have KY : Hid (∀ s W1, jOk s → J s W1 → W.heap.size < W1.heap.size → YieldAt Fence.wide m Tryz.prog l (jEnc s) W1 fun e W' => e = .returned (.bool true) ∧ J (jNx s) W' ∧ W.heap.size < W'.heap.size ∧ W'.heap[W.heap.size]? = W1.heap[W.heap.size]?) := hY
 clear hY
 have KJ : Hid (∀ s A B, J s A → A.grownBy B (some W.heap.size) → J s B) := hJ
 clear hJ
 have hfn := wideFn
 have hdp := wideDepth
 obtain ⟨b, hb⟩ : ∃ b, W.heap.size = b := ⟨_, rfl⟩
 have KW : Hid (W.heap.size = b) := hb
 refine callsIn_of_wp Tryz.func118 rfl trivial ?_ rfl
 simp only [Tryz.ntmps118, List.size_toArray, List.length_cons, List.length_nil, Nat.reduceAdd, Nat.reduceSub, Array.replicate_succ, Array.replicate_zero, List.push_toArray, List.append_toArray, List.nil_append, List.cons_append]
 gi_wp2
 gi_loopg [] n (fun gk wr => ∃ p s : Nat, s = gk ∧ p < s ∧ s ≤ 64 ∧ Row wr b 124 #[.int .i64 (p : Int), .int .i64 (s : Int)] ∧ Hid (J (nm p s) wr))
 case atStart =>
  refine ⟨i, n, rfl, hi, hn, ?_, KJ.out _ _ _ h0 (World.grownBy_alloc _ _ _)⟩
  rw [← hb]
  exact Row.new W _ _
 case round =>
  obtain ⟨p, s, rfl, hps, hs, hr, HJ⟩ := hrel
  clear h0
  have c0 := hr.cell 0
  have c1 := hr.cell 1
  simp at c0 c1
  by_cases h1 : s ≤ 1
  ·have h1' : ¬ (1 : Int) < (s : Int) := by omega
   have HE : Hid (J (p, s) wr) := by have := HJ.out; rw [Gt.nm_one p h1] at this; exact this
   gi_wp2
   go_end0
   exact ⟨⟨_, rfl⟩, p, s, h1, HE.out⟩
  ·have h1' : (1 : Int) < (s : Int) := by omega
   have hlb : b < wr.heap.size := hr.lt
   obtain ⟨d, hd⟩ : ∃ d, decide (nb p < s) = d := ⟨_, rfl⟩
   have KN : Hid (∀ w0, Calls Tryz.prog 107 #[SpV (p : Int) (s : Int)] w0 fun e w' => e = .returned (.tuple #[.int .i64 ((nb p : Nat) : Int), .bool d]) ∧ Below w0.heap.size w0 w') := by
    have := fun w0 => neighbour_any p s w0 (by omega)
    rw [hd] at this
    exact this
   have KR : Hid (Row wr b 124 #[.int .i64 (p : Int), .int .i64 (s : Int)]) := hr
   have KA : Hid (∀ w0, Calls Tryz.prog 108 #[SpV (p : Int) (s : Int)] w0 fun e w' => e = .returned (SpV ((p / 2 : Nat) : Int) ((hf s : Nat) : Int)) ∧ Below w0.heap.size w0 w') := fun w0 => spotAbove_any p s w0 (by omega) (by omega)
   obtain ⟨p', hp'⟩ : ∃ p', p / 2 = p' := ⟨_, rfl⟩
   obtain ⟨s', hs'⟩ : ∃ s', hf s = s' := ⟨_, rfl⟩
   have hps' : p' < s' ∧ s' < s := by unfold hf at hs'; omega
   rw [hp', hs'] at KA
   clear hr
   gi_wp2_with fail
   refine (callsIn_wide.2 (KN.out _)).mono ?_
   rintro e w1 ⟨rfl, hb1⟩
   cases d with
   | false =>
    have hnb : ¬ nb p < s := by simpa using hd
    have R1 := KR.out.below hb1 hlb
    have e0 := R1.cell 0
    have e1 := R1.cell 1
    have g0 := R1.free 0
    have g1 := R1.free 1
    simp at e0 e1
    have HJ1 : Hid (J (nm p' s') w1) := by
     have := KJ.out _ _ _ HJ.out (grown_below _ hb1)
     rw [Gt.nm_no p h1 hnb, hp', hs'] at this
     exact this
    clear c0 c1
    gi_wp2_with fail
    refine (callsIn_wide.2 (KA.out _)).mono ?_
    rintro e w2 ⟨rfl, hb2⟩
    have R2 := R1.below hb2 R1.lt
    have R3 := (R2.set 0 (.int .i64 (p' : Int))).set 1 (.int .i64 (s' : Int))
    have HJ2 : Hid (J (nm p' s') ((w2.setCell ⟨b, 0, none⟩ (.int .i64 (p' : Int))).setCell ⟨b, 1, none⟩ (.int .i64 (s' : Int)))) := by
     have hg := grown_below (some b) hb2
     rw [← KW.out] at hg ⊢
     exact KJ.out _ _ _ (KJ.out _ _ _ (KJ.out _ _ _ HJ1.out hg) (grown_set _ _ _ _)) (grown_set _ _ _ _)
    have e0 := R2.cell 0
    have e1 := R2.cell 1
    have g0 := R2.free 0
    have g1 := R2.free 1
    simp at e0 e1 R3
    gi_wp2
    gi_roundg s'
    case measure => exact hps'.2
    case rel => exact ⟨p', s', rfl, hps'.1, by omega, R3, HJ2⟩
   | true =>
    have hnb : nb p < s := by simpa using hd
    have R1 := KR.out.below hb1 hlb
    have e0 := R1.cell 0
    have e1 := R1.cell 1
    simp at e0 e1
    have HJ1 : J (p, s) w1 := by
     have := KJ.out _ _ _ HJ.out (grown_below _ hb1)
     rw [Gt.nm_yes p h1 hnb] at this
     exact this
    obtain ⟨fn, tmps, assign, body, hy, hR⟩ := KY.out (p, s) w1 ⟨by omega, hnb, hps, hs⟩ HJ1 (by rw [KW.out]; exact R1.lt)
    have HR : Hid (RoundIn Fence.wide m Tryz.prog l fn tmps assign body w1 fun e W' => e = .returned (.bool true) ∧ J (nm p' s') W' ∧ W.heap.size < W'.heap.size ∧ W'.heap[W.heap.size]? = w1.heap[W.heap.size]?) := by
     rw [← hp', ← hs']
     exact hR
    clear hR HJ1 c0 c1
    simp only [jEnc] at hy
    obtain ⟨q, hq⟩ : ∃ q, nb p = q := ⟨_, rfl⟩
    rw [hq] at hy
    have hmm : m + 1 - 1 = m := rfl
    gi_wp2
    try rw [hq]
    gi_wp2
    refine HR.out.mono ?_
    rintro e w2 ⟨rfl, hJ2, hs2, hk2⟩
    have R2 : Row w2 b 124 #[.int .i64 (p : Int), .int .i64 (s : Int)] := by
     unfold Row
     rw [← KW.out, hk2, KW.out]
     exact R1
    have HJ2 : Hid (J (nm p' s') w2) := hJ2
    have e0 := R2.cell 0
    have e1 := R2.cell 1
    simp at e0 e1
    clear hk2 hs2 hJ2
    gi_wp2_with fail
    refine (callsIn_wide.2 (KA.out _)).mono ?_
    rintro e w3 ⟨rfl, hb3⟩
    have R3 := R2.below hb3 R2.lt
    have R4 := (R3.set 0 (.int .i64 (p' : Int))).set 1 (.int .i64 (s' : Int))
    have HJ3 : Hid (J (nm p' s') ((w3.setCell ⟨b, 0, none⟩ (.int .i64 (p' : Int))).setCell ⟨b, 1, none⟩ (.int .i64 (s' : Int)))) := by
     have hg := grown_below (some b) hb3
     rw [← KW.out] at hg ⊢
     exact KJ.out _ _ _ (KJ.out _ _ _ (KJ.out _ _ _ HJ2.out hg) (grown_set _ _ _ _)) (grown_set _ _ _ _)
    have e0 := R3.cell 0
    have e1 := R3.cell 1
    have g0 := R3.free 0
    have g1 := R3.free 1
    simp at e0 e1 R4
    gi_wp2
    gi_roundg s'
    case measure => exact hps'.2
    case rel => exact ⟨p', s', rfl, hps'.1, by omega, R4, HJ3⟩
end Go.Proofs.YtihklfkhjpnjkaaGreatDoor
namespace Go.Proofs.YtihklfkhjpnjkaaGreatDoor
open Go.ChangeShapes Go.WideShapes Go.ChangeAt Go.RowKit Go.Shelf
open Gt (nb hf nm pl)
def plI (i n : Int) : Int := if inT i n = true then ((pl i.toNat n.toNat : Nat) : Int) else -1
theorem Row.grown {w w' : World} {g j : Nat} {t : TypeId} {cs : Array Value} (h : Row w g t cs) (hg : w.grownBy w' (some j)) (hj : g ≠ j) : Row w' g t cs := (hg.block g h.lt (by simpa using hj)).trans h
theorem below_grown {B j : Nat} {w0 w w' : World} (h : Below B w0 w) (hg : w.grownBy w' (some j)) (hB : B ≤ w.heap.size) (hj : B ≤ j) : Below B w0 w' := h.grown hg hB (fun k e => by cases e; exact hj)
theorem proofLen_in (i n : Nat) (w : World) (hin : inT (i : Int) (n : Int) = true) :
  Calls Tryz.prog 116 #[.int .i64 (i : Int), .int .i64 (n : Int)] w fun e w' => e = .returned (.int .i64 ((pl i n : Nat) : Int)) ∧ Below w.heap.size w w' := by
 have hi : i < n ∧ n ≤ 64 := by simp [inT] at hin; omega
 have KT : Hid (∀ w0, Calls Tryz.prog 106 #[SpV (i : Int) (n : Int)] w0 fun e w' => e = .returned (.bool true) ∧ Below w0.heap.size w0 w') := by
  have := fun w0 => isInTree_any (i : Int) (n : Int) w0
  rw [hin] at this
  exact this
 have hfn := wideFn
 have hdp := wideDepth
 refine (callsIn_wide (n := 2)).1 ?_
 refine callsIn_of_wp_marks Tryz.func116 rfl trivial ?_ rfl
 simp only [Tryz.ntmps116, List.size_toArray, List.length_cons, List.length_nil, Nat.reduceAdd, Nat.reduceSub, Array.replicate_succ, Array.replicate_zero, List.push_toArray, List.append_toArray, List.nil_append, List.cons_append]
 have R0 := Row.new w #[.int .i64 (i : Int), .int .i64 (n : Int)] 124
 have HB0 : Hid (Below w.heap.size w (w.alloc (.cells #[.int .i64 (i : Int), .int .i64 (n : Int)] 124))) := (Below.refl _ _).alloc (Nat.le_refl _) _
 gi_wp2_with fail
 refine (callsIn_wide.2 (KT.out _)).mono ?_
 rintro e w1 ⟨rfl, hb1⟩
 have R1 := R0.below hb1 R0.lt
 have R2 := R1.alloc (.cells #[.int .i64 0] 3)
 have c0 := R2.cell 0
 have c1 := R2.cell 1
 simp at c0 c1
 have HN : Hid (Row (w1.alloc (.cells #[.int .i64 0] 3)) w1.heap.size 3 #[.int .i64 ((0 : Nat) : Int)] ∧ Below w.heap.size w (w1.alloc (.cells #[.int .i64 0] 3)) ∧ (w1.alloc (.cells #[.int .i64 0] 3)).heap.size = w1.heap.size + 1 ∧ w.heap.size ≤ w1.heap.size) := by
  have hb := below2 HB0.out hb1
  exact ⟨Row.new _ _ _, hb.alloc hb.size _, by simp, hb.size⟩
 gi_wp2
 clear c0 c1 R2 R1 R0 HB0
 generalize w1.alloc (.cells #[.int .i64 0] 3) = w2 at HN ⊢
 obtain ⟨B, hB⟩ : ∃ B, w1.heap.size = B := ⟨_, rfl⟩
 rw [hB] at HN ⊢
 clear hB
 refine wpIn_rangeM (recv := SpV (i : Int) (n : Int)) (gf := 118) (by rfl) (enters_of Tryz.func118 (by kernel_rfl) rfl) (joins_iter i n hi.1 hi.2) (fun _ => rfl)
  (fun s W => Below w.heap.size w W ∧ ∃ c : Nat, Row W B 3 #[.int .i64 (c : Int)] ∧ c + pl s.1 s.2 = pl i n) ?abide ?start ?round ?done
 case abide =>
  rintro s A A' j h1 h2 ⟨hb, c, hr, hc⟩ hg
  exact ⟨below_grown hb hg hb.size (by have := HN.out; omega), c, hr.grown hg (by have := HN.out; omega), hc⟩
 case start => exact ⟨HN.out.2.1, 0, HN.out.1, by rw [Gt.pl_nm]; omega⟩
 case round =>
  rintro l s W hok ⟨hb, c, hr, hc⟩ hlt
  have hn6 : c ≤ 64 := by
   have := Gt.pl_le 6 i n (by omega)
   omega
  have hsem := Oper.semAt_some
  gi_wp2
  refine ⟨World.grownBy.refl _ _, ?_⟩
  intro W2 hg2 hs2
  have r2 := hr.grown hg2 (by have := HN.out; omega)
  have hb2 := below_grown hb hg2 hb.size (by have := HN.out; omega)
  have e0 := r2.cell 0
  have f0 := r2.free 0
  simp at e0
  obtain ⟨c1, hc1⟩ : ∃ c1, c + 1 = c1 := ⟨_, rfl⟩
  have hw : IntKind.i64.wrap ((c : Int) + 1) = (c1 : Int) := by rw [IntKind.wrap_i64]; omega
  have HR : Hid (Row (W2.setCell ⟨B, 0, none⟩ (.int .i64 (c1 : Int))) B 3 #[.int .i64 (c1 : Int)]) := r2.set 0 (.int .i64 (c1 : Int))
  have HB : Hid (Below w.heap.size w (W2.setCell ⟨B, 0, none⟩ (.int .i64 (c1 : Int)))) := hb2.setCell (by have := HN.out; simp; omega) _
  have HC : Hid (c1 + pl (jNx s).1 (jNx s).2 = pl i n) := by
   have h1 := hok.1
   rw [Gt.pl_yes s.1 (by omega) hok.2.1] at hc
   show _ = _
   rw [Gt.pl_nm]
   omega
  clear hc1
  gi_wp2
  exact ⟨by simp, fun j h1 h2 => Below.heap_setCell _ _ _ _ (by have := HN.out; simp; omega), HB.out, c1, HR.out, HC.out⟩
 case done =>
  rintro s W hf ⟨hb, c, hr, hc⟩ hK
  have e0 := hr.cell 0
  simp at e0
  have hcc : c = pl i n := by rw [Gt.pl_one _ hf] at hc; omega
  gi_wp2
  refine ⟨by simp, .inl ⟨_, _, rfl, run_takeDeferred hK, ?_⟩⟩
  exact ⟨_, results_tmp rfl _ _ _, by rw [← hcc]; rfl, below_grown hb (grownBy_put _ _ _) hb.size (by have := HN.out; omega)⟩
theorem proofLen_any (i n : Int) (w : World) : Calls Tryz.prog 116 #[.int .i64 i, .int .i64 n] w fun e w' => e = .returned (.int .i64 (plI i n)) ∧ Below w.heap.size w w' := by
 cases hin : inT i n with
 | true =>
  obtain ⟨i', rfl⟩ : ∃ i' : Nat, i = (i' : Int) := ⟨i.toNat, by simp [inT] at hin; omega⟩
  obtain ⟨n', rfl⟩ : ∃ n' : Nat, n = (n' : Int) := ⟨n.toNat, by simp [inT] at hin; omega⟩
  have e : plI (i' : Int) (n' : Int) = ((pl i' n' : Nat) : Int) := by unfold plI; rw [if_pos hin]; simp
  rw [e]
  exact proofLen_in i' n' w hin
 | false =>
  have e : plI i n = -1 := by unfold plI; rw [hin]; rfl
  rw [e]
  have KT : Hid (∀ w0, Calls Tryz.prog 106 #[SpV i n] w0 fun e w' => e = .returned (.bool false) ∧ Below w0.heap.size w0 w') := by
   have := fun w0 => isInTree_any i n w0
   rw [hin] at this
   exact this
  go_enter Tryz.func116, Tryz.ntmps116
  go_wp2_with fail
  refine (KT.out _).mono ?_
  rintro e w1 ⟨rfl, hb1⟩
  have hb := below2 ((Below.refl _ w).alloc (Nat.le_refl _) (.cells #[.int .i64 i, .int .i64 n] 124)) hb1
  go_wp2
  go_ret
  exact ⟨rfl, hb⟩
end Go.Proofs.YtihklfkhjpnjkaaGreatDoor
namespace Go.Proofs.YtihklfkhjpnjkaaGreatDoor
open Gt (nb hf pl)
theorem up_nums (p s : Nat) (hp : p < s) (hs : s ≤ 64) : IntKind.i64.wrap ((p : Int) + 1) = (p : Int) + 1 ∧ (p : Int).tmod 2 = (p : Int) % 2 ∧ IntKind.i64.wrap (2 * ((p : Int) % 2)) = 2 * ((p : Int) % 2) ∧ IntKind.i64.wrap ((p : Int) + 1 - 2 * ((p : Int) % 2)) = ((nb p : Nat) : Int) ∧
  (p : Int).tdiv 2 = ((p / 2 : Nat) : Int) ∧ IntKind.i64.wrap ((p / 2 : Nat) : Int) = ((p / 2 : Nat) : Int) ∧ IntKind.i64.wrap ((s : Int) + 1) = (s : Int) + 1 ∧ ((s : Int) + 1).tdiv 2 = ((hf s : Nat) : Int) ∧ IntKind.i64.wrap ((hf s : Nat) : Int) = ((hf s : Nat) : Int) := by
 refine ⟨by rw [IntKind.wrap_i64]; omega, by rw [Int.tmod_eq_emod_of_nonneg (by omega)], by rw [IntKind.wrap_i64]; omega, ?_, by rw [Int.tdiv_eq_ediv_of_nonneg (by omega)]; omega, by rw [IntKind.wrap_i64]; omega, by rw [IntKind.wrap_i64]; omega, by rw [Int.tdiv_eq_ediv_of_nonneg (by omega)]; unfold hf; omega, by unfold hf; rw [IntKind.wrap_i64]; omega⟩
 rw [Gt.nb_model, IntKind.wrap_i64]
 have : nb p ≤ p + 1 := by unfold nb; split <;> omega
 omega
theorem inB_false {x a b : Int} (h : ¬ (a ≤ x ∧ x ≤ b)) : inB x a b = false := by unfold inB; simpa using h
theorem inB_true {x a b : Int} (h : a ≤ x ∧ x ≤ b) : inB x a b = true := by unfold inB; simpa using h
theorem sProofLen_any (i n : Int) (w : World) : Calls Tryz.prog 136 #[.int .i64 i, .int .i64 n] w fun e w' => e = .returned (.int .i64 (plI i n)) ∧ w' = w := by
 by_cases hn : 1 ≤ n ∧ n ≤ 64
 ·have KN : inB n 1 64 = true := inB_true hn
  have hw1 : IntKind.i64.wrap (n - 1) = n - 1 := by rw [IntKind.wrap_i64]; omega
  by_cases hi : 0 ≤ i ∧ i ≤ n - 1
  ·have KI : inB i 0 (n - 1) = true := inB_true hi
   obtain ⟨i', rfl⟩ : ∃ i' : Nat, i = (i' : Int) := ⟨i.toNat, by omega⟩
   obtain ⟨n', rfl⟩ : ∃ n' : Nat, n = (n' : Int) := ⟨n.toNat, by omega⟩
   have hin : inT (i' : Int) (n' : Int) = true := by simp [inT]; omega
   have e : plI (i' : Int) (n' : Int) = ((pl i' n' : Nat) : Int) := by unfold plI; rw [if_pos hin]; simp
   rw [e]
   obtain ⟨N, hN⟩ : ∃ N, pl i' n' = N := ⟨_, rfl⟩
   have hN6 : N ≤ 6 := by rw [← hN]; exact Gt.pl_le 6 _ _ (by omega)
   have HN : Hid (pl i' n' = N) := hN
   rw [hN]
   clear hin e hN
   go_enter Tryz.func136, Tryz.ntmps136
   go_wp2_with (go_at_call 60; refine (sIn_any _ _ _ _).mono ?_; rintro e w' ⟨rfl, hw⟩; obtain rfl := hw.symm)
   go_loop [0, 1, 5] (fun vi vn vc => ∃ p s c : Nat, p < s ∧ s ≤ 64 ∧ c ≤ 6 ∧ Hid (c + pl p s = N) ∧ vi = .int .i64 (p : Int) ∧ vn = .int .i64 (s : Int) ∧ vc = .int .i64 (c : Int)) (fun _ vn _ => (intOf vn).toNat)
   case atStart => exact ⟨i', n', 0, by omega, by omega, by omega, by show 0 + _ = _; rw [HN.out]; omega, rfl, rfl, rfl⟩
   case round =>
    obtain ⟨p, s, c, hp, hs, hc, HC, rfl, rfl, rfl⟩ := hrel
    clear hw1 hi hn
    by_cases h1 : s ≤ 1
    ·have h1' : ¬ (1 : Int) < (s : Int) := by omega
     have HE : Hid (c = N) := by have := HC.out; rw [Gt.pl_one p h1] at this; show _ = _; omega
     go_wp2
     go_ret
     exact ⟨by rw [← HE.out]; rfl, rfl⟩
    ·have h1' : (1 : Int) < (s : Int) := by omega
     obtain ⟨u1, u2, u3, u4, u5, u6, u7, u8, u9⟩ := up_nums p s hp hs
     have hlt : p / 2 < hf s ∧ hf s < s := by unfold hf; omega
     by_cases hb : nb p < s
     ·have HC2 : Hid (c + 1 + pl (p / 2) (hf s) = N) := by have := HC.out; rw [Gt.pl_yes p h1 hb] at this; show _ = _; omega
      have hb' : ((nb p : Nat) : Int) < (s : Int) := by omega
      have hc2 : c + 1 ≤ 6 := by have := HC2.out; omega
      generalize nb p = q at u4 hb'
      generalize p / 2 = p' at u5 u6 hlt HC2
      generalize hf s = s' at u8 u9 hlt HC2
      go_wp2
      go_round
      case rel => exact ⟨p', s', c + 1, by omega, by omega, hc2, HC2, rfl, rfl, by go_num⟩
      case measure => simp [intOf]; omega
     ·have HC2 : Hid (c + pl (p / 2) (hf s) = N) := by have := HC.out; rw [Gt.pl_no p h1 hb] at this; exact this
      have hb' : ¬ ((nb p : Nat) : Int) < (s : Int) := by omega
      generalize nb p = q at u4 hb'
      generalize p / 2 = p' at u5 u6 hlt HC2
      generalize hf s = s' at u8 u9 hlt HC2
      go_wp2
      go_round
      case rel => exact ⟨p', s', c, by omega, by omega, hc, HC2, rfl, rfl, rfl⟩
      case measure => simp [intOf]; omega
  ·have KI : inB i 0 (n - 1) = false := inB_false hi
   have e : plI i n = -1 := by unfold plI; rw [show inT i n = false by simp [inT]; omega]; rfl
   rw [e]
   clear e
   go_enter Tryz.func136, Tryz.ntmps136
   go_wp2_with (go_at_call 60; refine (sIn_any _ _ _ _).mono ?_; rintro e w' ⟨rfl, hw⟩; obtain rfl := hw.symm)
   go_ret
   exact ⟨rfl, rfl⟩
 ·have KN : inB n 1 64 = false := inB_false hn
  have e : plI i n = -1 := by unfold plI; rw [show inT i n = false by simp [inT]; omega]; rfl
  rw [e]
  clear e
  go_enter Tryz.func136, Tryz.ntmps136
  go_wp2_with (go_at_call 60; refine (sIn_any _ _ _ _).mono ?_; rintro e w' ⟨rfl, hw⟩; obtain rfl := hw.symm)
  go_ret
  exact ⟨rfl, rfl⟩
end Go.Proofs.YtihklfkhjpnjkaaGreatDoor
