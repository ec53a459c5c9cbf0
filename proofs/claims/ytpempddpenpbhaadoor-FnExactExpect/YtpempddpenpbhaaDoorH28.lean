/- A place in a row of so many, in the program: whether it is one, its neighbour, the place above it. Conditions: for the neighbour and the place above it at most 2^20 in the row. -/
import Derived.Test.YtpempddpenpbhaaDoorH23
import Derived.Test.YtpempddpenpbhaaDoorH11
import Derived.Test.YtpempddpenpbhaaDoorH6
import Derived.Deep.RegionHeld3
import Derived.Deep.AppendLies
import Derived.Test.YtpempddpenpbhaaDoorH5
import Derived.Sort.LoopGhostIn
namespace Go.Proofs.YtpempddpenpbhaaDoor
set_option maxRecDepth 2000
open Go.ChangeShapes Go.WideShapes Go.ChangeAt Go.RowKit
open Gt (nb hf)

/-- A place in a row, as the value that it is. -/
abbrev SpV (p s : Int) : Value := .agg #[.int .i64 p, .int .i64 s]
theorem Tryd.infoSp : (Tryd.prog.info? 79).map (·.size) = some 2 := by kernel_rfl
theorem xor_one (p : Nat) (h : p ≤ 1048576) : bits .xor .i64 (p : Int) 1 = ((nb p : Nat) : Int) := by
  rw [← Gt.nb_xor]
  exact xor_i64 p 1 (by omega) (by omega)

set_option maxHeartbeats 1000000 in
theorem sizeAbove_any (s : Nat) (w : World) (hs : s ≤ 1048576) : Calls Tryd.prog 78 #[.int .i64 (s : Int)] w fun e w' => e = .returned (.int .i64 ((hf s : Nat) : Int)) ∧ w' = w := by
  obtain ⟨q, hq⟩ : ∃ q, hf s = q := ⟨_, rfl⟩
  have h1 : IntKind.i64.wrap ((s : Int) + 1) = (s : Int) + 1 := by rw [IntKind.wrap_i64]; omega
  have h2 : ((s : Int) + 1).tdiv 2 = (q : Int) := by rw [Int.tdiv_eq_ediv_of_nonneg (by omega), ← hq]; unfold hf; omega
  have h3 : IntKind.i64.wrap (q : Int) = (q : Int) := by unfold hf at hq; rw [IntKind.wrap_i64]; omega
  rw [hq]
  go_enter Tryd.func78, Tryd.ntmps78
  go_wp2
  go_ret
  exact ⟨rfl, rfl⟩

def inT (p s : Int) : Bool := decide (0 ≤ p ∧ p < s ∧ s ≤ 64)
set_option maxHeartbeats 1000000 in
theorem isInTree_any (p s : Int) (w : World) : Calls Tryd.prog 67 #[SpV p s] w fun e w' => e = .returned (.bool (inT p s)) ∧ Below w.heap.size w w' := by
  by_cases h1 : 0 ≤ p
  · by_cases h2 : p < s
    · by_cases h3 : s ≤ 64
      · have HI : Hid (inT p s = true) := by show _ = _; simp [inT, h1, h2, h3]
        go_enter Tryd.func67, Tryd.ntmps67
        go_wp2
        go_ret
        exact ⟨by rw [HI.out]; rfl, (Below.refl _ _).alloc (Nat.le_refl _) _⟩
      · have HI : Hid (inT p s = false) := by show _ = _; simp [inT]; omega
        go_enter Tryd.func67, Tryd.ntmps67
        go_wp2
        go_ret
        exact ⟨by rw [HI.out]; rfl, (Below.refl _ _).alloc (Nat.le_refl _) _⟩
    · have HI : Hid (inT p s = false) := by show _ = _; simp [inT]; omega
      go_enter Tryd.func67, Tryd.ntmps67
      go_wp2
      go_ret
      exact ⟨by rw [HI.out]; rfl, (Below.refl _ _).alloc (Nat.le_refl _) _⟩
  · have HI : Hid (inT p s = false) := by show _ = _; simp [inT]; omega
    go_enter Tryd.func67, Tryd.ntmps67
    go_wp2
    go_ret
    exact ⟨by rw [HI.out]; rfl, (Below.refl _ _).alloc (Nat.le_refl _) _⟩

set_option maxHeartbeats 1000000 in
theorem neighbour_any (p s : Nat) (w : World) (hp : p ≤ 1048576) :
    Calls Tryd.prog 70 #[SpV (p : Int) (s : Int)] w fun e w' => e = .returned (.tuple #[.int .i64 ((nb p : Nat) : Int), .bool (decide (nb p < s))]) ∧ Below w.heap.size w w' := by
  have hx := xor_one p hp
  have hd : decide ((nb p : Int) < (s : Int)) = decide (nb p < s) := by simp
  generalize nb p = q at hx hd
  go_enter Tryd.func70, Tryd.ntmps70
  go_wp2_with fail
  go_quiet (fail)
  go_wp2
  go_ret2
  exact ⟨by first | rfl | (rw [← hd]; rfl), belowDrewN ((Below.refl _ _).alloc (Nat.le_refl _) _) _⟩

set_option maxHeartbeats 1000000 in
theorem spotAbove_any (p s : Nat) (w : World) (hp : p ≤ 1048576) (hs : s ≤ 1048576) :
    Calls Tryd.prog 69 #[SpV (p : Int) (s : Int)] w fun e w' => e = .returned (SpV ((p / 2 : Nat) : Int) ((hf s : Nat) : Int)) ∧ Below w.heap.size w w' := by
  obtain ⟨q, hq⟩ : ∃ q, p / 2 = q := ⟨_, rfl⟩
  have h2 : (p : Int).tdiv 2 = (q : Int) := by rw [Int.tdiv_eq_ediv_of_nonneg (by omega), ← hq]; omega
  have h3 : IntKind.i64.wrap (q : Int) = (q : Int) := by rw [IntKind.wrap_i64]; omega
  rw [hq]
  clear hq
  obtain ⟨w1, HW1⟩ : ∃ w1, Hid (w1 = (w.alloc (.cells #[.int .i64 (p : Int), .int .i64 (s : Int)] 79)).alloc (.cells #[.int .i64 0, .int .i64 0] 79)) := ⟨_, rfl⟩
  have K1 : Hid (Row w1 w.heap.size 79 #[.int .i64 (p : Int), .int .i64 (s : Int)] ∧ Row w1 (w.heap.size + 1) 79 #[.int .i64 0, .int .i64 0] ∧ Below w.heap.size w w1) := by
    rw [HW1.out]
    refine ⟨(Row.new w _ _).alloc _, ?_, ((Below.refl _ _).alloc (Nat.le_refl _) _).alloc (by simp) _⟩
    have := Row.new (w.alloc (.cells #[.int .i64 (p : Int), .int .i64 (s : Int)] 79)) #[.int .i64 0, .int .i64 0] 79
    rw [show (w.alloc (.cells #[.int .i64 (p : Int), .int .i64 (s : Int)] 79)).heap.size = w.heap.size + 1 by simp] at this
    exact this
  obtain ⟨r, hr⟩ : ∃ r, hf s = r := ⟨_, rfl⟩
  have hsz := fun W => sizeAbove_any s W hs
  rw [hr] at hsz ⊢
  have KS : Hid (∀ W, Calls Tryd.prog 78 #[.int .i64 (s : Int)] W fun e w' => e = .returned (.int .i64 (r : Int)) ∧ w' = W) := hsz
  clear hsz hr
  go_enter Tryd.func69, Tryd.ntmps69
  go_wp2_with fail
  rw [← HW1.out]
  have c0 := K1.out.1.cell 0
  have c1 := K1.out.1.cell 1
  have d0 := K1.out.2.1.cell 0
  have d1 := K1.out.2.1.cell 1
  have f0 := K1.out.2.1.free 0
  have f1 := K1.out.2.1.free 1
  simp at c0 c1 d0 d1
  go_still_tail 7, Tryd.mixed
  still_call (KS.out _)
  repeat still_step
  refine wpStill_nil ?_
  rw [fold_drew]
  have HR := ((K1.out.2.1.drew.set 0 (.int .i64 (q : Int))).set 1 (.int .i64 (r : Int)))
  have HB : Hid (Below w.heap.size w ((w1.drew.setCell ⟨w.heap.size + 1, 0, none⟩ (.int .i64 (q : Int))).setCell ⟨w.heap.size + 1, 1, none⟩ (.int .i64 (r : Int)))) := (K1.out.2.2.drew.setCell (by simp) _).setCell (by simp) _
  go_wp2
  refine bodyPost_ret (results_cell_row (by rfl) _ _ (w.heap.size + 1) 79 _ (0, 0) _ (by rfl) HR Tryd.underlying79 (by rfl) Tryd.infoSp) rfl ?_
  exact ⟨rfl, HB.out⟩
end Go.Proofs.YtpempddpenpbhaaDoor
/- The places on the way up from a place, in the program, that are joined: the contract of the iterator that tells them. Condition: a place of a row of at most 64. -/
namespace Go.Proofs.YtpempddpenpbhaaDoor
set_option maxRecDepth 2000
open Go.ChangeShapes Go.WideShapes Go.ChangeAt Go.RowKit Go.Shelf
open Gt (nb hf nm)

abbrev jEnc (s : Nat × Nat) : Array Value := #[.int .i64 (s.1 : Int), .int .i64 ((nb s.1 : Nat) : Int)]
abbrev jOk (s : Nat × Nat) : Prop := 1 < s.2 ∧ nb s.1 < s.2 ∧ s.1 < s.2 ∧ s.2 ≤ 64
abbrev jNx (s : Nat × Nat) : Nat × Nat := nm (s.1 / 2) (hf s.2)
abbrev jFin (s : Nat × Nat) : Prop := s.2 ≤ 1

theorem wideFn (f : FuncId) : Fence.wide.fn f = True := rfl
theorem wideDepth : Fence.wide.depth = none := rfl

set_option maxHeartbeats 1000000 in
theorem joins_iter (i n : Nat) (hi : i < n) (hn : n ≤ 64) : IterM Tryd.prog 60 (SpV (i : Int) (n : Int)) jEnc jOk jNx jFin (nm i n) := by
  intro nn m l J W hJ hY hm h0
  subst hm
  have KY : Hid (∀ s W1, jOk s → J s W1 → W.heap.size < W1.heap.size → YieldAt Fence.wide m Tryd.prog l (jEnc s) W1 fun e W' => e = .returned (.bool true) ∧ J (jNx s) W' ∧ W.heap.size < W'.heap.size ∧ W'.heap[W.heap.size]? = W1.heap[W.heap.size]?) := hY
  clear hY
  have KJ : Hid (∀ s A B, J s A → A.grownBy B (some W.heap.size) → J s B) := hJ
  clear hJ
  have hfn := wideFn
  have hdp := wideDepth
  obtain ⟨b, hb⟩ : ∃ b, W.heap.size = b := ⟨_, rfl⟩
  have KW : Hid (W.heap.size = b) := hb
  refine callsIn_of_wp Tryd.func60 rfl trivial ?_ rfl
  simp only [Tryd.ntmps60, List.size_toArray, List.length_cons, List.length_nil, Nat.reduceAdd, Nat.reduceSub, Array.replicate_succ, Array.replicate_zero, List.push_toArray, List.append_toArray, List.nil_append, List.cons_append]
  gi_wp2
  gi_loopg [] n (fun gk wr => ∃ p s : Nat, s = gk ∧ p < s ∧ s ≤ 64 ∧ Row wr b 79 #[.int .i64 (p : Int), .int .i64 (s : Int)] ∧ Hid (J (nm p s) wr))
  case atStart =>
    refine ⟨i, n, rfl, hi, hn, ?_, KJ.out _ _ _ h0 (World.grownBy_alloc _ _ _)⟩
    rw [← hb]
    exact Row.new W _ _
  case round =>
    obtain ⟨p, s, rfl, hps, hs, hr, HJ⟩ := hrel
    clear h0
    have c0 := hr.cell 0
    have c1 := hr.cell 1
    simp at c0 c1
    by_cases h1 : s ≤ 1
    · have h1' : ¬ (1 : Int) < (s : Int) := by omega
      have HE : Hid (J (p, s) wr) := by have := HJ.out; rw [Gt.nm_one p h1] at this; exact this
      gi_wp2
      go_end0
      exact ⟨⟨_, rfl⟩, p, s, h1, HE.out⟩
    · have h1' : (1 : Int) < (s : Int) := by omega
      have hlb : b < wr.heap.size := hr.lt
      obtain ⟨d, hd⟩ : ∃ d, decide (nb p < s) = d := ⟨_, rfl⟩
      have KN : Hid (∀ w0, Calls Tryd.prog 70 #[SpV (p : Int) (s : Int)] w0 fun e w' => e = .returned (.tuple #[.int .i64 ((nb p : Nat) : Int), .bool d]) ∧ Below w0.heap.size w0 w') := by
        have := fun w0 => neighbour_any p s w0 (by omega)
        rw [hd] at this
        exact this
      have KR : Hid (Row wr b 79 #[.int .i64 (p : Int), .int .i64 (s : Int)]) := hr
      have KA : Hid (∀ w0, Calls Tryd.prog 69 #[SpV (p : Int) (s : Int)] w0 fun e w' => e = .returned (SpV ((p / 2 : Nat) : Int) ((hf s : Nat) : Int)) ∧ Below w0.heap.size w0 w') := fun w0 => spotAbove_any p s w0 (by omega) (by omega)
      obtain ⟨p', hp'⟩ : ∃ p', p / 2 = p' := ⟨_, rfl⟩
      obtain ⟨s', hs'⟩ : ∃ s', hf s = s' := ⟨_, rfl⟩
      have hps' : p' < s' ∧ s' < s := by unfold hf at hs'; omega
      rw [hp', hs'] at KA
      clear hr
      gi_wp2_with fail
      refine (callsIn_wide.2 (KN.out _)).mono ?_
      rintro e w1 ⟨rfl, hb1⟩
      cases d with
      | false =>
        have hnb : ¬ nb p < s := by simpa using hd
        have R1 := KR.out.below hb1 hlb
        have e0 := R1.cell 0
        have e1 := R1.cell 1
        have g0 := R1.free 0
        have g1 := R1.free 1
        simp at e0 e1
        have HJ1 : Hid (J (nm p' s') w1) := by
          have := KJ.out _ _ _ HJ.out (grown_below _ hb1)
          rw [Gt.nm_no p h1 hnb, hp', hs'] at this
          exact this
        clear c0 c1
        gi_wp2_with fail
        refine (callsIn_wide.2 (KA.out _)).mono ?_
        rintro e w2 ⟨rfl, hb2⟩
        have R2 := R1.below hb2 R1.lt
        have R3 := (R2.set 0 (.int .i64 (p' : Int))).set 1 (.int .i64 (s' : Int))
        have HJ2 : Hid (J (nm p' s') ((w2.setCell ⟨b, 0, none⟩ (.int .i64 (p' : Int))).setCell ⟨b, 1, none⟩ (.int .i64 (s' : Int)))) := by
          have hg := grown_below (some b) hb2
          rw [← KW.out] at hg ⊢
          exact KJ.out _ _ _ (KJ.out _ _ _ (KJ.out _ _ _ HJ1.out hg) (grown_set _ _ _ _)) (grown_set _ _ _ _)
        have e0 := R2.cell 0
        have e1 := R2.cell 1
        have g0 := R2.free 0
        have g1 := R2.free 1
        simp at e0 e1 R3
        gi_wp2
        gi_roundg s'
        case measure => exact hps'.2
        case rel => exact ⟨p', s', rfl, hps'.1, by omega, R3, HJ2⟩
      | true =>
        have hnb : nb p < s := by simpa using hd
        have R1 := KR.out.below hb1 hlb
        have e0 := R1.cell 0
        have e1 := R1.cell 1
        simp at e0 e1
        have HJ1 : J (p, s) w1 := by
          have := KJ.out _ _ _ HJ.out (grown_below _ hb1)
          rw [Gt.nm_yes p h1 hnb] at this
          exact this
        obtain ⟨fn, tmps, assign, body, hy, hR⟩ := KY.out (p, s) w1 ⟨by omega, hnb, hps, hs⟩ HJ1 (by rw [KW.out]; exact R1.lt)
        have HR : Hid (RoundIn Fence.wide m Tryd.prog l fn tmps assign body w1 fun e W' => e = .returned (.bool true) ∧ J (nm p' s') W' ∧ W.heap.size < W'.heap.size ∧ W'.heap[W.heap.size]? = w1.heap[W.heap.size]?) := by
          rw [← hp', ← hs']
          exact hR
        clear hR HJ1 c0 c1
        simp only [jEnc] at hy
        obtain ⟨q, hq⟩ : ∃ q, nb p = q := ⟨_, rfl⟩
        rw [hq] at hy
        have hmm : m + 1 - 1 = m := rfl
        gi_wp2
        try rw [hq]
        gi_wp2
        refine HR.out.mono ?_
        rintro e w2 ⟨rfl, hJ2, hs2, hk2⟩
        have R2 : Row w2 b 79 #[.int .i64 (p : Int), .int .i64 (s : Int)] := by
          unfold Row
          rw [← KW.out, hk2, KW.out]
          exact R1
        have HJ2 : Hid (J (nm p' s') w2) := hJ2
        have e0 := R2.cell 0
        have e1 := R2.cell 1
        simp at e0 e1
        clear hk2 hs2 hJ2
        gi_wp2_with fail
        refine (callsIn_wide.2 (KA.out _)).mono ?_
        rintro e w3 ⟨rfl, hb3⟩
        have R3 := R2.below hb3 R2.lt
        have R4 := (R3.set 0 (.int .i64 (p' : Int))).set 1 (.int .i64 (s' : Int))
        have HJ3 : Hid (J (nm p' s') ((w3.setCell ⟨b, 0, none⟩ (.int .i64 (p' : Int))).setCell ⟨b, 1, none⟩ (.int .i64 (s' : Int)))) := by
          have hg := grown_below (some b) hb3
          rw [← KW.out] at hg ⊢
          exact KJ.out _ _ _ (KJ.out _ _ _ (KJ.out _ _ _ HJ2.out hg) (grown_set _ _ _ _)) (grown_set _ _ _ _)
        have e0 := R3.cell 0
        have e1 := R3.cell 1
        have g0 := R3.free 0
        have g1 := R3.free 1
        simp at e0 e1 R4
        gi_wp2
        gi_roundg s'
        case measure => exact hps'.2
        case rel => exact ⟨p', s', rfl, hps'.1, by omega, R4, HJ3⟩
end Go.Proofs.YtpempddpenpbhaaDoor
