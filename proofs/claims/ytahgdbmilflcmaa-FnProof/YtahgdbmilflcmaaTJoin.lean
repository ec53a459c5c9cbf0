/- The places on the way up from a place, in the program, that are joined: the contract of the iterator that tells them. Condition: a place of a row of at most 64. -/
import Derived.Test.YtahgdbmilflcmaaTSpot
import Derived.Test.YtahgdbmilflcmaaTRange
import Derived.Sort.LoopGhostIn
namespace Go.Proofs.Ytahgdbmilflcmaa
set_option maxRecDepth 2000
open Go.ChangeShapes Go.WideShapes Go.ChangeAt Go.RowKit Go.Shelf
open Gt (nb hf nm)

abbrev jEnc (s : Nat × Nat) : Array Value := #[.int .i64 (s.1 : Int), .int .i64 ((nb s.1 : Nat) : Int)]
abbrev jOk (s : Nat × Nat) : Prop := 1 < s.2 ∧ nb s.1 < s.2 ∧ s.1 < s.2 ∧ s.2 ≤ 64
abbrev jNx (s : Nat × Nat) : Nat × Nat := nm (s.1 / 2) (hf s.2)
abbrev jFin (s : Nat × Nat) : Prop := s.2 ≤ 1

theorem wideFn (f : FuncId) : Fence.wide.fn f = True := rfl
theorem wideDepth : Fence.wide.depth = none := rfl

set_option maxHeartbeats 1000000 in
theorem joins_iter (i n : Nat) (hi : i < n) (hn : n ≤ 64) : IterM Try.prog 47 (SpV (i : Int) (n : Int)) jEnc jOk jNx jFin (nm i n) := by
  intro nn m l J W hJ hY hm h0
  subst hm
  have KY : Hid (∀ s W1, jOk s → J s W1 → W.heap.size < W1.heap.size → YieldAt Fence.wide m Try.prog l (jEnc s) W1 fun e W' => e = .returned (.bool true) ∧ J (jNx s) W' ∧ W.heap.size < W'.heap.size ∧ W'.heap[W.heap.size]? = W1.heap[W.heap.size]?) := hY
  clear hY
  have KJ : Hid (∀ s A B, J s A → A.grownBy B (some W.heap.size) → J s B) := hJ
  clear hJ
  have hfn := wideFn
  have hdp := wideDepth
  obtain ⟨b, hb⟩ : ∃ b, W.heap.size = b := ⟨_, rfl⟩
  have KW : Hid (W.heap.size = b) := hb
  refine callsIn_of_wp Try.func47 rfl trivial ?_ rfl
  simp only [Try.ntmps47, List.size_toArray, List.length_cons, List.length_nil, Nat.reduceAdd, Nat.reduceSub, Array.replicate_succ, Array.replicate_zero, List.push_toArray, List.append_toArray, List.nil_append, List.cons_append]
  gi_wp2
  gi_loopg [] n (fun gk wr => ∃ p s : Nat, s = gk ∧ p < s ∧ s ≤ 64 ∧ Row wr b 65 #[.int .i64 (p : Int), .int .i64 (s : Int)] ∧ Hid (J (nm p s) wr))
  case atStart =>
    refine ⟨i, n, rfl, hi, hn, ?_, KJ.out _ _ _ h0 (World.grownBy_alloc _ _ _)⟩
    rw [← hb]
    exact Row.new W _ _
  case round =>
    obtain ⟨p, s, rfl, hps, hs, hr, HJ⟩ := hrel
    clear h0
    have c0 := hr.cell 0
    have c1 := hr.cell 1
    simp at c0 c1
    by_cases h1 : s ≤ 1
    · have h1' : ¬ (1 : Int) < (s : Int) := by omega
      have HE : Hid (J (p, s) wr) := by have := HJ.out; rw [Gt.nm_one p h1] at this; exact this
      gi_wp2
      go_end0
      exact ⟨⟨_, rfl⟩, p, s, h1, HE.out⟩
    · have h1' : (1 : Int) < (s : Int) := by omega
      have hlb : b < wr.heap.size := hr.lt
      obtain ⟨d, hd⟩ : ∃ d, decide (nb p < s) = d := ⟨_, rfl⟩
      have KN : Hid (∀ w0, Calls Try.prog 41 #[SpV (p : Int) (s : Int)] w0 fun e w' => e = .returned (.tuple #[.int .i64 ((nb p : Nat) : Int), .bool d]) ∧ Below w0.heap.size w0 w') := by
        have := fun w0 => neighbour_any p s w0 (by omega)
        rw [hd] at this
        exact this
      have KR : Hid (Row wr b 65 #[.int .i64 (p : Int), .int .i64 (s : Int)]) := hr
      have KA : Hid (∀ w0, Calls Try.prog 43 #[SpV (p : Int) (s : Int)] w0 fun e w' => e = .returned (SpV ((p / 2 : Nat) : Int) ((hf s : Nat) : Int)) ∧ Below w0.heap.size w0 w') := fun w0 => spotAbove_any p s w0 (by omega) (by omega)
      obtain ⟨p', hp'⟩ : ∃ p', p / 2 = p' := ⟨_, rfl⟩
      obtain ⟨s', hs'⟩ : ∃ s', hf s = s' := ⟨_, rfl⟩
      have hps' : p' < s' ∧ s' < s := by unfold hf at hs'; omega
      rw [hp', hs'] at KA
      clear hr
      gi_wp2_with fail
      refine (callsIn_wide.2 (KN.out _)).mono ?_
      rintro e w1 ⟨rfl, hb1⟩
      cases d with
      | false =>
        have hnb : ¬ nb p < s := by simpa using hd
        have R1 := KR.out.below hb1 hlb
        have e0 := R1.cell 0
        have e1 := R1.cell 1
        have g0 := R1.free 0
        have g1 := R1.free 1
        simp at e0 e1
        have HJ1 : Hid (J (nm p' s') w1) := by
          have := KJ.out _ _ _ HJ.out (grown_below _ hb1)
          rw [Gt.nm_no p h1 hnb, hp', hs'] at this
          exact this
        clear c0 c1
        gi_wp2_with fail
        refine (callsIn_wide.2 (KA.out _)).mono ?_
        rintro e w2 ⟨rfl, hb2⟩
        have R2 := R1.below hb2 R1.lt
        have R3 := (R2.set 0 (.int .i64 (p' : Int))).set 1 (.int .i64 (s' : Int))
        have HJ2 : Hid (J (nm p' s') ((w2.setCell ⟨b, 0, none⟩ (.int .i64 (p' : Int))).setCell ⟨b, 1, none⟩ (.int .i64 (s' : Int)))) := by
          have hg := grown_below (some b) hb2
          rw [← KW.out] at hg ⊢
          exact KJ.out _ _ _ (KJ.out _ _ _ (KJ.out _ _ _ HJ1.out hg) (grown_set _ _ _ _)) (grown_set _ _ _ _)
        have e0 := R2.cell 0
        have e1 := R2.cell 1
        have g0 := R2.free 0
        have g1 := R2.free 1
        simp at e0 e1 R3
        gi_wp2
        gi_roundg s'
        case measure => exact hps'.2
        case rel => exact ⟨p', s', rfl, hps'.1, by omega, R3, HJ2⟩
      | true =>
        have hnb : nb p < s := by simpa using hd
        have R1 := KR.out.below hb1 hlb
        have e0 := R1.cell 0
        have e1 := R1.cell 1
        simp at e0 e1
        have HJ1 : J (p, s) w1 := by
          have := KJ.out _ _ _ HJ.out (grown_below _ hb1)
          rw [Gt.nm_yes p h1 hnb] at this
          exact this
        obtain ⟨fn, tmps, assign, body, hy, hR⟩ := KY.out (p, s) w1 ⟨by omega, hnb, hps, hs⟩ HJ1 (by rw [KW.out]; exact R1.lt)
        have HR : Hid (RoundIn Fence.wide m Try.prog l fn tmps assign body w1 fun e W' => e = .returned (.bool true) ∧ J (nm p' s') W' ∧ W.heap.size < W'.heap.size ∧ W'.heap[W.heap.size]? = w1.heap[W.heap.size]?) := by
          rw [← hp', ← hs']
          exact hR
        clear hR HJ1 c0 c1
        simp only [jEnc] at hy
        obtain ⟨q, hq⟩ : ∃ q, nb p = q := ⟨_, rfl⟩
        rw [hq] at hy
        have hmm : m + 1 - 1 = m := rfl
        gi_wp2
        try rw [hq]
        gi_wp2
        refine HR.out.mono ?_
        rintro e w2 ⟨rfl, hJ2, hs2, hk2⟩
        have R2 : Row w2 b 65 #[.int .i64 (p : Int), .int .i64 (s : Int)] := by
          unfold Row
          rw [← KW.out, hk2, KW.out]
          exact R1
        have HJ2 : Hid (J (nm p' s') w2) := hJ2
        have e0 := R2.cell 0
        have e1 := R2.cell 1
        simp at e0 e1
        clear hk2 hs2 hJ2
        gi_wp2_with fail
        refine (callsIn_wide.2 (KA.out _)).mono ?_
        rintro e w3 ⟨rfl, hb3⟩
        have R3 := R2.below hb3 R2.lt
        have R4 := (R3.set 0 (.int .i64 (p' : Int))).set 1 (.int .i64 (s' : Int))
        have HJ3 : Hid (J (nm p' s') ((w3.setCell ⟨b, 0, none⟩ (.int .i64 (p' : Int))).setCell ⟨b, 1, none⟩ (.int .i64 (s' : Int)))) := by
          have hg := grown_below (some b) hb3
          rw [← KW.out] at hg ⊢
          exact KJ.out _ _ _ (KJ.out _ _ _ (KJ.out _ _ _ HJ2.out hg) (grown_set _ _ _ _)) (grown_set _ _ _ _)
        have e0 := R3.cell 0
        have e1 := R3.cell 1
        have g0 := R3.free 0
        have g1 := R3.free 1
        simp at e0 e1 R4
        gi_wp2
        gi_roundg s'
        case measure => exact hps'.2
        case rel => exact ⟨p', s', rfl, hps'.1, by omega, R4, HJ3⟩
end Go.Proofs.Ytahgdbmilflcmaa
