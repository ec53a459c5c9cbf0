/- A range over a method's value, at the wide fence, over any program: the caller owes an invariant that bears what the iterator and the loop's own record turn, and one walk of a round; the iterator owes its contract ('IterM'). No condition on the program. -/
import Derived.RangeFuncNested
import Derived.RangeFuncBound
import Derived.RangeFuncCalls
import Derived.RangeFuncLeaves
import Derived.Shelf.Abstract
import Derived.Shelf.RegionOpen
import Derived.WalkKit
import Derived.OwnWalkIn
import Derived.TacticsInMore
import Derived.LoopNIn
import Derived.LoopIn
import Derived.Test.YtcnigfejpfcfaaaJ2
import Derived.Test.YtcnigfejpfcfaaaJ3
import Derived.Test.YtcnigfejpfcfaaaJ1
import Derived.Deep.RegionHeld3
import Derived.Deep.AppendLies
import Derived.Sort.LoopGhostIn
import Derived.Lib.Strings
import Derived.Lib.Walk
import Derived.Lib.BufferWrite
import Derived.Lib.UnsafeStr
import Derived.Lib.Hide
import Derived.Laws.MakeOwn
namespace Go.Proofs.Ytcnigfejpfcfaaa
set_option maxRecDepth 2000
open Go.RowKit Go.Shelf

/-- The contract of an iterator that has one block of its own, laid first, and never is told to stop. -/
def IterM (P : Program) (gf : Nat) (recv : Value) {σ : Type} (encs : σ → Array Value) (ok : σ → Prop) (nx : σ → σ) (fin : σ → Prop) (s0 : σ) : Prop :=
  ∀ (n m l : Nat) (J : σ → World → Prop) (W : World), (∀ s A B, J s A → A.grownBy B (some W.heap.size) → J s B) →
    (∀ s W1, ok s → J s W1 → W.heap.size < W1.heap.size → YieldAt Fence.wide m P l (encs s) W1 fun e W' => e = .returned (.bool true) ∧ J (nx s) W' ∧ W.heap.size < W'.heap.size ∧ W'.heap[W.heap.size]? = W1.heap[W.heap.size]?) →
    m + 1 = n → J s0 W → CallsIn Fence.wide n P gf #[recv, .func (.yield l) #[] #[]] W fun e W' => (∃ v, e = .returned v) ∧ ∃ s, fin s ∧ J s W'

/-- How a round of ours is left: off its end. -/
def offEnd (K : World → Prop) : Exit → Act → World → Prop
  | .normal, _, W' => K W'
  | _, _, _ => False

theorem grown_below {w w' : World} (b : Option Nat) (hb : Below w.heap.size w w') : w.grownBy w' b := ⟨hb.os, hb.tape, hb.output, hb.size, fun k hk _ => hb.block k hk⟩
theorem grownBy_put (W : World) (l : Nat) (o : Obj) : W.grownBy (W.putObj l o) (some l) := grownBy_putObj' W l o

theorem wpIn_rangeM {P : Program} {σ : Type} {g : Operand} {ps : Array Tmp} {assign body : Code} {Q : Exit → Act → World → Prop} {a : Act} {w : World}
    {gf : Nat} {recv : Value} (hg : a.eval g = .func (.func gf) #[recv] #[]) (eg : ∀ args w, (callFunc gf args).run P w = .ok (.enter gf args) w)
    {encs : σ → Array Value} {ok : σ → Prop} {nx : σ → σ} {fin : σ → Prop} {s0 : σ} (hseq : IterM P gf recv encs ok nx fin s0) (hps : ∀ s, (encs s).size = ps.size)
    (I : σ → World → Prop) (hI : ∀ s A B j, w.heap.size ≤ j → j < w.heap.size + 3 → I s A → A.grownBy B (some j) → I s B) (h0 : I s0 w)
    (hround : ∀ (l : Nat) (s : σ) (W : World), ok s → I s W → w.heap.size + 2 < W.heap.size →
      assign.wpIn (Fence.wide.inRound l) 0 P (Exit.then (fun a₁ W1 => W.grownBy W1 none ∧ ∀ W2, W1.grownBy W2 (some (w.heap.size + 1)) → W2.heap.size = W1.heap.size → body.wpIn (Fence.wide.inRound l) 0 P (offEnd fun W3 => W2.heap.size ≤ W3.heap.size ∧ (∀ j, w.heap.size ≤ j → j < w.heap.size + 3 → W3.heap[j]? = W2.heap[j]?) ∧ I (nx s) W3) a₁ W2) (fun _ _ _ => False))
        { tmps := (ps.zip (encs s)).foldl (fun t (p, v) => t.setIfInBounds p v) a.tmps, defers := [] } W)
    (hdone : ∀ (s : σ) (W : World), fin s → I s W → W.heap[w.heap.size]? = some (.deferred (some [])) → Q .normal { a with defers := { target := .collected w.heap.size, args := #[] } :: a.defers } W) :
    (Code.rangeFunc g ps assign body).wpIn Fence.wide 2 P Q a w := by
  refine wpIn_rangeFunc ?_
  intro fn hfn
  rw [show Fence.wide.round = none from rfl]
  obtain ⟨rec, hrec⟩ : ∃ rec : LoopState → Option Code → Loop, rec = fun st pe => { state := st, pending := pe, fn, tmps := a.tmps, params := ps, assign, body, defers := w.heap.size } := ⟨_, rfl⟩
  obtain ⟨W1, hW1⟩ : ∃ W1, (w.alloc (.deferred (some []))).alloc (.loop (rec .ready none)) = W1 := ⟨_, rfl⟩
  have hL1 : W1.heap[w.heap.size + 1]? = some (.loop (rec .ready none)) := by
    rw [← hW1]; have := World.alloc_heap_new (w.alloc (.deferred (some []))) (.loop (rec .ready none)); rwa [World.size_alloc] at this
  have hK1 : W1.heap[w.heap.size]? = some (.deferred (some [])) := by
    rw [← hW1]; exact (Below.heap_alloc _ _ _ (by simp)).trans (World.alloc_heap_new w _)
  have hsz : W1.heap.size = w.heap.size + 2 := by rw [← hW1]; simp
  have hI1 : I s0 W1 := by
    rw [← hW1]
    exact hI _ _ _ w.heap.size (Nat.le_refl _) (by omega) (hI _ _ _ w.heap.size (Nat.le_refl _) (by omega) h0 (World.grownBy_alloc _ _ _)) (World.grownBy_alloc _ _ _)
  refine ⟨w.heap.size + 1, [{ target := .collected w.heap.size, args := #[] }], W1, { target := .fn (.func gf) #[], args := #[recv, .func (.yield (w.heap.size + 1)) #[] #[]] }, W1, gf,
    #[recv, .func (.yield (w.heap.size + 1)) #[] #[]], W1, ?_, ?_, fun _ _ => trivial, ?_, fun _ => by omega, ?_⟩
  · rw [← hW1, hrec]; exact run_enterLoop_outer _ _ _ _ _
  · simp only [resolve, hg]
    simp [go_sem]
  · simp [invoke, go_sem, eg]
  · refine (hseq 1 0 (w.heap.size + 1)
      (fun s W => I s W ∧ W.heap[w.heap.size + 1]? = some (.loop (rec .ready none)) ∧ W.heap[w.heap.size]? = some (.deferred (some []))) W1
      (fun s A B hs hg' => ?_) ?_ rfl ⟨hI1, hL1, hK1⟩).mono ?_
    · rw [hsz] at hg'
      obtain ⟨h1, h2, h3⟩ := hs
      exact ⟨hI _ _ _ _ (by omega) (by omega) h1 hg', (hg'.block _ (Array.getElem?_eq_some_iff.1 h2).1 (by simp)).trans h2, (hg'.block _ (Array.getElem?_eq_some_iff.1 h3).1 (by simp)).trans h3⟩
    · rintro s W hok ⟨hi, hl, hk⟩ hlt
      rw [hsz] at hlt ⊢
      have hy := run_yield (P := P) (args := encs s) hl (by rw [hrec]; exact hps s)
      rw [hrec] at hy
      refine ⟨fn, _, assign, body, hy, roundIn_of_wpIn hfn (Code.wpIn_mono ?_ (hround _ s W hok hi hlt))⟩
      intro e a1 Wa hq
      cases e with
      | normal =>
        obtain ⟨hga, hbody⟩ := hq
        have hla : Wa.heap[w.heap.size + 1]? = some (.loop (rec .ready none)) := (hga.block _ (by omega) (by simp)).trans hl
        have hka : Wa.heap[w.heap.size]? = some (.deferred (some [])) := (hga.block _ (by omega) (by simp)).trans hk
        have hla' : w.heap.size + 1 < Wa.heap.size := (Array.getElem?_eq_some_iff.1 hla).1
        refine ⟨_, run_beginRound hla (by rw [hrec]), ?_⟩
        have hl2 : (Wa.putObj (w.heap.size + 1) (.loop { rec .ready none with state := .busy })).heap[w.heap.size + 1]? = some (.loop { rec .ready none with state := .busy }) := World.putObj_heap_same hla'
        refine Code.wpIn_mono ?_ (hbody _ (grownBy_put _ _ _) (by simp))
        intro e a3 W3 hp
        cases e with
        | normal =>
          obtain ⟨hs3, hj3, hi3⟩ := hp
          have hl3 : W3.heap[w.heap.size + 1]? = some (.loop { rec .ready none with state := .busy }) := (hj3 _ (by omega) (by omega)).trans hl2
          have hr := run_endRound (P := P) none hl3
          have hl3' := (Array.getElem?_eq_some_iff.1 hl3).1
          refine ⟨_, _, hr, rfl, ⟨hI _ _ _ _ (by omega) (by omega) hi3 (grownBy_put _ _ _), ?_, ?_⟩, ?_, ?_⟩
          · rw [World.putObj_heap_same hl3', hrec]; rfl
          · rw [World.putObj_heap_other (by omega), hj3 _ (by omega) (by omega), World.putObj_heap_other (by omega)]; exact hka
          · simp at hs3 ⊢
            have := hga.size
            omega
          · rw [World.putObj_heap_other (by omega), hj3 _ (by omega) (by omega), World.putObj_heap_other (by omega)]
            exact hga.block _ hlt (by simp)
        | ret => exact hp.elim
        | exit id => exact hp.elim
        | goto t => exact hp.elim
        | panic ch => exact hp.elim
        | outgrown => exact hp.elim
      | ret => exact hq.elim
      | exit id => exact hq.elim
      | goto t => exact hq.elim
      | panic ch => exact hq.elim
      | outgrown => exact hq.elim
    · rintro e W2 ⟨⟨v, rfl⟩, s, hf, hi, hl, hk⟩
      exact ⟨none, _, by have := run_endLoop (P := P) hl (by rw [hrec]; simp); rw [hrec] at this; exact this, hdone s _ hf (hI _ _ _ _ (by omega) (by omega) hi (grownBy_put _ _ _)) ((World.putObj_heap_other (by omega)).trans hk)⟩
end Go.Proofs.Ytcnigfejpfcfaaa

/- A place in a row of so many, in the program: whether it is one, its neighbour, the place above it. Conditions: for the neighbour and the place above it at most 2^20 in the row. -/
namespace Go.Proofs.Ytcnigfejpfcfaaa
set_option maxRecDepth 2000
open Go.ChangeShapes Go.WideShapes Go.ChangeAt Go.RowKit
open Gt (nb hf)

/-- A place in a row, as the value that it is. -/
abbrev SpV (p s : Int) : Value := .agg #[.int .i64 p, .int .i64 s]
theorem Try.infoSp : (Try.prog.info? 141).map (·.size) = some 2 := by kernel_rfl
theorem wrap_nat64 (n : Nat) (h : n ≤ 4611686018427387904) : IntKind.i64.wrap (n : Int) = (n : Int) := by rw [IntKind.wrap_i64]; omega
theorem xor_one (p : Nat) (h : p ≤ 1048576) : bits .xor .i64 (p : Int) 1 = ((nb p : Nat) : Int) := by
  rw [← Gt.nb_xor]
  exact xor_i64 p 1 (by omega) (by omega)

set_option maxHeartbeats 1000000 in
theorem sizeAbove_any (s : Nat) (w : World) (hs : s ≤ 1048576) : Calls Try.prog 135 #[.int .i64 (s : Int)] w fun e w' => e = .returned (.int .i64 ((hf s : Nat) : Int)) ∧ w' = w := by
  obtain ⟨q, hq⟩ : ∃ q, hf s = q := ⟨_, rfl⟩
  have h1 : IntKind.i64.wrap ((s : Int) + 1) = (s : Int) + 1 := by rw [IntKind.wrap_i64]; omega
  have h2 : ((s : Int) + 1).tdiv 2 = (q : Int) := by rw [Int.tdiv_eq_ediv_of_nonneg (by omega), ← hq]; unfold hf; omega
  have h3 : IntKind.i64.wrap (q : Int) = (q : Int) := by unfold hf at hq; rw [IntKind.wrap_i64]; omega
  rw [hq]
  go_enter Try.func135, Try.ntmps135
  go_wp2
  go_ret
  exact ⟨rfl, rfl⟩

def inT (p s : Int) : Bool := decide (0 ≤ p ∧ p < s ∧ s ≤ 64)
set_option maxHeartbeats 1000000 in
theorem isInTree_any (p s : Int) (w : World) : Calls Try.prog 120 #[SpV p s] w fun e w' => e = .returned (.bool (inT p s)) ∧ Below w.heap.size w w' := by
  by_cases h1 : 0 ≤ p
  · by_cases h2 : p < s
    · by_cases h3 : s ≤ 64
      · have HI : Hid (inT p s = true) := by show _ = _; simp [inT, h1, h2, h3]
        go_enter Try.func120, Try.ntmps120
        go_wp2
        go_ret
        exact ⟨by rw [HI.out]; rfl, (Below.refl _ _).alloc (Nat.le_refl _) _⟩
      · have HI : Hid (inT p s = false) := by show _ = _; simp [inT]; omega
        go_enter Try.func120, Try.ntmps120
        go_wp2
        go_ret
        exact ⟨by rw [HI.out]; rfl, (Below.refl _ _).alloc (Nat.le_refl _) _⟩
    · have HI : Hid (inT p s = false) := by show _ = _; simp [inT]; omega
      go_enter Try.func120, Try.ntmps120
      go_wp2
      go_ret
      exact ⟨by rw [HI.out]; rfl, (Below.refl _ _).alloc (Nat.le_refl _) _⟩
  · have HI : Hid (inT p s = false) := by show _ = _; simp [inT]; omega
    go_enter Try.func120, Try.ntmps120
    go_wp2
    go_ret
    exact ⟨by rw [HI.out]; rfl, (Below.refl _ _).alloc (Nat.le_refl _) _⟩

set_option maxHeartbeats 1000000 in
theorem neighbour_any (p s : Nat) (w : World) (hp : p ≤ 1048576) :
    Calls Try.prog 121 #[SpV (p : Int) (s : Int)] w fun e w' => e = .returned (.tuple #[.int .i64 ((nb p : Nat) : Int), .bool (decide (nb p < s))]) ∧ Below w.heap.size w w' := by
  have hx := xor_one p hp
  have hd : decide ((nb p : Int) < (s : Int)) = decide (nb p < s) := by simp
  generalize nb p = q at hx hd
  go_enter Try.func121, Try.ntmps121
  go_wp2_with fail
  go_quiet (fail)
  go_wp2
  go_ret2
  exact ⟨by first | rfl | (rw [← hd]; rfl), belowDrewN ((Below.refl _ _).alloc (Nat.le_refl _) _) _⟩

set_option maxHeartbeats 1000000 in
theorem spotAbove_any (p s : Nat) (w : World) (hp : p ≤ 1048576) (hs : s ≤ 1048576) :
    Calls Try.prog 122 #[SpV (p : Int) (s : Int)] w fun e w' => e = .returned (SpV ((p / 2 : Nat) : Int) ((hf s : Nat) : Int)) ∧ Below w.heap.size w w' := by
  obtain ⟨q, hq⟩ : ∃ q, p / 2 = q := ⟨_, rfl⟩
  have h2 : (p : Int).tdiv 2 = (q : Int) := by rw [Int.tdiv_eq_ediv_of_nonneg (by omega), ← hq]; omega
  have h3 : IntKind.i64.wrap (q : Int) = (q : Int) := by rw [IntKind.wrap_i64]; omega
  rw [hq]
  clear hq
  obtain ⟨w1, HW1⟩ : ∃ w1, Hid (w1 = (w.alloc (.cells #[.int .i64 (p : Int), .int .i64 (s : Int)] 141)).alloc (.cells #[.int .i64 0, .int .i64 0] 141)) := ⟨_, rfl⟩
  have K1 : Hid (Row w1 w.heap.size 141 #[.int .i64 (p : Int), .int .i64 (s : Int)] ∧ Row w1 (w.heap.size + 1) 141 #[.int .i64 0, .int .i64 0] ∧ Below w.heap.size w w1) := by
    rw [HW1.out]
    refine ⟨(Row.new w _ _).alloc _, ?_, ((Below.refl _ _).alloc (Nat.le_refl _) _).alloc (by simp) _⟩
    have := Row.new (w.alloc (.cells #[.int .i64 (p : Int), .int .i64 (s : Int)] 141)) #[.int .i64 0, .int .i64 0] 141
    rw [show (w.alloc (.cells #[.int .i64 (p : Int), .int .i64 (s : Int)] 141)).heap.size = w.heap.size + 1 by simp] at this
    exact this
  obtain ⟨r, hr⟩ : ∃ r, hf s = r := ⟨_, rfl⟩
  have hsz := fun W => sizeAbove_any s W hs
  rw [hr] at hsz ⊢
  have KS : Hid (∀ W, Calls Try.prog 135 #[.int .i64 (s : Int)] W fun e w' => e = .returned (.int .i64 (r : Int)) ∧ w' = W) := hsz
  clear hsz hr
  go_enter Try.func122, Try.ntmps122
  go_wp2_with fail
  rw [← HW1.out]
  have c0 := K1.out.1.cell 0
  have c1 := K1.out.1.cell 1
  have d0 := K1.out.2.1.cell 0
  have d1 := K1.out.2.1.cell 1
  have f0 := K1.out.2.1.free 0
  have f1 := K1.out.2.1.free 1
  simp at c0 c1 d0 d1
  go_still_tail 7, Try.mixed
  still_call (KS.out _)
  repeat still_step
  refine wpStill_nil ?_
  rw [fold_drew]
  have HR := ((K1.out.2.1.drew.set 0 (.int .i64 (q : Int))).set 1 (.int .i64 (r : Int)))
  have HB : Hid (Below w.heap.size w ((w1.drew.setCell ⟨w.heap.size + 1, 0, none⟩ (.int .i64 (q : Int))).setCell ⟨w.heap.size + 1, 1, none⟩ (.int .i64 (r : Int)))) := (K1.out.2.2.drew.setCell (by simp) _).setCell (by simp) _
  go_wp2
  refine bodyPost_ret (results_cell_row (by rfl) _ _ (w.heap.size + 1) 141 _ (0, 0) _ (by rfl) HR Try.underlying141 (by rfl) Try.infoSp) rfl ?_
  exact ⟨rfl, HB.out⟩
end Go.Proofs.Ytcnigfejpfcfaaa

/- The places on the way up from a place, in the program, that are joined: the contract of the iterator that tells them. Condition: a place of a row of at most 64. -/
namespace Go.Proofs.Ytcnigfejpfcfaaa
set_option maxRecDepth 2000
open Go.ChangeShapes Go.WideShapes Go.ChangeAt Go.RowKit Go.Shelf
open Gt (nb hf nm)

abbrev jEnc (s : Nat × Nat) : Array Value := #[.int .i64 (s.1 : Int), .int .i64 ((nb s.1 : Nat) : Int)]
abbrev jOk (s : Nat × Nat) : Prop := 1 < s.2 ∧ nb s.1 < s.2 ∧ s.1 < s.2 ∧ s.2 ≤ 64
abbrev jNx (s : Nat × Nat) : Nat × Nat := nm (s.1 / 2) (hf s.2)
abbrev jFin (s : Nat × Nat) : Prop := s.2 ≤ 1

theorem wideFn (f : FuncId) : Fence.wide.fn f = True := rfl
theorem wideDepth : Fence.wide.depth = none := rfl

set_option maxHeartbeats 1000000 in
theorem joins_iter (i n : Nat) (hi : i < n) (hn : n ≤ 64) : IterM Try.prog 139 (SpV (i : Int) (n : Int)) jEnc jOk jNx jFin (nm i n) := by
  intro nn m l J W hJ hY hm h0
  subst hm
  have KY : Hid (∀ s W1, jOk s → J s W1 → W.heap.size < W1.heap.size → YieldAt Fence.wide m Try.prog l (jEnc s) W1 fun e W' => e = .returned (.bool true) ∧ J (jNx s) W' ∧ W.heap.size < W'.heap.size ∧ W'.heap[W.heap.size]? = W1.heap[W.heap.size]?) := hY
  clear hY
  have KJ : Hid (∀ s A B, J s A → A.grownBy B (some W.heap.size) → J s B) := hJ
  clear hJ
  have hfn := wideFn
  have hdp := wideDepth
  obtain ⟨b, hb⟩ : ∃ b, W.heap.size = b := ⟨_, rfl⟩
  have KW : Hid (W.heap.size = b) := hb
  refine callsIn_of_wp Try.func139 rfl trivial ?_ rfl
  simp only [Try.ntmps139, List.size_toArray, List.length_cons, List.length_nil, Nat.reduceAdd, Nat.reduceSub, Array.replicate_succ, Array.replicate_zero, List.push_toArray, List.append_toArray, List.nil_append, List.cons_append]
  gi_wp2
  gi_loopg [] n (fun gk wr => ∃ p s : Nat, s = gk ∧ p < s ∧ s ≤ 64 ∧ Row wr b 141 #[.int .i64 (p : Int), .int .i64 (s : Int)] ∧ Hid (J (nm p s) wr))
  case atStart =>
    refine ⟨i, n, rfl, hi, hn, ?_, KJ.out _ _ _ h0 (World.grownBy_alloc _ _ _)⟩
    rw [← hb]
    exact Row.new W _ _
  case round =>
    obtain ⟨p, s, rfl, hps, hs, hr, HJ⟩ := hrel
    clear h0
    have c0 := hr.cell 0
    have c1 := hr.cell 1
    simp at c0 c1
    by_cases h1 : s ≤ 1
    · have h1' : ¬ (1 : Int) < (s : Int) := by omega
      have HE : Hid (J (p, s) wr) := by have := HJ.out; rw [Gt.nm_one p h1] at this; exact this
      gi_wp2
      go_end0
      exact ⟨⟨_, rfl⟩, p, s, h1, HE.out⟩
    · have h1' : (1 : Int) < (s : Int) := by omega
      have hlb : b < wr.heap.size := hr.lt
      obtain ⟨d, hd⟩ : ∃ d, decide (nb p < s) = d := ⟨_, rfl⟩
      have KN : Hid (∀ w0, Calls Try.prog 121 #[SpV (p : Int) (s : Int)] w0 fun e w' => e = .returned (.tuple #[.int .i64 ((nb p : Nat) : Int), .bool d]) ∧ Below w0.heap.size w0 w') := by
        have := fun w0 => neighbour_any p s w0 (by omega)
        rw [hd] at this
        exact this
      have KR : Hid (Row wr b 141 #[.int .i64 (p : Int), .int .i64 (s : Int)]) := hr
      have KA : Hid (∀ w0, Calls Try.prog 122 #[SpV (p : Int) (s : Int)] w0 fun e w' => e = .returned (SpV ((p / 2 : Nat) : Int) ((hf s : Nat) : Int)) ∧ Below w0.heap.size w0 w') := fun w0 => spotAbove_any p s w0 (by omega) (by omega)
      obtain ⟨p', hp'⟩ : ∃ p', p / 2 = p' := ⟨_, rfl⟩
      obtain ⟨s', hs'⟩ : ∃ s', hf s = s' := ⟨_, rfl⟩
      have hps' : p' < s' ∧ s' < s := by unfold hf at hs'; omega
      rw [hp', hs'] at KA
      clear hr
      gi_wp2_with fail
      refine (callsIn_wide.2 (KN.out _)).mono ?_
      rintro e w1 ⟨rfl, hb1⟩
      cases d with
      | false =>
        have hnb : ¬ nb p < s := by simpa using hd
        have R1 := KR.out.below hb1 hlb
        have e0 := R1.cell 0
        have e1 := R1.cell 1
        have g0 := R1.free 0
        have g1 := R1.free 1
        simp at e0 e1
        have HJ1 : Hid (J (nm p' s') w1) := by
          have := KJ.out _ _ _ HJ.out (grown_below _ hb1)
          rw [Gt.nm_no p h1 hnb, hp', hs'] at this
          exact this
        clear c0 c1
        gi_wp2_with fail
        refine (callsIn_wide.2 (KA.out _)).mono ?_
        rintro e w2 ⟨rfl, hb2⟩
        have R2 := R1.below hb2 R1.lt
        have R3 := (R2.set 0 (.int .i64 (p' : Int))).set 1 (.int .i64 (s' : Int))
        have HJ2 : Hid (J (nm p' s') ((w2.setCell ⟨b, 0, none⟩ (.int .i64 (p' : Int))).setCell ⟨b, 1, none⟩ (.int .i64 (s' : Int)))) := by
          have hg := grown_below (some b) hb2
          rw [← KW.out] at hg ⊢
          exact KJ.out _ _ _ (KJ.out _ _ _ (KJ.out _ _ _ HJ1.out hg) (grown_set _ _ _ _)) (grown_set _ _ _ _)
        have e0 := R2.cell 0
        have e1 := R2.cell 1
        have g0 := R2.free 0
        have g1 := R2.free 1
        simp at e0 e1 R3
        gi_wp2
        gi_roundg s'
        case measure => exact hps'.2
        case rel => exact ⟨p', s', rfl, hps'.1, by omega, R3, HJ2⟩
      | true =>
        have hnb : nb p < s := by simpa using hd
        have R1 := KR.out.below hb1 hlb
        have e0 := R1.cell 0
        have e1 := R1.cell 1
        simp at e0 e1
        have HJ1 : J (p, s) w1 := by
          have := KJ.out _ _ _ HJ.out (grown_below _ hb1)
          rw [Gt.nm_yes p h1 hnb] at this
          exact this
        obtain ⟨fn, tmps, assign, body, hy, hR⟩ := KY.out (p, s) w1 ⟨by omega, hnb, hps, hs⟩ HJ1 (by rw [KW.out]; exact R1.lt)
        have HR : Hid (RoundIn Fence.wide m Try.prog l fn tmps assign body w1 fun e W' => e = .returned (.bool true) ∧ J (nm p' s') W' ∧ W.heap.size < W'.heap.size ∧ W'.heap[W.heap.size]? = w1.heap[W.heap.size]?) := by
          rw [← hp', ← hs']
          exact hR
        clear hR HJ1 c0 c1
        simp only [jEnc] at hy
        obtain ⟨q, hq⟩ : ∃ q, nb p = q := ⟨_, rfl⟩
        rw [hq] at hy
        have hmm : m + 1 - 1 = m := rfl
        gi_wp2
        try rw [hq]
        gi_wp2
        refine HR.out.mono ?_
        rintro e w2 ⟨rfl, hJ2, hs2, hk2⟩
        have R2 : Row w2 b 141 #[.int .i64 (p : Int), .int .i64 (s : Int)] := by
          unfold Row
          rw [← KW.out, hk2, KW.out]
          exact R1
        have HJ2 : Hid (J (nm p' s') w2) := hJ2
        have e0 := R2.cell 0
        have e1 := R2.cell 1
        simp at e0 e1
        clear hk2 hs2 hJ2
        gi_wp2_with fail
        refine (callsIn_wide.2 (KA.out _)).mono ?_
        rintro e w3 ⟨rfl, hb3⟩
        have R3 := R2.below hb3 R2.lt
        have R4 := (R3.set 0 (.int .i64 (p' : Int))).set 1 (.int .i64 (s' : Int))
        have HJ3 : Hid (J (nm p' s') ((w3.setCell ⟨b, 0, none⟩ (.int .i64 (p' : Int))).setCell ⟨b, 1, none⟩ (.int .i64 (s' : Int)))) := by
          have hg := grown_below (some b) hb3
          rw [← KW.out] at hg ⊢
          exact KJ.out _ _ _ (KJ.out _ _ _ (KJ.out _ _ _ HJ2.out hg) (grown_set _ _ _ _)) (grown_set _ _ _ _)
        have e0 := R3.cell 0
        have e1 := R3.cell 1
        have g0 := R3.free 0
        have g1 := R3.free 1
        simp at e0 e1 R4
        gi_wp2
        gi_roundg s'
        case measure => exact hps'.2
        case rel => exact ⟨p', s', rfl, hps'.1, by omega, R4, HJ3⟩
end Go.Proofs.Ytcnigfejpfcfaaa

/- How many texts a proof has, in the program: at every two numbers. No condition. -/
namespace Go.Proofs.Ytcnigfejpfcfaaa
set_option maxRecDepth 2000
open Go.ChangeShapes Go.WideShapes Go.ChangeAt Go.RowKit Go.Shelf
open Gt (nb hf nm pl)

/-- How many texts a proof of place i of n has, or -1. -/
def plI (i n : Int) : Int := if inT i n = true then ((pl i.toNat n.toNat : Nat) : Int) else -1
theorem Row.grown {w w' : World} {g j : Nat} {t : TypeId} {cs : Array Value} (h : Row w g t cs) (hg : w.grownBy w' (some j)) (hj : g ≠ j) : Row w' g t cs := (hg.block g h.lt (by simpa using hj)).trans h
theorem below_grown {B j : Nat} {w0 w w' : World} (h : Below B w0 w) (hg : w.grownBy w' (some j)) (hB : B ≤ w.heap.size) (hj : B ≤ j) : Below B w0 w' := h.grown hg hB (fun k e => by cases e; exact hj)

set_option maxHeartbeats 1000000 in
theorem proofLen_in (i n : Nat) (w : World) (hin : inT (i : Int) (n : Int) = true) :
    Calls Try.prog 138 #[.int .i64 (i : Int), .int .i64 (n : Int)] w fun e w' => e = .returned (.int .i64 ((pl i n : Nat) : Int)) ∧ Below w.heap.size w w' := by
  have hi : i < n ∧ n ≤ 64 := by simp [inT] at hin; omega
  have KT : Hid (∀ w0, Calls Try.prog 120 #[SpV (i : Int) (n : Int)] w0 fun e w' => e = .returned (.bool true) ∧ Below w0.heap.size w0 w') := by
    have := fun w0 => isInTree_any (i : Int) (n : Int) w0
    rw [hin] at this
    exact this
  have hfn := wideFn
  have hdp := wideDepth
  refine (callsIn_wide (n := 2)).1 ?_
  refine callsIn_of_wp_marks Try.func138 rfl trivial ?_ rfl
  simp only [Try.ntmps138, List.size_toArray, List.length_cons, List.length_nil, Nat.reduceAdd, Nat.reduceSub, Array.replicate_succ, Array.replicate_zero, List.push_toArray, List.append_toArray, List.nil_append, List.cons_append]
  have R0 := Row.new w #[.int .i64 (i : Int), .int .i64 (n : Int)] 141
  have HB0 : Hid (Below w.heap.size w (w.alloc (.cells #[.int .i64 (i : Int), .int .i64 (n : Int)] 141))) := (Below.refl _ _).alloc (Nat.le_refl _) _
  gi_wp2_with fail
  refine (callsIn_wide.2 (KT.out _)).mono ?_
  rintro e w1 ⟨rfl, hb1⟩
  have R1 := R0.below hb1 R0.lt
  have R2 := R1.alloc (.cells #[.int .i64 0] 3)
  have c0 := R2.cell 0
  have c1 := R2.cell 1
  simp at c0 c1
  have HN : Hid (Row (w1.alloc (.cells #[.int .i64 0] 3)) w1.heap.size 3 #[.int .i64 ((0 : Nat) : Int)] ∧ Below w.heap.size w (w1.alloc (.cells #[.int .i64 0] 3)) ∧ (w1.alloc (.cells #[.int .i64 0] 3)).heap.size = w1.heap.size + 1 ∧ w.heap.size ≤ w1.heap.size) := by
    have hb := below2 HB0.out hb1
    exact ⟨Row.new _ _ _, hb.alloc hb.size _, by simp, hb.size⟩
  gi_wp2
  clear c0 c1 R2 R1 R0 HB0
  generalize w1.alloc (.cells #[.int .i64 0] 3) = w2 at HN ⊢
  obtain ⟨B, hB⟩ : ∃ B, w1.heap.size = B := ⟨_, rfl⟩
  rw [hB] at HN ⊢
  clear hB
  refine wpIn_rangeM (recv := SpV (i : Int) (n : Int)) (gf := 139) (by rfl) (enters_of Try.func139 (by kernel_rfl) rfl) (joins_iter i n hi.1 hi.2) (fun _ => rfl)
    (fun s W => Below w.heap.size w W ∧ ∃ c : Nat, Row W B 3 #[.int .i64 (c : Int)] ∧ c + pl s.1 s.2 = pl i n) ?abide ?start ?round ?done
  case abide =>
    rintro s A A' j h1 h2 ⟨hb, c, hr, hc⟩ hg
    exact ⟨below_grown hb hg hb.size (by have := HN.out; omega), c, hr.grown hg (by have := HN.out; omega), hc⟩
  case start => exact ⟨HN.out.2.1, 0, HN.out.1, by rw [Gt.pl_nm]; omega⟩
  case round =>
    rintro l s W hok ⟨hb, c, hr, hc⟩ hlt
    have hn6 : c ≤ 64 := by
      have := Gt.pl_le 6 i n (by omega)
      omega
    have hsem := Oper.semAt_some
    gi_wp2
    refine ⟨World.grownBy.refl _ _, ?_⟩
    intro W2 hg2 hs2
    have r2 := hr.grown hg2 (by have := HN.out; omega)
    have hb2 := below_grown hb hg2 hb.size (by have := HN.out; omega)
    have e0 := r2.cell 0
    have f0 := r2.free 0
    simp at e0
    obtain ⟨c1, hc1⟩ : ∃ c1, c + 1 = c1 := ⟨_, rfl⟩
    have hw : IntKind.i64.wrap ((c : Int) + 1) = (c1 : Int) := by rw [IntKind.wrap_i64]; omega
    have HR : Hid (Row (W2.setCell ⟨B, 0, none⟩ (.int .i64 (c1 : Int))) B 3 #[.int .i64 (c1 : Int)]) := r2.set 0 (.int .i64 (c1 : Int))
    have HB : Hid (Below w.heap.size w (W2.setCell ⟨B, 0, none⟩ (.int .i64 (c1 : Int)))) := hb2.setCell (by have := HN.out; simp; omega) _
    have HC : Hid (c1 + pl (jNx s).1 (jNx s).2 = pl i n) := by
      have h1 := hok.1
      rw [Gt.pl_yes s.1 (by omega) hok.2.1] at hc
      show _ = _
      rw [Gt.pl_nm]
      omega
    clear hc1
    gi_wp2
    exact ⟨by simp, fun j h1 h2 => Below.heap_setCell _ _ _ _ (by have := HN.out; simp; omega), HB.out, c1, HR.out, HC.out⟩
  case done =>
    rintro s W hf ⟨hb, c, hr, hc⟩ hK
    have e0 := hr.cell 0
    simp at e0
    have hcc : c = pl i n := by rw [Gt.pl_one _ hf] at hc; omega
    gi_wp2
    refine ⟨by simp, .inl ⟨_, _, rfl, run_takeDeferred hK, ?_⟩⟩
    exact ⟨_, results_tmp rfl _ _ _, by rw [← hcc]; rfl, below_grown hb (grownBy_put _ _ _) hb.size (by have := HN.out; omega)⟩

set_option maxHeartbeats 1000000 in
theorem proofLen_any (i n : Int) (w : World) : Calls Try.prog 138 #[.int .i64 i, .int .i64 n] w fun e w' => e = .returned (.int .i64 (plI i n)) ∧ Below w.heap.size w w' := by
  cases hin : inT i n with
  | true =>
    obtain ⟨i', rfl⟩ : ∃ i' : Nat, i = (i' : Int) := ⟨i.toNat, by simp [inT] at hin; omega⟩
    obtain ⟨n', rfl⟩ : ∃ n' : Nat, n = (n' : Int) := ⟨n.toNat, by simp [inT] at hin; omega⟩
    have e : plI (i' : Int) (n' : Int) = ((pl i' n' : Nat) : Int) := by unfold plI; rw [if_pos hin]; simp
    rw [e]
    exact proofLen_in i' n' w hin
  | false =>
    have e : plI i n = -1 := by unfold plI; rw [hin]; rfl
    rw [e]
    have KT : Hid (∀ w0, Calls Try.prog 120 #[SpV i n] w0 fun e w' => e = .returned (.bool false) ∧ Below w0.heap.size w0 w') := by
      have := fun w0 => isInTree_any i n w0
      rw [hin] at this
      exact this
    go_enter Try.func138, Try.ntmps138
    go_wp2_with fail
    refine (KT.out _).mono ?_
    rintro e w1 ⟨rfl, hb1⟩
    have hb := below2 ((Below.refl _ w).alloc (Nat.le_refl _) (.cells #[.int .i64 i, .int .i64 n] 141)) hb1
    go_wp2
    go_ret
    exact ⟨rfl, hb⟩
end Go.Proofs.Ytcnigfejpfcfaaa

/- How many texts a proof has, in the model: at every two numbers. No condition. -/
namespace Go.Proofs.Ytcnigfejpfcfaaa
set_option maxRecDepth 2000
open Go.ChangeShapes Go.WideShapes Go.ChangeAt Go.RowKit
open Gt (nb hf pl)

/-- What the walk reckons of a place and a number. -/
theorem up_nums (p s : Nat) (hp : p < s) (hs : s ≤ 64) : IntKind.i64.wrap ((p : Int) + 1) = (p : Int) + 1 ∧ (p : Int).tmod 2 = (p : Int) % 2 ∧ IntKind.i64.wrap (2 * ((p : Int) % 2)) = 2 * ((p : Int) % 2) ∧ IntKind.i64.wrap ((p : Int) + 1 - 2 * ((p : Int) % 2)) = ((nb p : Nat) : Int) ∧
    (p : Int).tdiv 2 = ((p / 2 : Nat) : Int) ∧ IntKind.i64.wrap ((p / 2 : Nat) : Int) = ((p / 2 : Nat) : Int) ∧ IntKind.i64.wrap ((s : Int) + 1) = (s : Int) + 1 ∧ ((s : Int) + 1).tdiv 2 = ((hf s : Nat) : Int) ∧ IntKind.i64.wrap ((hf s : Nat) : Int) = ((hf s : Nat) : Int) := by
  refine ⟨by rw [IntKind.wrap_i64]; omega, by rw [Int.tmod_eq_emod_of_nonneg (by omega)], by rw [IntKind.wrap_i64]; omega, ?_, by rw [Int.tdiv_eq_ediv_of_nonneg (by omega)]; omega, by rw [IntKind.wrap_i64]; omega, by rw [IntKind.wrap_i64]; omega, by rw [Int.tdiv_eq_ediv_of_nonneg (by omega)]; unfold hf; omega, by unfold hf; rw [IntKind.wrap_i64]; omega⟩
  rw [Gt.nb_model, IntKind.wrap_i64]
  have : nb p ≤ p + 1 := by unfold nb; split <;> omega
  omega
theorem inB_false {x a b : Int} (h : ¬ (a ≤ x ∧ x ≤ b)) : inB x a b = false := by unfold inB; simpa using h
theorem inB_true {x a b : Int} (h : a ≤ x ∧ x ≤ b) : inB x a b = true := by unfold inB; simpa using h

set_option maxHeartbeats 1000000 in
theorem sProofLen_any (i n : Int) (w : World) : Calls Try.prog 123 #[.int .i64 i, .int .i64 n] w fun e w' => e = .returned (.int .i64 (plI i n)) ∧ w' = w := by
  by_cases hn : 1 ≤ n ∧ n ≤ 64
  · have KN : inB n 1 64 = true := inB_true hn
    have hw1 : IntKind.i64.wrap (n - 1) = n - 1 := by rw [IntKind.wrap_i64]; omega
    by_cases hi : 0 ≤ i ∧ i ≤ n - 1
    · have KI : inB i 0 (n - 1) = true := inB_true hi
      obtain ⟨i', rfl⟩ : ∃ i' : Nat, i = (i' : Int) := ⟨i.toNat, by omega⟩
      obtain ⟨n', rfl⟩ : ∃ n' : Nat, n = (n' : Int) := ⟨n.toNat, by omega⟩
      have hin : inT (i' : Int) (n' : Int) = true := by simp [inT]; omega
      have e : plI (i' : Int) (n' : Int) = ((pl i' n' : Nat) : Int) := by unfold plI; rw [if_pos hin]; simp
      rw [e]
      obtain ⟨N, hN⟩ : ∃ N, pl i' n' = N := ⟨_, rfl⟩
      have hN6 : N ≤ 6 := by rw [← hN]; exact Gt.pl_le 6 _ _ (by omega)
      have HN : Hid (pl i' n' = N) := hN
      rw [hN]
      clear hin e hN
      go_enter Try.func123, Try.ntmps123
      go_wp2_with (go_at_call 26; refine (sIn_any _ _ _ _).mono ?_; rintro e w' ⟨rfl, hw⟩; obtain rfl := hw.symm)
      go_loop [0, 1, 5] (fun vi vn vc => ∃ p s c : Nat, p < s ∧ s ≤ 64 ∧ c ≤ 6 ∧ Hid (c + pl p s = N) ∧ vi = .int .i64 (p : Int) ∧ vn = .int .i64 (s : Int) ∧ vc = .int .i64 (c : Int)) (fun _ vn _ => (intOf vn).toNat)
      case atStart => exact ⟨i', n', 0, by omega, by omega, by omega, by show 0 + _ = _; rw [HN.out]; omega, rfl, rfl, rfl⟩
      case round =>
        obtain ⟨p, s, c, hp, hs, hc, HC, rfl, rfl, rfl⟩ := hrel
        clear hw1 hi hn
        by_cases h1 : s ≤ 1
        · have h1' : ¬ (1 : Int) < (s : Int) := by omega
          have HE : Hid (c = N) := by have := HC.out; rw [Gt.pl_one p h1] at this; show _ = _; omega
          go_wp2
          go_ret
          exact ⟨by rw [← HE.out]; rfl, rfl⟩
        · have h1' : (1 : Int) < (s : Int) := by omega
          obtain ⟨u1, u2, u3, u4, u5, u6, u7, u8, u9⟩ := up_nums p s hp hs
          have hlt : p / 2 < hf s ∧ hf s < s := by unfold hf; omega
          by_cases hb : nb p < s
          · have HC2 : Hid (c + 1 + pl (p / 2) (hf s) = N) := by have := HC.out; rw [Gt.pl_yes p h1 hb] at this; show _ = _; omega
            have hb' : ((nb p : Nat) : Int) < (s : Int) := by omega
            have hc2 : c + 1 ≤ 6 := by have := HC2.out; omega
            generalize nb p = q at u4 hb'
            generalize p / 2 = p' at u5 u6 hlt HC2
            generalize hf s = s' at u8 u9 hlt HC2
            go_wp2
            go_round
            case rel => exact ⟨p', s', c + 1, by omega, by omega, hc2, HC2, rfl, rfl, by go_num⟩
            case measure => simp [intOf]; omega
          · have HC2 : Hid (c + pl (p / 2) (hf s) = N) := by have := HC.out; rw [Gt.pl_no p h1 hb] at this; exact this
            have hb' : ¬ ((nb p : Nat) : Int) < (s : Int) := by omega
            generalize nb p = q at u4 hb'
            generalize p / 2 = p' at u5 u6 hlt HC2
            generalize hf s = s' at u8 u9 hlt HC2
            go_wp2
            go_round
            case rel => exact ⟨p', s', c, by omega, by omega, hc, HC2, rfl, rfl, rfl⟩
            case measure => simp [intOf]; omega
    · have KI : inB i 0 (n - 1) = false := inB_false hi
      have e : plI i n = -1 := by unfold plI; rw [show inT i n = false by simp [inT]; omega]; rfl
      rw [e]
      clear e
      go_enter Try.func123, Try.ntmps123
      go_wp2_with (go_at_call 26; refine (sIn_any _ _ _ _).mono ?_; rintro e w' ⟨rfl, hw⟩; obtain rfl := hw.symm)
      go_ret
      exact ⟨rfl, rfl⟩
  · have KN : inB n 1 64 = false := inB_false hn
    have e : plI i n = -1 := by unfold plI; rw [show inT i n = false by simp [inT]; omega]; rfl
    rw [e]
    clear e
    go_enter Try.func123, Try.ntmps123
    go_wp2_with (go_at_call 26; refine (sIn_any _ _ _ _).mono ?_; rintro e w' ⟨rfl, hw⟩; obtain rfl := hw.symm)
    go_ret
    exact ⟨rfl, rfl⟩
end Go.Proofs.Ytcnigfejpfcfaaa

/- Whether texts are sums, in the program and in its model; a text cloned. Conditions: at most 2^20 texts; a text of at most 2^20 bytes. -/
namespace Go.Proofs.Ytcnigfejpfcfaaa
set_option maxRecDepth 2000
open Go.ChangeShapes Go.WideShapes Go.ChangeAt Go.RowKit

/-- All have sixteen bytes. -/
def aS (n : Nat) (S : Nat → ByteArray) : Bool := decide (∀ i, i < n → (S i).size = 16)
theorem aS_yes {n : Nat} {S : Nat → ByteArray} (h : ∀ i, i < n → (S i).size = 16) : aS n S = true := by unfold aS; simpa using h
theorem aS_no {n k : Nat} {S : Nat → ByteArray} (hk : k < n) (h : (S k).size ≠ 16) : aS n S = false := by unfold aS; simp; exact ⟨k, hk, h⟩
theorem aS_iff {n : Nat} {S : Nat → ByteArray} : aS n S = true ↔ ∀ i, i < n → (S i).size = 16 := by unfold aS; simp

set_option maxHeartbeats 1000000 in
theorem areSums_any (a : Option Addr) (n cap : Nat) (S : Nat → ByteArray) (w : World) (h : TxtAt w a n S) (hn : n ≤ 1048576) (hL : ∀ i, i < n → (S i).size ≤ maxLen) :
    Calls Try.prog 133 #[.slice a n cap] w fun e w' => e = .returned (.bool (aS n S)) ∧ w' = w := by
  unfold maxLen at hL
  have KH : Hid (TxtAt w a n S) := h
  have KL : Hid (∀ i, i < n → (S i).size ≤ 9223372036854775807) := hL
  clear h hL
  go_enter Try.func133, Try.ntmps133
  go_wp2
  go_loop [7] (fun i => ∃ k : Nat, k ≤ n ∧ i = .int .i64 k ∧ Hid (∀ i, i < k → (S i).size = 16)) (fun i => n - (intOf i).toNat)
  case atStart => exact ⟨0, Nat.zero_le _, rfl, fun i hi => by omega⟩
  case round =>
    obtain ⟨k, hk, rfl, HS⟩ := hrel
    by_cases hlt : k < n
    · obtain ⟨b, off, rfl, hc⟩ := KH.out k hlt
      have hlti : (k : Int) < (n : Int) := by omega
      have hl := KL.out k hlt
      obtain ⟨s, hs⟩ : ∃ s, S k = s := ⟨_, rfl⟩
      rw [hs] at hc hl
      by_cases h16 : s.size = 16
      · have h16' : (s.size : Int) = 16 := by omega
        have HS2 : Hid (∀ i, i < k + 1 → (S i).size = 16) := fun i hi => by
          by_cases e : i = k
          · subst e; rw [hs]; exact h16
          · exact HS.out i (by omega)
        clear h16 hs
        go_wp2
        go_round
        case rel => exact ⟨k + 1, by omega, by go_num, HS2⟩
        case measure => simp [intOf]; omega
      · have h16' : ((s.size : Int) != 16) = true := by simp; omega
        have HE : Hid (aS n S = false) := aS_no hlt (by rw [hs]; exact h16)
        clear h16 hs
        go_wp2
        go_ret
        exact ⟨by rw [HE.out]; rfl, rfl⟩
    · obtain rfl : k = n := by omega
      have HE : Hid (aS k S = true) := aS_yes HS.out
      go_wp2
      go_ret
      exact ⟨by rw [HE.out]; rfl, rfl⟩

/-- One to 64 texts of sixteen bytes. -/
def lvB (n : Nat) (S : Nat → ByteArray) : Bool := aS n S && inB (n : Int) 1 64
set_option maxHeartbeats 1000000 in
theorem sLeaves_any (a : Option Addr) (n cap : Nat) (S : Nat → ByteArray) (w : World) (h : TxtAt w a n S) (hn : n ≤ 1048576) (hL : ∀ i, i < n → (S i).size ≤ maxLen) :
    Calls Try.prog 107 #[.slice a n cap] w fun e w' => e = .returned (.bool (lvB n S)) ∧ w' = w := by
  unfold maxLen at hL
  have KH : Hid (TxtAt w a n S) := h
  have KL : Hid (∀ i, i < n → (S i).size ≤ 9223372036854775807) := hL
  clear h hL
  go_enter Try.func107, Try.ntmps107
  go_wp2
  go_loop [3] (fun i => ∃ k : Nat, k ≤ n ∧ i = .int .i64 k ∧ Hid (∀ i, i < k → (S i).size = 16)) (fun i => n - (intOf i).toNat)
  case atStart => exact ⟨0, Nat.zero_le _, rfl, fun i hi => by omega⟩
  case round =>
    obtain ⟨k, hk, rfl, HS⟩ := hrel
    by_cases hlt : k < n
    · obtain ⟨b, off, rfl, hc⟩ := KH.out k hlt
      have hlti : (k : Int) < (n : Int) := by omega
      have hl := KL.out k hlt
      obtain ⟨s, hs⟩ : ∃ s, S k = s := ⟨_, rfl⟩
      rw [hs] at hc hl
      by_cases h16 : s.size = 16
      · have h16' : (s.size : Int) = 16 := by omega
        have HS2 : Hid (∀ i, i < k + 1 → (S i).size = 16) := fun i hi => by
          by_cases e : i = k
          · subst e; rw [hs]; exact h16
          · exact HS.out i (by omega)
        clear h16 hs
        go_wp2
        go_round
        case rel => exact ⟨k + 1, by omega, by go_num, HS2⟩
        case measure => simp [intOf]; omega
      · have h16' : ((s.size : Int) != 16) = true := by simp; omega
        have HE : Hid (lvB n S = false) := by show _ = _; unfold lvB; rw [aS_no hlt (by rw [hs]; exact h16)]; rfl
        clear h16 hs
        go_wp2
        go_ret
        exact ⟨by rw [HE.out]; rfl, rfl⟩
    · obtain rfl : k = n := by omega
      have HE : Hid (lvB k S = inB (k : Int) 1 64) := by show _ = _; unfold lvB; rw [aS_yes HS.out]; rfl
      go_wp2_with (go_at_call 26; refine (sIn_any _ _ _ _).mono ?_; rintro e w' ⟨rfl, hw⟩; obtain rfl := hw.symm)
      go_ret
      exact ⟨by rw [HE.out]; rfl, rfl⟩

set_option maxHeartbeats 4000000 in
set_option maxRecDepth 100000 in
theorem cloneLite_any (s : ByteArray) (w : World) (hlim : s.size ≤ 1048576) :
    Calls Try.prog 75 #[.string s] w fun e w' => e = .returned (.string s) ∧ Below w.heap.size w w' := by
  by_cases h0 : s.size = 0
  · have hs : s = ⟨#[]⟩ := by
      apply ByteArray.ext
      exact Array.eq_empty_of_size_eq_zero h0
    subst hs
    go_enter Try.func75, Try.ntmps75
    go_wp2
    go_ret
    exact ⟨rfl, Below.refl _ _⟩
  · obtain ⟨i0, hi, hz0, hz1, hz2⟩ := info_parts Try.infoByte
    have hinfo : (Try.prog.info? 5).map (·.size) = some 1 := by rw [hi]; simp [hz1]
    have hco : Try.prog.cellsOf 5 = 1 := by simp [Program.cellsOf, hi, hz1]
    obtain ⟨M, hM⟩ : ∃ M, M = madeCells (Value.int .u8 0).cells (((s.size : Nat) : Int).toNat * i0.size) := ⟨_, rfl⟩
    have hMs : M.size = s.size := by rw [hM, size_madeCells, hz1]; simp
    have hmk : ∀ W : World, (Instr.makeSlice 103 (.int .i64 (s.size : Int)) (.int .i64 (s.size : Int))).run Try.prog W = .ok (.slice (some ⟨W.heap.size, 0, none⟩) s.size s.size) (W.alloc (.cells M 5)) := fun W => by
      have h := run_make (P := Try.prog) W 103 5 i0 (.int .u8 0) Try.underlying103 hi hz0 .i64 .i64 (s.size : Int) (s.size : Int) (by omega) (by omega) (by rw [hz2]; omega) (by omega)
      rw [← hM] at h
      simpa using h
    clear hM
    have hcp := Lib.run_copy_row_string (P := Try.prog) (w.alloc (.cells M 5)) 103 9 3 5 w.heap.size 0 s.size s.size s M 5 Try.underlying103 hinfo (heap_alloc_new w _) (Nat.le_refl _) (by omega)
    obtain ⟨Y, hY⟩ : ∃ Y, Y = (M.toList.take 0 ++ Lib.byteCells s.data.toList ++ M.toList.drop (0 + s.size)).toArray := ⟨_, rfl⟩
    rw [← hY] at hcp
    have hYl : Y.toList = Lib.byteCells s.data.toList := by
      rw [hY, List.toList_toArray, List.take_zero, List.nil_append, List.drop_of_length_le (by rw [Array.length_toList]; omega), List.append_nil]
    have hYs : Y.size = s.size := by rw [← Array.length_toList, hYl, Lib.byteCells_length, ← Lib.size_eq]
    have hgY : ((w.alloc (.cells M 5)).setRow w.heap.size Y).heap[w.heap.size]? = some (.cells Y 5 (0, 0)) := setRow_heap _ _ M _ 5 (0, 0) (heap_alloc_new w _)
    have hne : s.data.toList ≠ [] := fun e => h0 (by rw [Lib.size_eq, e]; rfl)
    have hUS := Lib.run_unsafeString_row (P := Try.prog) ((w.alloc (.cells M 5)).setRow w.heap.size Y) 120 3 9 5 Try.underlying120 hco w.heap.size Y.size (by unfold World.shape?; rw [hgY]) s.data.toList hne (by rw [← Lib.size_eq]; omega) (by rw [← Lib.size_eq]; omega)
      (fun j x hx => Lib.cells_of_row hgY Y.size j _ (by rw [List.take_of_length_le (by rw [Array.length_toList]; exact Nat.le_refl _), hYl]; simp [Lib.byteCells, hx]))
    rw [← Lib.size_eq] at hUS
    clear hY
    go_enter Try.func75, Try.ntmps75
    go_wp2
    go_ret
    have hb1 : Below w.heap.size w (w.alloc (.cells M 5)) := (Below.refl _ w).alloc (Nat.le_refl _) _
    have hb2 : Below w.heap.size (w.alloc (.cells M 5)) ((w.alloc (.cells M 5)).setRow w.heap.size Y) := ⟨rfl, rfl, rfl, by simp, fun k hk => setRow_other _ _ _ _ (by omega)⟩
    exact ⟨rfl, Lib.below_freeze (hb1.trans hb2) (p := ⟨w.heap.size, 0, none⟩) (Nat.le_refl _) _⟩
set_option maxHeartbeats 1000000 in
theorem clone_any (s : ByteArray) (w : World) (hlim : s.size ≤ 1048576) :
    Calls Try.prog 52 #[.string s] w fun e w' => e = .returned (.string s) ∧ Below w.heap.size w w' := by
  go_enter Try.func52, Try.ntmps52
  go_wp2_with fail
  refine (cloneLite_any s _ hlim).mono ?_
  rintro e w1 ⟨rfl, b1⟩
  go_wp2
  go_ret
  exact ⟨rfl, b1⟩
end Go.Proofs.Ytcnigfejpfcfaaa
