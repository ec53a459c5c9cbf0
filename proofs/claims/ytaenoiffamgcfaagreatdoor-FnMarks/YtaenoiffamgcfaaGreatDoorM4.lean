import Derived.WalkKit
import Derived.ProofKit
import Derived.Laws.Tables
import Derived.Laws.Rows
import Derived.Great.BuildSlice
import Derived.Below
import Derived.RangeFuncNested
import Derived.RangeFuncBound
import Derived.RangeFuncCalls
import Derived.RangeFuncLeaves
import Derived.Shelf.Abstract
import Derived.Shelf.RegionOpen
import Derived.OwnWalkIn
import Derived.TacticsInMore
import Derived.LoopNIn
import Derived.LoopIn
set_option maxHeartbeats 8000000
set_option maxRecDepth 2000
open Go.ChangeShapes Go.WideShapes Go.ChangeAt Go.RowKit
namespace Go.Proofs.YtaenoiffamgcfaaGreatDoor
def Row (w : World) (g : Nat) (t : TypeId) (cs : Array Value) : Prop := w.heap[g]? = some (.cells cs t (0, 0))
theorem Row.cell {w : World} {g : Nat} {t : TypeId} {cs : Array Value} (h : Row w g t cs) (i : Nat) : w.cell? ⟨g, i, none⟩ = cs[i]? := by
 unfold Row at h
 simp [World.cell?, h]
theorem Row.free {w : World} {g : Nat} {t : TypeId} {cs : Array Value} (h : Row w g t cs) (i : Nat) : w.frozen? ⟨g, i, none⟩ = false := by
 unfold Row at h
 simp [World.frozen?, h]
theorem Row.lt {w : World} {g : Nat} {t : TypeId} {cs : Array Value} (h : Row w g t cs) : g < w.heap.size := (Array.getElem?_eq_some_iff.1 h).1
theorem Row.new (w : World) (cs : Array Value) (t : TypeId) : Row (w.alloc (.cells cs t)) w.heap.size t cs := heap_alloc_new w _
theorem Row.alloc {w : World} {g : Nat} {t : TypeId} {cs : Array Value} (h : Row w g t cs) (o : Obj) : Row (w.alloc o) g t cs := by
 unfold Row
 rw [Below.heap_alloc _ _ _ h.lt]
 exact h
theorem Row.drew {w : World} {g : Nat} {t : TypeId} {cs : Array Value} (h : Row w g t cs) : Row w.drew g t cs := h
theorem Row.below {w w' : World} {g B : Nat} {t : TypeId} {cs : Array Value} (h : Row w g t cs) (hb : Below B w w') (hg : g < B) : Row w' g t cs := by
 unfold Row
 rw [hb.block g hg]
 exact h
theorem Row.set {w : World} {g : Nat} {t : TypeId} {cs : Array Value} (h : Row w g t cs) (i : Nat) (x : Value) : Row (w.setCell ⟨g, i, none⟩ x) g t (cs.setIfInBounds i x) := by
 unfold Row at *
 simp [World.setCell, Array.getElem?_modify, h]
theorem Row.other {w : World} {g k : Nat} {t : TypeId} {cs : Array Value} (h : Row w g t cs) (i : Nat) (x : Value) (hk : g ≠ k) : Row (w.setCell ⟨k, i, none⟩ x) g t cs := by
 unfold Row
 rw [Below.heap_setCell _ _ _ _ hk]
 exact h
theorem Row.row {w : World} {g : Nat} {t : TypeId} {cs ds : Array Value} (h : Row w g t cs) : Row (w.setRow g ds) g t ds := setRow_heap w g cs ds t (0, 0) h
theorem Row.otherRow {w : World} {g k : Nat} {t : TypeId} {cs ds : Array Value} (h : Row w g t cs) (hk : g ≠ k) : Row (w.setRow k ds) g t cs := by
 unfold Row
 rw [setRow_other _ _ _ _ hk]
 exact h
theorem belowSetRow {B g : Nat} {w0 w : World} (hb : Below B w0 w) (hBg : B ≤ g) (cs : Array Value) : Below B w0 (w.setRow g cs) :=
 hb.trans ⟨rfl, rfl, rfl, by simp, fun k hk => setRow_other _ _ _ _ (by omega)⟩
theorem below_drew (w : World) : Below w.heap.size w w.drew := ⟨rfl, rfl, rfl, Nat.le_refl _, fun _ _ => rfl⟩
theorem fold_drew (w : World) : ({ heap := w.heap, tape := w.tape, drawn := w.drawn + 1, os := w.os, output := w.output } : World) = w.drew := rfl
end Go.Proofs.YtaenoiffamgcfaaGreatDoor
namespace Go.Proofs.YtaenoiffamgcfaaGreatDoor
open Go.RowKit Go.Shelf
def IterM (P : Program) (gf : Nat) (recv : Value) {σ : Type} (encs : σ → Array Value) (ok : σ → Prop) (nx : σ → σ) (fin : σ → Prop) (s0 : σ) : Prop :=
 ∀ (n m l : Nat) (J : σ → World → Prop) (W : World), (∀ s A B, J s A → A.grownBy B (some W.heap.size) → J s B) →
  (∀ s W1, ok s → J s W1 → W.heap.size < W1.heap.size → YieldAt Fence.wide m P l (encs s) W1 fun e W' => e = .returned (.bool true) ∧ J (nx s) W' ∧ W.heap.size < W'.heap.size ∧ W'.heap[W.heap.size]? = W1.heap[W.heap.size]?) →
  m + 1 = n → J s0 W → CallsIn Fence.wide n P gf #[recv, .func (.yield l) #[] #[]] W fun e W' => (∃ v, e = .returned v) ∧ ∃ s, fin s ∧ J s W'
def offEnd (K : World → Prop) : Exit → Act → World → Prop
 | .normal, _, W' => K W'
 | _, _, _ => False
theorem grown_below {w w' : World} (b : Option Nat) (hb : Below w.heap.size w w') : w.grownBy w' b := ⟨hb.os, hb.tape, hb.output, hb.size, fun k hk _ => hb.block k hk⟩
theorem grownBy_put (W : World) (l : Nat) (o : Obj) : W.grownBy (W.putObj l o) (some l) := grownBy_putObj' W l o
theorem wpIn_rangeM {P : Program} {σ : Type} {g : Operand} {ps : Array Tmp} {assign body : Code} {Q : Exit → Act → World → Prop} {a : Act} {w : World}
  {gf : Nat} {recv : Value} (hg : a.eval g = .func (.func gf) #[recv] #[]) (eg : ∀ args w, (callFunc gf args).run P w = .ok (.enter gf args) w)
  {encs : σ → Array Value} {ok : σ → Prop} {nx : σ → σ} {fin : σ → Prop} {s0 : σ} (hseq : IterM P gf recv encs ok nx fin s0) (hps : ∀ s, (encs s).size = ps.size)
  (I : σ → World → Prop) (hI : ∀ s A B j, w.heap.size ≤ j → j < w.heap.size + 3 → I s A → A.grownBy B (some j) → I s B) (h0 : I s0 w)
  (hround : ∀ (l : Nat) (s : σ) (W : World), ok s → I s W → w.heap.size + 2 < W.heap.size →
   assign.wpIn (Fence.wide.inRound l) 0 P (Exit.then (fun a₁ W1 => W.grownBy W1 none ∧ ∀ W2, W1.grownBy W2 (some (w.heap.size + 1)) → W2.heap.size = W1.heap.size → body.wpIn (Fence.wide.inRound l) 0 P (offEnd fun W3 => W2.heap.size ≤ W3.heap.size ∧ (∀ j, w.heap.size ≤ j → j < w.heap.size + 3 → W3.heap[j]? = W2.heap[j]?) ∧ I (nx s) W3) a₁ W2) (fun _ _ _ => False))
    { tmps := (ps.zip (encs s)).foldl (fun t (p, v) => t.setIfInBounds p v) a.tmps, defers := [] } W)
  (hdone : ∀ (s : σ) (W : World), fin s → I s W → W.heap[w.heap.size]? = some (.deferred (some [])) → Q .normal { a with defers := { target := .collected w.heap.size, args := #[] } :: a.defers } W) :
  (Code.rangeFunc g ps assign body).wpIn Fence.wide 2 P Q a w := by
 refine wpIn_rangeFunc ?_
 intro fn hfn
 rw [show Fence.wide.round = none from rfl]
 obtain ⟨rec, hrec⟩ : ∃ rec : LoopState → Option Code → Loop, rec = fun st pe => { state := st, pending := pe, fn, tmps := a.tmps, params := ps, assign, body, defers := w.heap.size } := ⟨_, rfl⟩
 obtain ⟨W1, hW1⟩ : ∃ W1, (w.alloc (.deferred (some []))).alloc (.loop (rec .ready none)) = W1 := ⟨_, rfl⟩
 have hL1 : W1.heap[w.heap.size + 1]? = some (.loop (rec .ready none)) := by
  rw [← hW1]; have := World.alloc_heap_new (w.alloc (.deferred (some []))) (.loop (rec .ready none)); rwa [World.size_alloc] at this
 have hK1 : W1.heap[w.heap.size]? = some (.deferred (some [])) := by
  rw [← hW1]; exact (Below.heap_alloc _ _ _ (by simp)).trans (World.alloc_heap_new w _)
 have hsz : W1.heap.size = w.heap.size + 2 := by rw [← hW1]; simp
 have hI1 : I s0 W1 := by
  rw [← hW1]
  exact hI _ _ _ w.heap.size (Nat.le_refl _) (by omega) (hI _ _ _ w.heap.size (Nat.le_refl _) (by omega) h0 (World.grownBy_alloc _ _ _)) (World.grownBy_alloc _ _ _)
 refine ⟨w.heap.size + 1, [{ target := .collected w.heap.size, args := #[] }], W1, { target := .fn (.func gf) #[], args := #[recv, .func (.yield (w.heap.size + 1)) #[] #[]] }, W1, gf,
  #[recv, .func (.yield (w.heap.size + 1)) #[] #[]], W1, ?_, ?_, fun _ _ => trivial, ?_, fun _ => by omega, ?_⟩
 ·rw [← hW1, hrec]; exact run_enterLoop_outer _ _ _ _ _
 ·simp only [resolve, hg]
  simp [go_sem]
 ·simp [invoke, go_sem, eg]
 ·refine (hseq 1 0 (w.heap.size + 1)
   (fun s W => I s W ∧ W.heap[w.heap.size + 1]? = some (.loop (rec .ready none)) ∧ W.heap[w.heap.size]? = some (.deferred (some []))) W1
   (fun s A B hs hg' => ?_) ?_ rfl ⟨hI1, hL1, hK1⟩).mono ?_
  ·rw [hsz] at hg'
   obtain ⟨h1, h2, h3⟩ := hs
   exact ⟨hI _ _ _ _ (by omega) (by omega) h1 hg', (hg'.block _ (Array.getElem?_eq_some_iff.1 h2).1 (by simp)).trans h2, (hg'.block _ (Array.getElem?_eq_some_iff.1 h3).1 (by simp)).trans h3⟩
  ·rintro s W hok ⟨hi, hl, hk⟩ hlt
   rw [hsz] at hlt ⊢
   have hy := run_yield (P := P) (args := encs s) hl (by rw [hrec]; exact hps s)
   rw [hrec] at hy
   refine ⟨fn, _, assign, body, hy, roundIn_of_wpIn hfn (Code.wpIn_mono ?_ (hround _ s W hok hi hlt))⟩
   intro e a1 Wa hq
   cases e with
   | normal =>
    obtain ⟨hga, hbody⟩ := hq
    have hla : Wa.heap[w.heap.size + 1]? = some (.loop (rec .ready none)) := (hga.block _ (by omega) (by simp)).trans hl
    have hka : Wa.heap[w.heap.size]? = some (.deferred (some [])) := (hga.block _ (by omega) (by simp)).trans hk
    have hla' : w.heap.size + 1 < Wa.heap.size := (Array.getElem?_eq_some_iff.1 hla).1
    refine ⟨_, run_beginRound hla (by rw [hrec]), ?_⟩
    have hl2 : (Wa.putObj (w.heap.size + 1) (.loop { rec .ready none with state := .busy })).heap[w.heap.size + 1]? = some (.loop { rec .ready none with state := .busy }) := World.putObj_heap_same hla'
    refine Code.wpIn_mono ?_ (hbody _ (grownBy_put _ _ _) (by simp))
    intro e a3 W3 hp
    cases e with
    | normal =>
     obtain ⟨hs3, hj3, hi3⟩ := hp
     have hl3 : W3.heap[w.heap.size + 1]? = some (.loop { rec .ready none with state := .busy }) := (hj3 _ (by omega) (by omega)).trans hl2
     have hr := run_endRound (P := P) none hl3
     have hl3' := (Array.getElem?_eq_some_iff.1 hl3).1
     refine ⟨_, _, hr, rfl, ⟨hI _ _ _ _ (by omega) (by omega) hi3 (grownBy_put _ _ _), ?_, ?_⟩, ?_, ?_⟩
     ·rw [World.putObj_heap_same hl3', hrec]; rfl
     ·rw [World.putObj_heap_other (by omega), hj3 _ (by omega) (by omega), World.putObj_heap_other (by omega)]; exact hka
     ·simp at hs3 ⊢
      have := hga.size
      omega
     ·rw [World.putObj_heap_other (by omega), hj3 _ (by omega) (by omega), World.putObj_heap_other (by omega)]
      exact hga.block _ hlt (by simp)
    | ret => exact hp.elim
    | exit id => exact hp.elim
    | goto t => exact hp.elim
    | panic ch => exact hp.elim
    | outgrown => exact hp.elim
   | ret => exact hq.elim
   | exit id => exact hq.elim
   | goto t => exact hq.elim
   | panic ch => exact hq.elim
   | outgrown => exact hq.elim
  ·rintro e W2 ⟨⟨v, rfl⟩, s, hf, hi, hl, hk⟩
   exact ⟨none, _, by have := run_endLoop (P := P) hl (by rw [hrec]; simp); rw [hrec] at this; exact this, hdone s _ hf (hI _ _ _ _ (by omega) (by omega) hi (grownBy_put _ _ _)) ((World.putObj_heap_other (by omega)).trans hk)⟩
end Go.Proofs.YtaenoiffamgcfaaGreatDoor
