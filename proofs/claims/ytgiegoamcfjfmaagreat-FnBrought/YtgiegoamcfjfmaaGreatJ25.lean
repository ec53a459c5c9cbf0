/- The rows of a tree from a row up, in the program: the contract of the iterator that tells them. Conditions: one to 64 texts of sixteen bytes. -/
import Derived.Test.YtgiegoamcfjfmaaGreatJ19
import Derived.Test.YtgiegoamcfjfmaaGreatJ16
namespace Go.Proofs.YtgiegoamcfjfmaaGreat
set_option maxRecDepth 2000
open Go.ChangeShapes Go.WideShapes Go.ChangeAt Go.RowKit Go.Shelf
open Gt (hf up)

/-- Whether all was told; how many the row has; its texts. -/
abbrev RSt := Bool × Nat × (Nat → ByteArray)
abbrev rEnc (s : RSt) : Array Value := #[RwV s.2.2 s.2.1]
abbrev rOk (s : RSt) : Prop := s.1 = false ∧ 1 ≤ s.2.1 ∧ s.2.1 ≤ 64 ∧ ∀ i, i < s.2.1 → (s.2.2 i).size = 16
def rNx (s : RSt) : RSt := if s.2.1 ≤ 1 then (true, s.2.1, s.2.2) else (false, hf s.2.1, up s.2.1 s.2.2)
abbrev rFin (s : RSt) : Prop := s.1 = true

set_option maxHeartbeats 1000000 in
theorem rows_iter (T0 : Nat → ByteArray) (n : Nat) (h1n : 1 ≤ n) (hn : n ≤ 64) (hS : ∀ i, i < n → (T0 i).size = 16) : IterM Tryz.prog 213 (RwV T0 n) rEnc rOk rNx rFin (false, n, T0) := by
  intro nn m l J W hJ hY hm h0
  subst hm
  have KY : Hid (∀ s W1, rOk s → J s W1 → W.heap.size < W1.heap.size → YieldAt Fence.wide m Tryz.prog l (rEnc s) W1 fun e W' => e = .returned (.bool true) ∧ J (rNx s) W' ∧ W.heap.size < W'.heap.size ∧ W'.heap[W.heap.size]? = W1.heap[W.heap.size]?) := hY
  clear hY
  have KJ : Hid (∀ s A B, J s A → A.grownBy B (some W.heap.size) → J s B) := hJ
  clear hJ
  have hfn := wideFn
  have hdp := wideDepth
  have KS : Hid (∀ i, i < n → (T0 i).size = 16) := hS
  clear hS
  obtain ⟨b, hb⟩ : ∃ b, W.heap.size = b := ⟨_, rfl⟩
  have KW : Hid (W.heap.size = b) := hb
  refine callsIn_of_wp Tryz.func213 rfl trivial ?_ rfl
  simp only [Tryz.ntmps213, List.size_toArray, List.length_cons, List.length_nil, Nat.reduceAdd, Nat.reduceSub, Array.replicate_succ, Array.replicate_zero, List.push_toArray, List.append_toArray, List.nil_append, List.cons_append]
  gi_wp2_with (refine i_box (by rfl) _ (by rfl) T0 n (by rfl) ?_)
  go_simp
  gi_loopg [] n (fun gk wr => ∃ (k : Nat) (T : Nat → ByteArray), k = gk ∧ 1 ≤ k ∧ k ≤ 64 ∧ Hid (∀ i, i < k → (T i).size = 16) ∧ Row wr b 247 (rowC T k) ∧ Hid (J (false, k, T) wr))
  case atStart =>
    refine ⟨n, T0, rfl, h1n, hn, KS, ?_, KJ.out _ _ _ h0 (World.grownBy_alloc _ _ _)⟩
    rw [← hb]
    exact Row.new W _ _
  case round =>
    obtain ⟨k, T, rfl, hk1, hk64, HS, hr, HJ⟩ := hrel
    clear h0 KS
    have hlb : b < wr.heap.size := hr.lt
    obtain ⟨fn, tmps, assign, body, hy, hR⟩ := KY.out (false, k, T) wr ⟨rfl, hk1, hk64, HS.out⟩ HJ.out (by rw [KW.out]; exact hlb)
    have HR : Hid (RoundIn Fence.wide m Tryz.prog l fn tmps assign body wr fun e W' => e = .returned (.bool true) ∧ J (rNx (false, k, T)) W' ∧ W.heap.size < W'.heap.size ∧ W'.heap[W.heap.size]? = wr.heap[W.heap.size]?) := hR
    clear hR
    simp only [rEnc] at hy
    have hmm : m + 1 - 1 = m := rfl
    by_cases h1 : k ≤ 1
    · have h1' : ¬ (1 : Int) < (k : Int) := by omega
      gi_wp2_with (refine i_load (by rfl) _ (by rfl) b (by rfl) T k hr ?_)
      refine HR.out.mono ?_
      rintro e w2 ⟨rfl, hJ2, hs2, hk2⟩
      have R2 : Row w2 b 247 (rowC T k) := by
        unfold Row
        rw [← KW.out, hk2, KW.out]
        exact hr
      have e64 : w2.cell? ⟨b, 64, none⟩ = some (.int .i64 (k : Int)) := by rw [R2.cell 64, rowC_last]
      have HJ2 : Hid (J (true, k, T) w2) := by unfold rNx at hJ2; rw [if_pos h1] at hJ2; exact hJ2
      clear hJ2 hs2 hk2 hr
      gi_wp2
      go_end0
      first | exact ⟨⟨_, rfl⟩, (true, k, T), rfl, HJ2.out⟩ | exact ⟨⟨_, rfl⟩, true, ⟨k, T, HJ2.out⟩, rfl⟩ | exact ⟨⟨_, rfl⟩, true, k, T, rfl, HJ2.out⟩ | exact ⟨⟨_, rfl⟩, true, rfl, k, T, HJ2.out⟩ | exact ⟨⟨_, rfl⟩, true, ⟨k, T, rfl, HJ2.out⟩⟩
    · have h1' : (1 : Int) < (k : Int) := by omega
      gi_wp2_with (refine i_load (by rfl) _ (by rfl) b (by rfl) T k hr ?_)
      refine HR.out.mono ?_
      rintro e w2 ⟨rfl, hJ2, hs2, hk2⟩
      have R2 : Row w2 b 247 (rowC T k) := by
        unfold Row
        rw [← KW.out, hk2, KW.out]
        exact hr
      have e64 : w2.cell? ⟨b, 64, none⟩ = some (.int .i64 (k : Int)) := by rw [R2.cell 64, rowC_last]
      have HJ2 : Hid (J (false, hf k, up k T) w2) := by unfold rNx at hJ2; rw [if_neg h1] at hJ2; exact hJ2
      have KA : Hid (Calls Tryz.prog 237 #[RwV T k] w2 fun e w' => e = .returned (RwV (up k T) (hf k)) ∧ Below w2.heap.size w2 w') := rowAbove_any T k w2 hk1 hk64 HS.out
      have HU : Hid (∀ i, i < hf k → (up k T i).size = 16) := Gt.up_size HS.out
      have hlt : 1 ≤ hf k ∧ hf k < k := by unfold hf; omega
      clear hJ2 hs2 hk2 hr
      generalize hf k = k' at *
      generalize up k T = T' at *
      gi_wp2_with (refine i_load (by rfl) _ (by rfl) b (by rfl) T k R2 ?_)
      refine (callsIn_wide.2 KA.out).mono ?_
      rintro e w3 ⟨rfl, hb3⟩
      have R3 := R2.below hb3 R2.lt
      have HJ3 : Hid (J (false, k', T') (w3.setRow b (rowC T' k'))) := by
        have hg := grown_below (some b) hb3
        have hg2 : w3.grownBy (w3.setRow b (rowC T' k')) (some b) := ⟨rfl, rfl, rfl, by simp, fun j _ hj => setRow_other _ _ _ _ (fun e => hj (by rw [e]))⟩
        rw [← KW.out] at hg hg2 ⊢
        exact KJ.out _ _ _ (KJ.out _ _ _ HJ2.out hg) hg2
      have R4 := R3.row (ds := rowC T' k')
      gi_wp2_with (refine i_store (by rfl) _ _ (by rfl) b (by rfl) T' k' (by rfl) T k R3 ?_)
      gi_roundg k'
      case measure => exact hlt.2
      case rel => exact ⟨k', T', rfl, hlt.1, by omega, HU, R4, HJ3⟩
end Go.Proofs.YtgiegoamcfjfmaaGreat
