/- Sayings and lists of them, compared by the exact laws: equal ones. Conditions: no list is longer than 2^20. Written by mknsay.py. -/
import Derived.Test.YtkcnpkkihbpnmaaDoorD18
import Derived.Test.YtkcnpkkihbpnmaaDoorD17
namespace Go.Proofs.YtkcnpkkihbpnmaaDoor
set_option maxRecDepth 2000
open Go.ChangeShapes Go.WideShapes Go.ChangeAt Go.RowKit

set_option maxHeartbeats 4000000 in
theorem eqSy_same (s : Sy) (a9 b9 : Option Addr) (c9 d9 : Nat) (w : World) (h9 : TxtAt w a9 s.p.m s.p.S) (k9 : TxtAt w b9 s.p.m s.p.S) (hs : s.p.m ≤ 1048576) :
    Calls Tryd.prog 47 #[syV s (.slice a9 s.p.m c9), syV s (.slice b9 s.p.m d9)] w fun e w' => e = .returned (.bool true) ∧ Below w.heap.size w w' := by
  obtain ⟨sk, sf, st, sr, p⟩ := s
  obtain ⟨rr, kk, nn, ii, bb, m, S⟩ := p
  simp only at h9 k9 hs
  obtain ⟨w0, HW0⟩ : ∃ x, Hid (x = (w.alloc (.cells (syC ⟨sk, sf, st, sr, ⟨rr, kk, nn, ii, bb, m, S⟩⟩ (.slice a9 m c9)) 102)).alloc (.cells (syC ⟨sk, sf, st, sr, ⟨rr, kk, nn, ii, bb, m, S⟩⟩ (.slice b9 m d9)) 102)) := ⟨_, rfl⟩
  have hb0 : Below w.heap.size w w0 := by rw [HW0.out]; exact ((Below.refl _ _).alloc (Nat.le_refl _) _).alloc (by simp) _
  have KB0 : Hid (Below w.heap.size w w0) := hb0
  have KP : Hid _ := eqPc_same rr kk nn ii bb a9 b9 m c9 d9 S w0 (h9.below hb0) (k9.below hb0) hs
  have f0 : (sr.toList != sr.toList) = false := by simp
  have f0' := ba_beq sr
  have f1 : (sk != sk) = false := by simp
  have f2 : (sf != sf) = false := by simp
  have f3 : (st != st) = false := by simp
  clear h9 k9 hs hb0
  go_enter Tryd.func47, Tryd.ntmps47
  go_wp2_with fail
  rw [← HW0.out]
  refine Calls.mono KP.out ?_
  rintro e w1 ⟨rfl, b1⟩
  go_wp2
  go_ret
  exact ⟨rfl, below2 KB0.out b1⟩
set_option maxHeartbeats 4000000 in
theorem eqSys_same (a b : Option Addr) (n ca cb : Nat) (S : Nat → Sy) (w : World) (ha : Rd w (sysD n S) (.slice a n ca)) (hb : Rd w (sysD n S) (.slice b n cb)) (hn : n ≤ 1048576) (hs : ∀ i, i < n → (S i).p.m ≤ 1048576) :
    Calls Tryd.prog 37 #[.slice a n ca, .slice b n cb] w fun e w' => e = .returned (.bool true) ∧ Below w.heap.size w w' := by
  have KH : Hid (Rd w (sysD n S) (.slice a n ca) ∧ Rd w (sysD n S) (.slice b n cb)) := ⟨ha, hb⟩
  have HS : Hid (∀ i, i < n → (S i).p.m ≤ 1048576) := hs
  have hnn : ((n : Int) != (n : Int)) = false := by simp
  clear ha hb hs
  go_enter Tryd.func37, Tryd.ntmps37
  go_wp2
  go_loopw [5] (fun vi wr => ∃ c : Nat, c ≤ n ∧ vi = .int .i64 (c : Int) ∧ Below w.heap.size w wr) (fun vi _ => n - (intOf vi).toNat)
  case atStart => exact ⟨0, Nat.zero_le _, rfl, Below.refl _ _⟩
  case round =>
    obtain ⟨c, hcn, rfl, hbel⟩ := hrel
    by_cases hlt : c < n
    · have hki : (c : Int) < (n : Int) := by omega
      obtain ⟨b1, f1, y1, p9, q9, rfl, hc1, e1, ht1⟩ := say_row (KH.out.1.below hbel) hlt
      obtain ⟨b2, f2, y2, s9, t9, rfl, hc2, e2, ht2⟩ := say_row (KH.out.2.below hbel) hlt
      have hsc := HS.out c hlt
      have KT : Hid (∀ W, Below wr.heap.size wr W → Calls Tryd.prog 47 #[ag10 y1, ag10 y2] W fun e w' => e = .returned (.bool true) ∧ Below W.heap.size W w') := fun W hW => by
        rw [e1, e2]
        exact eqSy_same (S c) p9 s9 q9 t9 W (ht1.below hW) (ht2.below hW) hsc
      have KS : Hid (∀ W, Below wr.heap.size wr W → W.cell? ⟨b1, f1 + c * 10, none⟩ = some (y1 0) ∧ (∀ q, q < 10 → W.cell? ⟨b1, f1 + c * 10 + q, none⟩ = some (y1 q)) ∧ W.cell? ⟨b2, f2 + c * 10, none⟩ = some (y2 0) ∧ (∀ q, q < 10 → W.cell? ⟨b2, f2 + c * 10 + q, none⟩ = some (y2 q))) := fun W hW => two_rows W hW hc1 hc2
      have KB : Hid (Below w.heap.size w wr) := hbel
      have hdr := below_drew wr
      clear hc1 hc2 ht1 ht2 hbel e1 e2 hsc
      go_wp2_with fail
      go_region_held3 (fun w' => w'.cell? ⟨b1, f1 + c * 10, none⟩ = some (y1 0) ∧ (∀ q, q < 10 → w'.cell? ⟨b1, f1 + c * 10 + q, none⟩ = some (y1 q)) ∧ w'.cell? ⟨b2, f2 + c * 10, none⟩ = some (y2 0) ∧ (∀ q, q < 10 → w'.cell? ⟨b2, f2 + c * 10 + q, none⟩ = some (y2 q))) (exact KS.out _ (by assumption)) ((go_at_call 47; refine Calls.mono (KT.out _ hdr) ?_; rintro e w7 ⟨rfl, b7'⟩; have b7 := below_of_drew b7'; clear b7'))
      all_goals
        have HB7 : Hid (Below w.heap.size w w7) := below2 KB.out b7
        clear b7
        go_wp2
        go_roundw
        case rel => exact ⟨c + 1, by omega, by go_num, HB7.out⟩
        case measure => simp [intOf]; omega
    · go_wp2
      go_ret
      exact ⟨rfl, hbel⟩
end Go.Proofs.YtkcnpkkihbpnmaaDoor
/- Marks laid into lists of sayings, and asked for. Conditions: at most 64 sayings, whose proofs have at most 1000 texts. Written by mkmark.py. -/
namespace Go.Proofs.YtkcnpkkihbpnmaaDoor
set_option maxRecDepth 2000
open Go.ChangeShapes Go.WideShapes Go.ChangeAt Go.RowKit

/-- The first mark of saying i. -/
def ofy (k : Nat) (S : Nat → Sy) : Nat → Nat
  | 0 => k
  | i + 1 => ofy k S i + 9 + (S i).p.m
end Go.Proofs.YtkcnpkkihbpnmaaDoor
