/- Marks of nodes: by plain values, read, counted, copied, compared and marked; lists of them that are handed in. Conditions: lists of at most 2^20. -/
import Derived.Test.YtpomffkpjldloaaH28
import Derived.Test.YtpomffkpjldloaaH25
import Derived.Test.YtpomffkpjldloaaH16
namespace Go.Proofs.Ytpomffkpjldloaa
set_option maxRecDepth 2000
open Go.ChangeShapes Go.WideShapes Go.ChangeAt Go.RowKit

/-- A mark by plain values. -/
structure Ma where
  nd : Int
  gd : Int
  bd : Int
  ro : Int
def maD (d : Ma) : Nat → Dt
  | 0 => .val (.int .i64 d.nd)
  | 1 => .val (.int .i64 d.gd)
  | 2 => .val (.int .i64 d.bd)
  | _ => .val (.int .i64 d.ro)
def masD (n : Nat) (M : Nat → Ma) : Dt := .lst 63 4 n fun i => maD (M i)
def maZ : Ma := ⟨0, 0, 0, 0⟩
theorem mark_at {w : World} {m : Nat} {M : Nat → Ma} {a : Option Addr} {cap : Nat} (h : Rd w (masD m M) (.slice a m cap)) {c : Nat} (hc : c < m) :
    ∃ (b off : Nat), a = some ⟨b, off, none⟩ ∧ (w.cell? ⟨b, off + c * 4, none⟩ = some (.int .i64 (M c).nd) ∧ w.cell? ⟨b, off + c * 4 + 1, none⟩ = some (.int .i64 (M c).gd) ∧ w.cell? ⟨b, off + c * 4 + 2, none⟩ = some (.int .i64 (M c).bd) ∧ w.cell? ⟨b, off + c * 4 + 3, none⟩ = some (.int .i64 (M c).ro)) ∧ w.rangeAt b (off + c * 4) [.int .i64 (M c).nd, .int .i64 (M c).gd, .int .i64 (M c).bd, .int .i64 (M c).ro] := by
  obtain ⟨b, off, y, ea, hy, hr⟩ := h.row hc
  have g0 := hr 0 (by omega)
  have g1 := hr 1 (by omega)
  have g2 := hr 2 (by omega)
  have g3 := hr 3 (by omega)
  simp only [Rd, maD] at g0 g1 g2 g3
  have c0 := hy 0 (by omega)
  have c1 := hy 1 (by omega)
  have c2 := hy 2 (by omega)
  have c3 := hy 3 (by omega)
  rw [g0, ← Nat.add_assoc] at c0
  rw [g1, ← Nat.add_assoc] at c1
  rw [g2, ← Nat.add_assoc] at c2
  rw [g3, ← Nat.add_assoc] at c3
  refine ⟨b, off, ea, ⟨c0, c1, c2, c3⟩, fun j v hv => ?_⟩
  have hj : j < 4 := (List.getElem?_eq_some_iff.1 hv).1
  match j, hj with
  | 0, _ => rw [← hv]; exact c0
  | 1, _ => rw [← hv]; exact c1
  | 2, _ => rw [← hv]; exact c2
  | 3, _ => rw [← hv]; exact c3
set_option maxHeartbeats 1000000 in
theorem eqMa_same (x0 x1 x2 x3 : Int) (w : World) :
    Calls Try.prog 34 #[.agg #[.int .i64 x0, .int .i64 x1, .int .i64 x2, .int .i64 x3], .agg #[.int .i64 x0, .int .i64 x1, .int .i64 x2, .int .i64 x3]] w fun e w' => e = .returned (.bool true) ∧ Below w.heap.size w w' := by
  have k0 : (x0 != x0) = false := by simp
  have k1 : (x1 != x1) = false := by simp
  have k2 : (x2 != x2) = false := by simp
  have k3 : (x3 != x3) = false := by simp
  go_enter Try.func34, Try.ntmps34
  go_wp2
  go_ret
  exact ⟨rfl, by repeat (first | exact Below.refl _ _ | refine Below.alloc ?_ (by simp <;> omega) _ | refine Below.setCell ?_ (by simp <;> omega) _)⟩
end Go.Proofs.Ytpomffkpjldloaa
/- Lists of marks: copied, compared and marked. Conditions: lists of at most 2^20. -/
namespace Go.Proofs.Ytpomffkpjldloaa
set_option maxRecDepth 2000
open Go.ChangeShapes Go.WideShapes Go.ChangeAt Go.RowKit

set_option maxHeartbeats 4000000 in
theorem eqMas_same (a b : Option Addr) (n ca cb : Nat) (M : Nat → Ma) (w : World) (ha : Rd w (masD n M) (.slice a n ca)) (hb : Rd w (masD n M) (.slice b n cb)) (hn : n ≤ 1048576) :
    Calls Try.prog 16 #[.slice a n ca, .slice b n cb] w fun e w' => e = .returned (.bool true) ∧ Below w.heap.size w w' := by
  have KH : Hid (Rd w (masD n M) (.slice a n ca) ∧ Rd w (masD n M) (.slice b n cb)) := ⟨ha, hb⟩
  have hnn : ((n : Int) != (n : Int)) = false := by simp
  clear ha hb
  go_enter Try.func16, Try.ntmps16
  go_wp2
  go_loopw [5] (fun vi wr => ∃ c : Nat, c ≤ n ∧ vi = .int .i64 (c : Int) ∧ Below w.heap.size w wr) (fun vi _ => n - (intOf vi).toNat)
  case atStart => exact ⟨0, Nat.zero_le _, rfl, Below.refl _ _⟩
  case round =>
    obtain ⟨c, hcn, rfl, hbel⟩ := hrel
    by_cases hlt : c < n
    · have hki : (c : Int) < (n : Int) := by omega
      obtain ⟨b1, f1, rfl, ⟨x0, x1, x2, x3⟩, _⟩ := mark_at (KH.out.1.below hbel) hlt
      obtain ⟨b2, f2, rfl, ⟨y0, y1, y2, y3⟩, _⟩ := mark_at (KH.out.2.below hbel) hlt
      obtain ⟨⟨z0, z1, z2, z3⟩, HM⟩ : ∃ z, Hid (M c = z) := ⟨_, rfl⟩
      simp only [HM.out] at x0 x1 x2 x3 y0 y1 y2 y3
      have KT : Hid (∀ W, Calls Try.prog 34 #[.agg #[.int .i64 z0, .int .i64 z1, .int .i64 z2, .int .i64 z3], .agg #[.int .i64 z0, .int .i64 z1, .int .i64 z2, .int .i64 z3]] W fun e w' => e = .returned (.bool true) ∧ Below W.heap.size W w') := fun W => eqMa_same z0 z1 z2 z3 W
      have KS : Hid (∀ W, Below wr.heap.size wr W → W.cell? ⟨b1, f1 + c * 4, none⟩ = some (.int .i64 z0) ∧ W.cell? ⟨b1, f1 + c * 4 + 1, none⟩ = some (.int .i64 z1) ∧ W.cell? ⟨b1, f1 + c * 4 + 2, none⟩ = some (.int .i64 z2) ∧ W.cell? ⟨b1, f1 + c * 4 + 3, none⟩ = some (.int .i64 z3) ∧ W.cell? ⟨b2, f2 + c * 4, none⟩ = some (.int .i64 z0) ∧ W.cell? ⟨b2, f2 + c * 4 + 1, none⟩ = some (.int .i64 z1) ∧ W.cell? ⟨b2, f2 + c * 4 + 2, none⟩ = some (.int .i64 z2) ∧ W.cell? ⟨b2, f2 + c * 4 + 3, none⟩ = some (.int .i64 z3)) := fun W hW => ⟨(hW.cell (block_lt_of_cell x0)).trans x0, (hW.cell (block_lt_of_cell x1)).trans x1, (hW.cell (block_lt_of_cell x2)).trans x2, (hW.cell (block_lt_of_cell x3)).trans x3, (hW.cell (block_lt_of_cell y0)).trans y0, (hW.cell (block_lt_of_cell y1)).trans y1, (hW.cell (block_lt_of_cell y2)).trans y2, (hW.cell (block_lt_of_cell y3)).trans y3⟩
      have KB : Hid (Below w.heap.size w wr) := hbel
      have hdr := below_drew wr
      clear hbel x0 x1 x2 x3 y0 y1 y2 y3
      go_wp2_with fail
      go_region_held3 (fun w' => w'.cell? ⟨b1, f1 + c * 4, none⟩ = some (.int .i64 z0) ∧ w'.cell? ⟨b1, f1 + c * 4 + 1, none⟩ = some (.int .i64 z1) ∧ w'.cell? ⟨b1, f1 + c * 4 + 2, none⟩ = some (.int .i64 z2) ∧ w'.cell? ⟨b1, f1 + c * 4 + 3, none⟩ = some (.int .i64 z3) ∧ w'.cell? ⟨b2, f2 + c * 4, none⟩ = some (.int .i64 z0) ∧ w'.cell? ⟨b2, f2 + c * 4 + 1, none⟩ = some (.int .i64 z1) ∧ w'.cell? ⟨b2, f2 + c * 4 + 2, none⟩ = some (.int .i64 z2) ∧ w'.cell? ⟨b2, f2 + c * 4 + 3, none⟩ = some (.int .i64 z3)) (exact KS.out _ (by assumption)) ((go_at_call 34; refine Calls.mono (KT.out _) ?_; rintro e w7 ⟨rfl, b7'⟩; have b7 := below_of_drew b7'; clear b7'))
      all_goals
        have HB7 : Hid (Below w.heap.size w w7) := below2 KB.out b7
        clear b7
        go_wp2
        go_roundw
        case rel => exact ⟨c + 1, by omega, by go_num, HB7.out⟩
        case measure => simp [intOf]; omega
    · go_wp2
      go_ret
      exact ⟨rfl, hbel⟩
end Go.Proofs.Ytpomffkpjldloaa
