/- Marks of nodes: by plain values, read, counted, copied, compared and marked; lists of them that are handed in. Conditions: lists of at most 2^20. -/
import Derived.Test.YtggmcgcmpgofcaaH32
import Derived.Test.YtggmcgcmpgofcaaH21
namespace Go.Proofs.Ytggmcgcmpgofcaa
set_option maxRecDepth 2000
open Go.ChangeShapes Go.WideShapes Go.ChangeAt Go.RowKit

/-- A mark by plain values. -/
structure Ma where
  nd : Int
  gd : Int
  bd : Int
  ro : Int
def maD (d : Ma) : Nat → Dt
  | 0 => .val (.int .i64 d.nd)
  | 1 => .val (.int .i64 d.gd)
  | 2 => .val (.int .i64 d.bd)
  | _ => .val (.int .i64 d.ro)
def masD (n : Nat) (M : Nat → Ma) : Dt := .lst 56 4 n fun i => maD (M i)
def maZ : Ma := ⟨0, 0, 0, 0⟩
theorem mark_at {w : World} {m : Nat} {M : Nat → Ma} {a : Option Addr} {cap : Nat} (h : Rd w (masD m M) (.slice a m cap)) {c : Nat} (hc : c < m) :
    ∃ (b off : Nat), a = some ⟨b, off, none⟩ ∧ (w.cell? ⟨b, off + c * 4, none⟩ = some (.int .i64 (M c).nd) ∧ w.cell? ⟨b, off + c * 4 + 1, none⟩ = some (.int .i64 (M c).gd) ∧ w.cell? ⟨b, off + c * 4 + 2, none⟩ = some (.int .i64 (M c).bd) ∧ w.cell? ⟨b, off + c * 4 + 3, none⟩ = some (.int .i64 (M c).ro)) ∧ w.rangeAt b (off + c * 4) [.int .i64 (M c).nd, .int .i64 (M c).gd, .int .i64 (M c).bd, .int .i64 (M c).ro] := by
  obtain ⟨b, off, y, ea, hy, hr⟩ := h.row hc
  have g0 := hr 0 (by omega)
  have g1 := hr 1 (by omega)
  have g2 := hr 2 (by omega)
  have g3 := hr 3 (by omega)
  simp only [Rd, maD] at g0 g1 g2 g3
  have c0 := hy 0 (by omega)
  have c1 := hy 1 (by omega)
  have c2 := hy 2 (by omega)
  have c3 := hy 3 (by omega)
  rw [g0, ← Nat.add_assoc] at c0
  rw [g1, ← Nat.add_assoc] at c1
  rw [g2, ← Nat.add_assoc] at c2
  rw [g3, ← Nat.add_assoc] at c3
  refine ⟨b, off, ea, ⟨c0, c1, c2, c3⟩, fun j v hv => ?_⟩
  have hj : j < 4 := (List.getElem?_eq_some_iff.1 hv).1
  match j, hj with
  | 0, _ => rw [← hv]; exact c0
  | 1, _ => rw [← hv]; exact c1
  | 2, _ => rw [← hv]; exact c2
  | 3, _ => rw [← hv]; exact c3
theorem list4' {α : Type} (l : List α) (h : l.length = 4) : ∃ c0 c1 c2 c3, l = [c0, c1, c2, c3] := by
  match l, h with
  | [c0, c1, c2, c3], _ => exact ⟨c0, c1, c2, c3, rfl⟩
theorem open_mark {H : Type} {enc : TypeId × Value → H} {w : World} {base : Nat} {spare : Nat → Bool} {held : Bool} {fuel : Nat} {cs : List Value} {x : DataW H × List MemPlace} (h : DataW.trod enc Try.prog w base spare held fuel 58 cs = some x) :
    ∃ s : Ma, cs.length = 4 ∧ (∀ q, q < 4 → Rd w (maD s q) (cs.getD q undef)) ∧ True := by
  have c4 : Try.prog.cellsOf 58 = 4 := by kernel_rfl
  have ci1 : Try.prog.cellsOf 3 = 1 := by kernel_rfl
  obtain ⟨xs, f, _, _, hl, hlen, hf⟩ := DataW.trod_struct Try.underlying58 h
  rw [c4] at hl
  obtain ⟨c0, c1, c2, c3, rfl⟩ := list4' cs hl
  obtain ⟨y0, y1, y2, y3, rfl⟩ := list4' xs hlen
  have g0 := hf 0 _ rfl
  have g1 := hf 1 _ rfl
  have g2 := hf 2 _ rfl
  have g3 := hf 3 _ rfl
  simp [ci1] at g0 g1 g2 g3
  obtain ⟨x0, e0, _, _⟩ := DataW.trod_int Try.underlying3 g0
  obtain ⟨x1, e1, _, _⟩ := DataW.trod_int Try.underlying3 g1
  obtain ⟨x2, e2, _, _⟩ := DataW.trod_int Try.underlying3 g2
  obtain ⟨x3, e3, _, _⟩ := DataW.trod_int Try.underlying3 g3
  simp at e0 e1 e2 e3
  subst e0 e1 e2 e3
  refine ⟨⟨x0, x1, x2, x3⟩, rfl, fun q hq => ?_, trivial⟩
  match q, hq with
  | 0, _ | 1, _ | 2, _ | 3, _ => rfl
theorem open_marks {H : Type} {enc : TypeId × Value → H} {w : World} {base : Nat} {spare : Nat → Bool} {held : Bool} {fuel : Nat} {a : Option Addr} {n c : Nat} {x : DataW H × List MemPlace} (h : DataW.trod enc Try.prog w base spare held fuel 22 [.slice a n c] = some x) :
    ∃ M : Nat → Ma, Rd w (masD n M) (.slice a n c) ∧ n ≤ maxLen := by
  obtain ⟨M, h1, h2, _⟩ := open_list maZ 56 maD (fun _ => True) Try.underlying22 (by kernel_rfl) (by omega) open_mark h
  exact ⟨M, h1, h2⟩
theorem Try.infoMaL : (Try.prog.info? 58).map (·.size) = some 4 := by kernel_rfl
theorem Try.infoMa : (Try.prog.info? 56).map (·.size) = some 4 := by kernel_rfl
set_option maxHeartbeats 1000000 in
theorem szMas_any (a : Option Addr) (n cap l : Nat) (w : World) (hl : l ≤ 1048576) (hn : n ≤ maxLen) :
    Calls Try.prog 7 #[.slice a n cap, .int .i64 (l : Int)] w fun e w' => e = .returned (.int .i64 (szN l n)) ∧ w' = w := by
  unfold maxLen at hn
  by_cases h1 : n ≤ l
  · obtain ⟨d, hd⟩ : ∃ d, l - n = d := ⟨_, rfl⟩
    have hw : IntKind.i64.wrap ((l : Int) - (n : Int)) = (d : Int) := by rw [IntKind.wrap_i64]; omega
    have h0 : ¬ ((d : Int) < 0) := by omega
    rw [szN_yes h1, hd]
    go_enter Try.func7, Try.ntmps7
    go_wp2
    go_ret
    exact ⟨rfl, rfl⟩
  · have h0 : (l : Int) - (n : Int) < 0 := by omega
    have hw : IntKind.i64.wrap ((l : Int) - (n : Int)) = (l : Int) - (n : Int) := by rw [IntKind.wrap_i64]; omega
    rw [szN_no h1]
    go_enter Try.func7, Try.ntmps7
    go_wp2
    go_ret
    exact ⟨rfl, rfl⟩
set_option maxHeartbeats 1000000 in
theorem toMa_any (x0 x1 x2 x3 : Int) (w : World) :
    Calls Try.prog 31 #[.agg #[.int .i64 x0, .int .i64 x1, .int .i64 x2, .int .i64 x3]] w fun e w' => e = .returned (.agg #[.int .i64 x0, .int .i64 x1, .int .i64 x2, .int .i64 x3]) ∧ Below w.heap.size w w' := by
  go_enter Try.func31, Try.ntmps31
  go_wp2
  refine bodyPost_ret (v := .agg #[.int .i64 x0, .int .i64 x1, .int .i64 x2, .int .i64 x3]) (by simp [results, Try.results31, go_sem]) rfl ?_
  exact ⟨rfl, by repeat (first | exact Below.refl _ _ | refine Below.alloc ?_ (by simp <;> omega) _ | refine Below.setCell ?_ (by simp <;> omega) _)⟩
set_option maxHeartbeats 1000000 in
theorem eqMa_same (x0 x1 x2 x3 : Int) (w : World) :
    Calls Try.prog 32 #[.agg #[.int .i64 x0, .int .i64 x1, .int .i64 x2, .int .i64 x3], .agg #[.int .i64 x0, .int .i64 x1, .int .i64 x2, .int .i64 x3]] w fun e w' => e = .returned (.bool true) ∧ Below w.heap.size w w' := by
  have k0 : (x0 != x0) = false := by simp
  have k1 : (x1 != x1) = false := by simp
  have k2 : (x2 != x2) = false := by simp
  have k3 : (x3 != x3) = false := by simp
  go_enter Try.func32, Try.ntmps32
  go_wp2
  go_ret
  exact ⟨rfl, by repeat (first | exact Below.refl _ _ | refine Below.alloc ?_ (by simp <;> omega) _ | refine Below.setCell ?_ (by simp <;> omega) _)⟩
end Go.Proofs.Ytggmcgcmpgofcaa
