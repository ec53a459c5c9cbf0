/- Entries of an archive: by plain values, read, counted, copied and compared; lists of them that are handed in. Conditions: lists of at most 2^20. -/
import Derived.Test.YtpomffkpjldloaaH31
import Derived.Test.YtpomffkpjldloaaH32
namespace Go.Proofs.Ytpomffkpjldloaa
set_option maxRecDepth 2000
open Go.ChangeShapes Go.WideShapes Go.ChangeAt Go.RowKit

/-- An entry by plain values. -/
structure En where
  nm : ByteArray
  rt : ByteArray
  sz : Int
def enD (d : En) : Nat → Dt
  | 0 => .val (.string d.nm)
  | 1 => .val (.string d.rt)
  | _ => .val (.int .i64 d.sz)
def ensD (n : Nat) (E : Nat → En) : Dt := .lst 60 3 n fun i => enD (E i)
def enZ : En := ⟨ByteArray.empty, ByteArray.empty, 0⟩
theorem entry_at {w : World} {m : Nat} {E : Nat → En} {a : Option Addr} {cap : Nat} (h : Rd w (ensD m E) (.slice a m cap)) {c : Nat} (hc : c < m) :
    ∃ (b off : Nat), a = some ⟨b, off, none⟩ ∧ (w.cell? ⟨b, off + c * 3, none⟩ = some (.string (E c).nm) ∧ w.cell? ⟨b, off + c * 3 + 1, none⟩ = some (.string (E c).rt) ∧ w.cell? ⟨b, off + c * 3 + 2, none⟩ = some (.int .i64 (E c).sz)) ∧ w.rangeAt b (off + c * 3) [.string (E c).nm, .string (E c).rt, .int .i64 (E c).sz] := by
  obtain ⟨b, off, y, ea, hy, hr⟩ := h.row hc
  have g0 := hr 0 (by omega)
  have g1 := hr 1 (by omega)
  have g2 := hr 2 (by omega)
  simp only [Rd, enD] at g0 g1 g2
  have c0 := hy 0 (by omega)
  have c1 := hy 1 (by omega)
  have c2 := hy 2 (by omega)
  rw [g0, ← Nat.add_assoc] at c0
  rw [g1, ← Nat.add_assoc] at c1
  rw [g2, ← Nat.add_assoc] at c2
  refine ⟨b, off, ea, ⟨c0, c1, c2⟩, fun j v hv => ?_⟩
  have hj : j < 3 := (List.getElem?_eq_some_iff.1 hv).1
  match j, hj with
  | 0, _ => rw [← hv]; exact c0
  | 1, _ => rw [← hv]; exact c1
  | 2, _ => rw [← hv]; exact c2
set_option maxHeartbeats 1000000 in
theorem eqEn_same (x0 x1 : ByteArray) (x2 : Int) (w : World) :
    Calls Try.prog 33 #[.agg #[.string x0, .string x1, .int .i64 x2], .agg #[.string x0, .string x1, .int .i64 x2]] w fun e w' => e = .returned (.bool true) ∧ Below w.heap.size w w' := by
  have k0 : (x0.toList != x0.toList) = false := by simp
  have k1 : (x1.toList != x1.toList) = false := by simp
  have k2 : (x2 != x2) = false := by simp
  go_enter Try.func33, Try.ntmps33
  go_wp2
  go_ret
  exact ⟨rfl, by repeat (first | exact Below.refl _ _ | refine Below.alloc ?_ (by simp <;> omega) _ | refine Below.setCell ?_ (by simp <;> omega) _)⟩
set_option maxHeartbeats 4000000 in
theorem eqEns_same (a b : Option Addr) (n ca cb : Nat) (M : Nat → En) (w : World) (ha : Rd w (ensD n M) (.slice a n ca)) (hb : Rd w (ensD n M) (.slice b n cb)) (hn : n ≤ 1048576) :
    Calls Try.prog 15 #[.slice a n ca, .slice b n cb] w fun e w' => e = .returned (.bool true) ∧ Below w.heap.size w w' := by
  have KH : Hid (Rd w (ensD n M) (.slice a n ca) ∧ Rd w (ensD n M) (.slice b n cb)) := ⟨ha, hb⟩
  have hnn : ((n : Int) != (n : Int)) = false := by simp
  clear ha hb
  go_enter Try.func15, Try.ntmps15
  go_wp2
  go_loopw [5] (fun vi wr => ∃ c : Nat, c ≤ n ∧ vi = .int .i64 (c : Int) ∧ Below w.heap.size w wr) (fun vi _ => n - (intOf vi).toNat)
  case atStart => exact ⟨0, Nat.zero_le _, rfl, Below.refl _ _⟩
  case round =>
    obtain ⟨c, hcn, rfl, hbel⟩ := hrel
    by_cases hlt : c < n
    · have hki : (c : Int) < (n : Int) := by omega
      obtain ⟨b1, f1, rfl, ⟨x0, x1, x2⟩, _⟩ := entry_at (KH.out.1.below hbel) hlt
      obtain ⟨b2, f2, rfl, ⟨y0, y1, y2⟩, _⟩ := entry_at (KH.out.2.below hbel) hlt
      obtain ⟨⟨z0, z1, z2⟩, HM⟩ : ∃ z, Hid (M c = z) := ⟨_, rfl⟩
      simp only [HM.out] at x0 x1 x2 y0 y1 y2
      have KT : Hid (∀ W, Calls Try.prog 33 #[.agg #[.string z0, .string z1, .int .i64 z2], .agg #[.string z0, .string z1, .int .i64 z2]] W fun e w' => e = .returned (.bool true) ∧ Below W.heap.size W w') := fun W => eqEn_same z0 z1 z2 W
      have KS : Hid (∀ W, Below wr.heap.size wr W → W.cell? ⟨b1, f1 + c * 3, none⟩ = some (.string z0) ∧ W.cell? ⟨b1, f1 + c * 3 + 1, none⟩ = some (.string z1) ∧ W.cell? ⟨b1, f1 + c * 3 + 2, none⟩ = some (.int .i64 z2) ∧ W.cell? ⟨b2, f2 + c * 3, none⟩ = some (.string z0) ∧ W.cell? ⟨b2, f2 + c * 3 + 1, none⟩ = some (.string z1) ∧ W.cell? ⟨b2, f2 + c * 3 + 2, none⟩ = some (.int .i64 z2)) := fun W hW => ⟨(hW.cell (block_lt_of_cell x0)).trans x0, (hW.cell (block_lt_of_cell x1)).trans x1, (hW.cell (block_lt_of_cell x2)).trans x2, (hW.cell (block_lt_of_cell y0)).trans y0, (hW.cell (block_lt_of_cell y1)).trans y1, (hW.cell (block_lt_of_cell y2)).trans y2⟩
      have KB : Hid (Below w.heap.size w wr) := hbel
      have hdr := below_drew wr
      clear hbel x0 x1 x2 y0 y1 y2
      go_wp2_with fail
      go_region_held3 (fun w' => w'.cell? ⟨b1, f1 + c * 3, none⟩ = some (.string z0) ∧ w'.cell? ⟨b1, f1 + c * 3 + 1, none⟩ = some (.string z1) ∧ w'.cell? ⟨b1, f1 + c * 3 + 2, none⟩ = some (.int .i64 z2) ∧ w'.cell? ⟨b2, f2 + c * 3, none⟩ = some (.string z0) ∧ w'.cell? ⟨b2, f2 + c * 3 + 1, none⟩ = some (.string z1) ∧ w'.cell? ⟨b2, f2 + c * 3 + 2, none⟩ = some (.int .i64 z2)) (exact KS.out _ (by assumption)) ((go_at_call 33; refine Calls.mono (KT.out _) ?_; rintro e w7 ⟨rfl, b7'⟩; have b7 := below_of_drew b7'; clear b7'))
      all_goals
        have HB7 : Hid (Below w.heap.size w w7) := below2 KB.out b7
        clear b7
        go_wp2
        go_roundw
        case rel => exact ⟨c + 1, by omega, by go_num, HB7.out⟩
        case measure => simp [intOf]; omega
    · go_wp2
      go_ret
      exact ⟨rfl, hbel⟩
end Go.Proofs.Ytpomffkpjldloaa
