/- The function Suspects, of the program and of the model, at every list of at most 2^20 marks and every number. -/
import Derived.Test.YtggmcgcmpgofcaaH34
import Derived.Test.YtggmcgcmpgofcaaH11
namespace Go.Proofs.Ytggmcgcmpgofcaa
set_option maxRecDepth 2000
open Go.ChangeShapes Go.WideShapes Go.ChangeAt Go.RowKit

def suI (row : Int) (M : Nat → Ma) : Nat → List Int
  | 0 => []
  | c + 1 => if row ≤ (M c).ro then suI row M c ++ [(M c).nd] else suI row M c
theorem suI_len (row : Int) (M : Nat → Ma) (n : Nat) : (suI row M n).length ≤ n := by
  induction n with
  | zero => exact Nat.le_refl _
  | succ n ih =>
    unfold suI
    split
    · simp; exact ih
    · omega
theorem suI_yes {row : Int} {M : Nat → Ma} {c : Nat} {z : Ma} (hz : M c = z) (h : row ≤ z.ro) : suI row M (c + 1) = suI row M c ++ [z.nd] := by
  show (if row ≤ (M c).ro then _ else _) = _
  rw [hz, if_pos h]
theorem suI_no {row : Int} {M : Nat → Ma} {c : Nat} {z : Ma} (hz : M c = z) (h : ¬ row ≤ z.ro) : suI row M (c + 1) = suI row M c := by
  show (if row ≤ (M c).ro then _ else _) = _
  rw [hz, if_neg h]
set_option maxHeartbeats 2000000 in
theorem sSus_any (a : Option Addr) (n cap : Nat) (M : Nat → Ma) (row : Int) (w : World) (h : Rd w (masD n M) (.slice a n cap)) (hn : n ≤ 1048576) :
    Calls Try.prog 8 #[.slice a n cap, .int .i64 row] w fun e w' => ∃ v, e = .returned v ∧ OwnI w' w.heap.size v (suI row M n) ∧ Below w.heap.size w w' := by
  obtain ⟨i0, hi, hz0, hz1, hz2⟩ : ∃ i0, Try.prog.info? 3 = some i0 ∧ i0.zero = some (.int .i64 0) ∧ i0.size = 1 ∧ i0.bytes = 8 := ⟨_, rfl, rfl, rfl, rfl⟩
  have KH : Hid (Rd w (masD n M) (.slice a n cap)) := h
  have HO : Hid ((w.alloc (.cells #[] 3)).ownsRow w.heap.size 3 1 (.slice (some ⟨w.heap.size, 0, none⟩) 0 0) 0 []) := by
    have := World.ownsRow_lit (e := 3) (size := 1) (base := w.heap.size) w #[] 0 (by simp) (by unfold maxLen; omega) (by simp)
    exact this
  have HB0 : Hid (Below w.heap.size w (w.alloc (.cells #[] 3))) := (Below.refl _ _).alloc (Nat.le_refl _) _
  clear h
  go_enter Try.func8, Try.ntmps8
  go_wp2
  go_loopw [5, 6] (fun v i wr => ∃ (c g l cc : Nat) (zs : List Int), c ≤ n ∧ l ≤ c ∧ Hid (zs = suI row M c ∧ zs.length = l) ∧ v = .slice (some ⟨g, 0, none⟩) l cc ∧ i = .int .i64 (c : Int) ∧ Hid (wr.ownsRow w.heap.size 3 1 (.slice (some ⟨g, 0, none⟩) l cc) l (zs.map (Value.int .i64)) ∧ Below w.heap.size w wr)) (fun _ i _ => n - (intOf i).toNat)
  case atStart => exact ⟨0, _, 0, 0, [], Nat.zero_le _, Nat.le_refl _, ⟨rfl, rfl⟩, rfl, rfl, HO.out, HB0.out⟩
  case round =>
    obtain ⟨c, g, l, cc, zs, hc, hl, HZ, rfl, rfl, KO⟩ := hrel
    clear HO HB0
    by_cases hlt : c < n
    · have hlti : (c : Int) < (n : Int) := by omega
      obtain ⟨b1, f1, rfl, ⟨x0, x1, x2, x3⟩, _⟩ := mark_at (KH.out.below KO.out.2) hlt
      obtain ⟨⟨z0, z1, z2, z3⟩, HM⟩ : ∃ z, Hid (M c = z) := ⟨_, rfl⟩
      simp only [HM.out] at x0 x1 x2 x3
      clear x1 x2
      by_cases hr : row ≤ z3
      · have hge : z3 ≥ row := hr
        have HS : Hid (suI row M (c + 1) = suI row M c ++ [z0]) := suI_yes HM.out hr
        have HNE : Hid (∀ j u, ([.int .i64 z0] : List Value)[j]? = some u → (wr.alloc (.cells #[.int .i64 z0] 3)).cell? ((⟨wr.heap.size, 0, none⟩ : Addr).add j) = some u) := World.news_of_block (cs := #[.int .i64 z0]) (t := 3) (fr := (0, 0)) (heap_alloc_new wr _)
        have HOA : Hid ((wr.alloc (.cells #[.int .i64 z0] 3)).ownsRow w.heap.size 3 1 (.slice (some ⟨g, 0, none⟩) l cc) l (zs.map (Value.int .i64))) := World.ownsRow.alloc KO.out.1 _
        have hsz := KO.out.2.size
        have lg := World.ownsRow.lt KO.out.1 g rfl
        have HBA : Hid (Below w.heap.size w (wr.alloc (.cells #[.int .i64 z0] 3))) := KO.out.2.alloc hsz _
        go_wp2_with (at_builtin; refine wpList_append_all _ (by rfl) _ _ 24 (by rfl) w.heap.size 3 i0 (.int .i64 0) 1 8 Try.underlying24 hi hz0 hz1 hz2 rfl (by decide) g l cc (zs.map (Value.int .i64)) (by rfl) ?_ ⟨wr.heap.size, 0, none⟩ 1 1 [.int .i64 z0] (by rfl) (by rfl) ?_ (by simp [Value.oneCell']) (by unfold maxLen; omega) (by omega) (by simp; omega) ?_; exact HOA.out; exact HNE.out; intro g3 cap3 w3 hown3 hgrow3)
        have HB3 : Hid (w3.ownsRow w.heap.size 3 1 (.slice (some ⟨g3, 0, none⟩) (l + 1) cap3) (l + 1) ((zs ++ [z0]).map (Value.int .i64)) ∧ Below w.heap.size w w3) := ⟨by rw [List.map_append]; exact hown3, HBA.out.grown hgrow3 (by simp; omega) (fun x hx => by cases hx; exact lg.1)⟩
        have HZ3 : Hid (zs ++ [z0] = suI row M (c + 1) ∧ (zs ++ [z0]).length = l + 1) := ⟨by rw [HS.out, HZ.out.1], by simp [HZ.out.2]⟩
        clear hown3 hgrow3 HBA HOA HNE x0 x3 KO
        go_wp2
        go_roundw
        case rel => exact ⟨c + 1, g3, l + 1, cap3, zs ++ [z0], by omega, by omega, HZ3, rfl, by go_num, HB3⟩
        case measure => simp [intOf]; omega
      · have hge : ¬ (z3 ≥ row) := hr
        have HS : Hid (zs = suI row M (c + 1) ∧ zs.length = l) := ⟨by rw [suI_no HM.out hr]; exact HZ.out.1, HZ.out.2⟩
        go_wp2
        go_roundw
        case rel => exact ⟨c + 1, g, l, cc, zs, by omega, by omega, HS, rfl, by go_num, KO⟩
        case measure => simp [intOf]; omega
    · obtain rfl : c = n := by omega
      have HF : Hid (OwnI wr w.heap.size (.slice (some ⟨g, 0, none⟩) l cc) (suI row M c)) := by
        show OwnI _ _ _ _
        have := KO.out.1
        unfold OwnI
        rw [← HZ.out.1, HZ.out.2]
        exact this
      have HB : Hid (Below w.heap.size w wr) := KO.out.2
      clear KO
      go_wp2
      go_ret
      exact ⟨_, rfl, HF.out, HB.out⟩
set_option maxHeartbeats 2000000 in
theorem sus_any (a : Option Addr) (n cap : Nat) (M : Nat → Ma) (row : Int) (w : World) (h : Rd w (masD n M) (.slice a n cap)) (hn : n ≤ 1048576) :
    Calls Try.prog 10 #[.slice a n cap, .int .i64 row] w fun e w' => ∃ v, e = .returned v ∧ OwnI w' w.heap.size v (suI row M n) ∧ Below w.heap.size w w' := by
  obtain ⟨i0, hi, hz0, hz1, hz2⟩ : ∃ i0, Try.prog.info? 3 = some i0 ∧ i0.zero = some (.int .i64 0) ∧ i0.size = 1 ∧ i0.bytes = 8 := ⟨_, rfl, rfl, rfl, rfl⟩
  have KH : Hid (Rd w (masD n M) (.slice a n cap)) := h
  have HO : Hid ((w.alloc (.cells #[] 3)).ownsRow w.heap.size 3 1 (.slice (some ⟨w.heap.size, 0, none⟩) 0 0) 0 []) := by
    have := World.ownsRow_lit (e := 3) (size := 1) (base := w.heap.size) w #[] 0 (by simp) (by unfold maxLen; omega) (by simp)
    exact this
  have HB0 : Hid (Below w.heap.size w (w.alloc (.cells #[] 3))) := (Below.refl _ _).alloc (Nat.le_refl _) _
  clear h
  go_enter Try.func10, Try.ntmps10
  go_wp2
  go_loopw [5, 11] (fun v i wr => ∃ (c g l cc : Nat) (zs : List Int), c ≤ n ∧ l ≤ c ∧ Hid (zs = suI row M c ∧ zs.length = l) ∧ v = .slice (some ⟨g, 0, none⟩) l cc ∧ i = .int .i64 (c : Int) ∧ Hid (wr.ownsRow w.heap.size 3 1 (.slice (some ⟨g, 0, none⟩) l cc) l (zs.map (Value.int .i64)) ∧ Below w.heap.size w wr)) (fun _ i _ => n - (intOf i).toNat)
  case atStart => exact ⟨0, _, 0, 0, [], Nat.zero_le _, Nat.le_refl _, ⟨rfl, rfl⟩, rfl, rfl, HO.out, HB0.out⟩
  case round =>
    obtain ⟨c, g, l, cc, zs, hc, hl, HZ, rfl, rfl, KO⟩ := hrel
    clear HO HB0
    by_cases hlt : c < n
    · have hlti : (c : Int) < (n : Int) := by omega
      obtain ⟨b1, f1, rfl, ⟨x0, x1, x2, x3⟩, _⟩ := mark_at (KH.out.below KO.out.2) hlt
      obtain ⟨⟨z0, z1, z2, z3⟩, HM⟩ : ∃ z, Hid (M c = z) := ⟨_, rfl⟩
      simp only [HM.out] at x0 x1 x2 x3
      obtain ⟨W0, HW0⟩ : ∃ x, Hid (x = wr.alloc (.cells #[.int .i64 z0, .int .i64 z1, .int .i64 z2, .int .i64 z3] 56)) := ⟨_, rfl⟩
      have hsz := KO.out.2.size
      have lg := World.ownsRow.lt KO.out.1 g rfl
      have KO0 : Hid (W0.ownsRow w.heap.size 3 1 (.slice (some ⟨g, 0, none⟩) l cc) l (zs.map (Value.int .i64)) ∧ Below w.heap.size w W0) := by show _ ∧ _; rw [HW0.out]; exact ⟨World.ownsRow.alloc KO.out.1 _, KO.out.2.alloc hsz _⟩
      have hs0 : W0.heap.size = wr.heap.size + 1 := by rw [HW0.out]; simp
      by_cases hr : row ≤ z3
      · have hge : z3 ≥ row := hr
        have HS : Hid (suI row M (c + 1) = suI row M c ++ [z0]) := suI_yes HM.out hr
        have HNE : Hid (∀ j u, ([.int .i64 z0] : List Value)[j]? = some u → (W0.alloc (.cells #[.int .i64 z0] 3)).cell? ((⟨W0.heap.size, 0, none⟩ : Addr).add j) = some u) := World.news_of_block (cs := #[.int .i64 z0]) (t := 3) (fr := (0, 0)) (heap_alloc_new W0 _)
        have HOA : Hid ((W0.alloc (.cells #[.int .i64 z0] 3)).ownsRow w.heap.size 3 1 (.slice (some ⟨g, 0, none⟩) l cc) l (zs.map (Value.int .i64))) := World.ownsRow.alloc KO0.out.1 _
        have HBA : Hid (Below w.heap.size w (W0.alloc (.cells #[.int .i64 z0] 3))) := KO0.out.2.alloc (by omega) _
        have HSZ : Hid (W0.heap.size = wr.heap.size + 1) := hs0
        clear hs0
        rw [HSZ.out] at HNE
        rw [HW0.out] at HNE HOA HBA
        go_wp2_with (at_builtin; refine wpList_append_all _ (by rfl) _ _ 24 (by rfl) w.heap.size 3 i0 (.int .i64 0) 1 8 Try.underlying24 hi hz0 hz1 hz2 rfl (by decide) g l cc (zs.map (Value.int .i64)) (by rfl) ?_ ⟨wr.heap.size + 1, 0, none⟩ 1 1 [.int .i64 z0] (by rfl) (by rfl) ?_ (by simp [Value.oneCell']) (by unfold maxLen; omega) (by omega) (by simp; omega) ?_; exact HOA.out; exact HNE.out; intro g3 cap3 w3 hown3 hgrow3)
        have HB3 : Hid (w3.ownsRow w.heap.size 3 1 (.slice (some ⟨g3, 0, none⟩) (l + 1) cap3) (l + 1) ((zs ++ [z0]).map (Value.int .i64)) ∧ Below w.heap.size w w3) := ⟨by rw [List.map_append]; exact hown3, HBA.out.grown hgrow3 (by simp; omega) (fun x hx => by cases hx; exact lg.1)⟩
        have HZ3 : Hid (zs ++ [z0] = suI row M (c + 1) ∧ (zs ++ [z0]).length = l + 1) := ⟨by rw [HS.out, HZ.out.1], by simp [HZ.out.2]⟩
        clear hown3 hgrow3 HBA HOA HNE x0 x1 x2 x3 KO KO0
        go_wp2
        go_roundw
        case rel => exact ⟨c + 1, g3, l + 1, cap3, zs ++ [z0], by omega, by omega, HZ3, rfl, by go_num, HB3⟩
        case measure => simp [intOf]; omega
      · have hge : ¬ (z3 ≥ row) := hr
        have HS : Hid (zs = suI row M (c + 1) ∧ zs.length = l) := ⟨by rw [suI_no HM.out hr]; exact HZ.out.1, HZ.out.2⟩
        clear hs0
        go_wp2
        rw [← HW0.out]
        go_roundw
        case rel => exact ⟨c + 1, g, l, cc, zs, by omega, by omega, HS, rfl, by go_num, KO0⟩
        case measure => simp [intOf]; omega
    · obtain rfl : c = n := by omega
      have HF : Hid (OwnI wr w.heap.size (.slice (some ⟨g, 0, none⟩) l cc) (suI row M c)) := by
        show OwnI _ _ _ _
        have := KO.out.1
        unfold OwnI
        rw [← HZ.out.1, HZ.out.2]
        exact this
      have HB : Hid (Below w.heap.size w wr) := KO.out.2
      clear KO
      go_wp2
      go_ret
      exact ⟨_, rfl, HF.out, HB.out⟩
end Go.Proofs.Ytggmcgcmpgofcaa
