/- The model's polynomial through places, at any lists of at most 2^20 numbers. -/
import Derived.Test.YtdnddimkgddooaaPInterS
namespace Go.Proofs.Ytdnddimkgddooaa
open Go.ChangeShapes Go.WideShapes Go.ChangeAt Go.RowKit

set_option maxHeartbeats 1000000 in
theorem sInter_any (a b : Option Addr) (n m ca cb : Nat) (xs ys : List Int) (w : World) (ha : IntsAt w a n xs) (hb : IntsAt w b m ys) (hn : n ≤ 1048576) (hm : m ≤ 1048576) :
    Calls Try.prog 24 #[.slice a n ca, .slice b m cb] w fun e w' => ∃ v, e = .returned (.tuple #[v, .bool (interP xs ys).2]) ∧ OwnI w' w.heap.size v (interP xs ys).1 ∧ Below w.heap.size w w' := by
  have hl1 := ha.1
  have hl2 := hb.1
  have HN : Hid _ := And.intro (nil0 w) ((Below.refl w.heap.size w).alloc (Nat.le_refl _) (.cells #[] 3))
  have hB1 := sBytes_any a n ca xs w ha hn
  have hB2 := sBytes_any b m cb ys w hb hm
  by_cases hnm : n = m
  · subst hnm
    by_cases h40 : n ≤ 40
    · have h40I : ¬ (40 : Int) < (n : Int) := by omega
      by_cases hx : xs.all isB = true
      · by_cases hy : ys.all isB = true
        · exact sInter_yes a b n ca cb xs ys w ha hb h40 hx hy
        · have hy' : ys.all isB = false := by simpa using hy
          have HA : Hid (interP xs ys = ([], false)) := interP_no (fun h => hy h.2.2.2)
          rw [hx] at hB1
          rw [hy'] at hB2
          generalize interP xs ys = res at *
          clear ha hb hl1 hl2 hx hy hy'
          go_enter Try.func24, Try.ntmps24
          go_wp2_with fail
          refine hB1.mono ?_
          rintro e w1 ⟨rfl, hw⟩
          obtain rfl := hw.symm
          go_wp2_with fail
          refine hB2.mono ?_
          rintro e w1 ⟨rfl, hw⟩
          obtain rfl := hw.symm
          clear hB1 hB2
          go_wp2
          go_ret2
          exact ⟨_, by rw [HA.out] <;> rfl, by rw [HA.out]; exact HN.out.1, HN.out.2⟩
      · have hx' : xs.all isB = false := by simpa using hx
        have HA : Hid (interP xs ys = ([], false)) := interP_no (fun h => hx h.2.2.1)
        rw [hx'] at hB1
        generalize interP xs ys = res at *
        clear ha hb hl1 hl2 hx hx' hB2
        go_enter Try.func24, Try.ntmps24
        go_wp2_with fail
        refine hB1.mono ?_
        rintro e w1 ⟨rfl, hw⟩
        obtain rfl := hw.symm
        clear hB1
        go_wp2
        go_ret2
        exact ⟨_, by rw [HA.out] <;> rfl, by rw [HA.out]; exact HN.out.1, HN.out.2⟩
    · have h40I : (40 : Int) < (n : Int) := by omega
      have HA : Hid (interP xs ys = ([], false)) := interP_no (fun h => by omega)
      generalize interP xs ys = res at *
      clear ha hb hl1 hl2 hB1 hB2
      go_enter Try.func24, Try.ntmps24
      go_wp2
      go_ret2
      exact ⟨_, by rw [HA.out] <;> rfl, by rw [HA.out]; exact HN.out.1, HN.out.2⟩
  · have hne : ((n : Int) != (m : Int)) = true := by simp; omega
    have HA : Hid (interP xs ys = ([], false)) := interP_no (fun h => by omega)
    generalize interP xs ys = res at *
    clear ha hb hl1 hl2 hB1 hB2
    go_enter Try.func24, Try.ntmps24
    go_wp2
    go_ret2
    exact ⟨_, by rw [HA.out] <;> rfl, by rw [HA.out]; exact HN.out.1, HN.out.2⟩
end Go.Proofs.Ytdnddimkgddooaa
