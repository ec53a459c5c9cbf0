/- The model's sum, product, quotient and value of polynomials as they are called, at any lists of at most 2^20 numbers. -/
import Derived.Test.YtdnddimkgddooaaDoorPProdS
namespace Go.Proofs.YtdnddimkgddooaaDoor
open Go.ChangeShapes Go.WideShapes Go.ChangeAt Go.RowKit

theorem nil0 (w : World) : OwnI (w.alloc (.cells #[] 3)) w.heap.size (.slice (some ⟨w.heap.size, 0, none⟩) 0 0) [] :=
  World.ownsRow_lit w #[] 0 (Nat.le_refl _) (by unfold maxLen; omega) rfl
theorem ints_ok {w : World} {a : Option Addr} {n : Nat} {xs : List Int} (h : IntsAt w a n xs) (hx : okB xs = true) : IntsAt w a n (eI (coP xs) n) := by
  have hl := h.1
  have e := (okB_parts hx).2.2.2.1
  rw [hl] at e
  rw [← e]
  exact h

set_option maxHeartbeats 1000000 in
theorem sPolyAt_any (a : Option Addr) (n ca : Nat) (xs : List Int) (x : Int) (w : World) (ha : IntsAt w a n xs) (hn : n ≤ 1048576) :
    Calls Tryd.prog 10 #[.slice a n ca, .int .i64 x] w fun e w' => e = .returned (.int .i64 (atP xs x)) ∧ Below w.heap.size w w' := by
  have hX := sOk_any a n ca xs w ha hn
  by_cases hx : okB xs = true
  · rw [hx] at hX
    by_cases hb : isB x = true
    · obtain ⟨X, hX2, rfl⟩ := isB_nat hb
      have hl := ha.1
      have hp := (okB_parts hx).2.2.1
      have hA := ints_ok ha hx
      have HR : Hid (atP xs (X : Int) = ((Gp.ev (coP xs) X n : Nat) : Int)) := by
        show _ = _
        unfold atP
        rw [if_pos ⟨hx, hb⟩, hl]
        rfl
      have hpf := hp.1
      clear hp ha hl
      generalize coP xs = f at *
      generalize atP xs (X : Int) = res at *
      go_enter Tryd.func10, Tryd.ntmps10
      go_wp2_with fail
      refine hX.mono ?_
      rintro e w1 ⟨rfl, hw⟩
      obtain rfl := hw.symm
      go_wp2_with fail
      refine (sIs_any _ _).mono ?_
      rintro e w1 ⟨rfl, hw⟩
      obtain rfl := hw.symm
      go_wp2
      clear hX hb hw
      go_loopw [5, 6] (fun s i wr => ∃ k V : Nat, k ≤ n ∧ V < 256 ∧ s = .int .i64 (V : Int) ∧ i = .int .i64 ((k : Int) - 1) ∧ Hid (V = Gp.hn f X (n - k) k) ∧ Below w.heap.size w wr) (fun _ i _ => (intOf i + 1).toNat)
      case atStart => exact ⟨n, 0, Nat.le_refl _, by omega, rfl, rfl, by show _ = _; rw [Nat.sub_self]; rfl, Below.refl _ _⟩
      case round =>
        obtain ⟨k, V, hk, hV, rfl, rfl, HV, hbel⟩ := hrel
        have hA' := hA.below hbel
        clear hA
        by_cases hk0 : k = 0
        · subst hk0
          go_wp2
          go_ret
          exact ⟨ret_int (by rw [HR.out, HV.out, Nat.sub_zero]; rfl), hbel⟩
        · obtain ⟨j, rfl⟩ : ∃ j, k = j + 1 := ⟨k - 1, by omega⟩
          obtain ⟨b, off, rfl, hc⟩ := intsE hA' (k := j) (by omega)
          clear hA'
          have hj := hpf j
          have hml := Gf.mul_lt hV hX2
          have HV2 : Hid (Gf.mul V X ^^^ f j = Gp.hn f X (n - j) j) := by
            show _ = _
            rw [show n - j = (n - (j + 1)) + 1 by omega, Gp.hn_s, HV.out.symm, Gp.m_nat hV hX2]
          have hxl : Hid (Gf.mul V X ^^^ f j < 256) := Gf.xor_lt hml hj
          have hxr := xor_i64 (Gf.mul V X) (f j) (by omega) (by omega)
          rw [show ((j + 1 : Nat) : Int) - 1 = (j : Int) by omega]
          have hjn : (j : Int) < (n : Int) := by omega
          clear HV hpf
          go_wp2
          go_quiet ((go_at_call 33; exact Calls.quiet_of_same (sMul_nat V X _ hV hX2)))
          go_wp2
          go_roundw
          case rel => exact ⟨j, _, by omega, hxl.out, rfl, by go_num, HV2.out, below_drewN hbel _⟩
          case measure => simp [intOf] <;> omega
    · have hb' : isB x = false := by simpa using hb
      have HR : Hid (atP xs x = -1) := by
        show _ = _
        unfold atP
        rw [if_neg (fun h => hb h.2)]
      clear ha
      generalize atP xs x = res at *
      go_enter Tryd.func10, Tryd.ntmps10
      go_wp2_with fail
      refine hX.mono ?_
      rintro e w1 ⟨rfl, hw⟩
      obtain rfl := hw.symm
      go_wp2_with fail
      refine (sIs_any _ _).mono ?_
      rintro e w1 ⟨rfl, hw⟩
      obtain rfl := hw.symm
      go_wp2
      go_ret
      exact ⟨ret_int HR.out.symm, Below.refl _ _⟩
  · have hx' : okB xs = false := by simpa using hx
    rw [hx'] at hX
    have HR : Hid (atP xs x = -1) := by
      show _ = _
      unfold atP
      rw [if_neg (fun h => hx h.1)]
    clear ha
    generalize atP xs x = res at *
    go_enter Tryd.func10, Tryd.ntmps10
    go_wp2_with fail
    refine hX.mono ?_
    rintro e w1 ⟨rfl, hw⟩
    obtain rfl := hw.symm
    go_wp2
    go_ret
    exact ⟨ret_int HR.out.symm, Below.refl _ _⟩
end Go.Proofs.YtdnddimkgddooaaDoor
