/- The model's sum, product, quotient and value of polynomials as they are called, at any lists of at most 2^20 numbers. -/
import Derived.Test.YtdnddimkgddooaaPProdS
namespace Go.Proofs.Ytdnddimkgddooaa
open Go.ChangeShapes Go.WideShapes Go.ChangeAt Go.RowKit

theorem nil0 (w : World) : OwnI (w.alloc (.cells #[] 3)) w.heap.size (.slice (some ⟨w.heap.size, 0, none⟩) 0 0) [] :=
  World.ownsRow_lit w #[] 0 (Nat.le_refl _) (by unfold maxLen; omega) rfl
theorem ints_ok {w : World} {a : Option Addr} {n : Nat} {xs : List Int} (h : IntsAt w a n xs) (hx : okB xs = true) : IntsAt w a n (eI (coP xs) n) := by
  have hl := h.1
  have e := (okB_parts hx).2.2.2.1
  rw [hl] at e
  rw [← e]
  exact h

set_option maxHeartbeats 400000 in
theorem sPolyAdd_any (a b : Option Addr) (n m ca cb : Nat) (xs ys : List Int) (w : World) (ha : IntsAt w a n xs) (hb : IntsAt w b m ys) (hn : n ≤ 1048576) (hm : m ≤ 1048576) :
    Calls Try.prog 33 #[.slice a n ca, .slice b m cb] w fun e w' => ∃ v, e = .returned (.tuple #[v, .bool (addP xs ys).2]) ∧ OwnI w' w.heap.size v (addP xs ys).1 ∧ Below w.heap.size w w' := by
  have hX := sOk_any a n ca xs w ha hn
  have hY := sOk_any b m cb ys w hb hm
  have hnil := nil0 w
  have HN : Hid _ := And.intro hnil ((Below.refl w.heap.size w).alloc (Nat.le_refl _) (.cells #[] 3))
  clear hnil
  by_cases hx : okB xs = true
  · rw [hx] at hX
    by_cases hy : okB ys = true
    · rw [hy] at hY
      have h40 := (okB_parts hx).1
      have h41 := (okB_parts hy).1
      have hl1 := ha.1
      have hl2 := hb.1
      have px := (okB_parts hx).2.2.1
      have py := (okB_parts hy).2.2.1
      rw [hl1] at px h40
      rw [hl2] at py h41
      have hS := sSum_any a b n m ca cb (coP xs) (coP ys) w (ints_ok ha hx) (ints_ok hb hy) px py (by omega) (by omega)
      have HA : Hid (addP xs ys = (eI (Gp.ad (coP xs) (coP ys)) (Gp.tl (Gp.ad (coP xs) (coP ys)) (max n m)), true)) := by
        show _ = _
        unfold addP
        rw [if_pos ⟨hx, hy⟩, hl1, hl2]
      have HS : Hid _ := hS
      clear hS ha hb px py hl1 hl2
      generalize addP xs ys = res at *
      go_enter Try.func33, Try.ntmps33
      go_wp2_with fail
      refine hX.mono ?_
      rintro e w1 ⟨rfl, hw⟩
      obtain rfl := hw.symm
      go_wp2_with fail
      refine hY.mono ?_
      rintro e w1 ⟨rfl, hw⟩
      obtain rfl := hw.symm
      go_wp2_with fail
      refine Calls.mono HS.out ?_
      rintro e w2 ⟨v, rfl, o2, b2⟩
      have HO : Hid _ := And.intro o2 b2
      clear o2 b2 HS hX hY
      go_wp2
      go_ret2
      exact ⟨v, by rw [HA.out] <;> rfl, by rw [HA.out]; exact HO.out.1, HO.out.2⟩
    · have hy' : okB ys = false := by simpa using hy
      rw [hy'] at hY
      have HA : Hid (addP xs ys = ([], false)) := addP_no (fun h => hy h.2)
      clear ha hb
      generalize addP xs ys = res at *
      go_enter Try.func33, Try.ntmps33
      go_wp2_with fail
      refine hX.mono ?_
      rintro e w1 ⟨rfl, hw⟩
      obtain rfl := hw.symm
      go_wp2_with fail
      refine hY.mono ?_
      rintro e w1 ⟨rfl, hw⟩
      obtain rfl := hw.symm
      clear hX hY
      go_wp2
      go_ret2
      exact ⟨_, by rw [HA.out] <;> rfl, by rw [HA.out]; exact HN.out.1, HN.out.2⟩
  · have hx' : okB xs = false := by simpa using hx
    rw [hx'] at hX
    have HA : Hid (addP xs ys = ([], false)) := addP_no (fun h => hx h.1)
    clear ha hb hY
    generalize addP xs ys = res at *
    go_enter Try.func33, Try.ntmps33
    go_wp2_with fail
    refine hX.mono ?_
    rintro e w1 ⟨rfl, hw⟩
    obtain rfl := hw.symm
    clear hX
    go_wp2
    go_ret2
    exact ⟨_, by rw [HA.out] <;> rfl, by rw [HA.out]; exact HN.out.1, HN.out.2⟩

set_option maxHeartbeats 400000 in
theorem sPolyMul_any (a b : Option Addr) (n m ca cb : Nat) (xs ys : List Int) (w : World) (ha : IntsAt w a n xs) (hb : IntsAt w b m ys) (hn : n ≤ 1048576) (hm : m ≤ 1048576) :
    Calls Try.prog 17 #[.slice a n ca, .slice b m cb] w fun e w' => ∃ v, e = .returned (.tuple #[v, .bool (mulP xs ys).2]) ∧ OwnI w' w.heap.size v (mulP xs ys).1 ∧ Below w.heap.size w w' := by
  have hX := sOk_any a n ca xs w ha hn
  have hY := sOk_any b m cb ys w hb hm
  have hnil := nil0 w
  have HN : Hid _ := And.intro hnil ((Below.refl w.heap.size w).alloc (Nat.le_refl _) (.cells #[] 3))
  clear hnil
  by_cases hx : okB xs = true
  · rw [hx] at hX
    by_cases hy : okB ys = true
    · rw [hy] at hY
      have h40 := (okB_parts hx).1
      have h41 := (okB_parts hy).1
      have hl1 := ha.1
      have hl2 := hb.1
      have px := (okB_parts hx).2.2.1
      have py := (okB_parts hy).2.2.1
      rw [hl1] at px h40
      rw [hl2] at py h41
      have hS := sProd_any a b n m ca cb (coP xs) (coP ys) w (ints_ok ha hx) (ints_ok hb hy) px py (by omega) (by omega)
      have HM : Hid (mulP xs ys = if Gp.tl (Gp.cv (coP xs) (coP ys) n) (n + m) ≤ 40 then (eI (Gp.cv (coP xs) (coP ys) n) (Gp.tl (Gp.cv (coP xs) (coP ys) n) (n + m)), true) else ([], false)) := by
        show _ = _
        unfold mulP
        rw [hl1, hl2]
        by_cases h : Gp.tl (Gp.cv (coP xs) (coP ys) n) (n + m) ≤ 40
        · rw [if_pos ⟨hx, hy, h⟩, if_pos h]
        · rw [if_neg (fun h' => h h'.2.2), if_neg h]
      have HS : Hid _ := hS
      have htl := Gp.tl_le (Gp.cv (coP xs) (coP ys) n) (n + m)
      clear hS ha hb px py hl1 hl2
      generalize mulP xs ys = res at *
      generalize Gp.cv (coP xs) (coP ys) n = h at *
      generalize Gp.tl h (n + m) = t at *
      by_cases h4 : t ≤ 40
      · have HA : Hid (res = (eI h t, true)) := by show _ = _; rw [HM.out, if_pos h4]
        have h4I : ¬ (40 : Int) < (t : Int) := by omega
        go_enter Try.func17, Try.ntmps17
        go_wp2_with fail
        refine hX.mono ?_
        rintro e w1 ⟨rfl, hw⟩
        obtain rfl := hw.symm
        go_wp2_with fail
        refine hY.mono ?_
        rintro e w1 ⟨rfl, hw⟩
        obtain rfl := hw.symm
        go_wp2_with fail
        refine Calls.mono HS.out ?_
        rintro e w2 ⟨v, rfl, o2, b2⟩
        obtain ⟨av, cv', rfl, hi2, hlt2⟩ := o2.view
        rw [eI_len] at hi2 ⊢
        have HO : Hid _ := And.intro o2 b2
        rw [eI_len] at HO
        clear o2 b2 HS hX hY hi2 hlt2 HM
        go_wp2
        go_ret2
        exact ⟨_, by rw [HA.out] <;> rfl, by rw [HA.out]; exact HO.out.1, HO.out.2⟩
      · have HA : Hid (res = ([], false)) := by show _ = _; rw [HM.out, if_neg h4]
        have h4I : (40 : Int) < (t : Int) := by omega
        go_enter Try.func17, Try.ntmps17
        go_wp2_with fail
        refine hX.mono ?_
        rintro e w1 ⟨rfl, hw⟩
        obtain rfl := hw.symm
        go_wp2_with fail
        refine hY.mono ?_
        rintro e w1 ⟨rfl, hw⟩
        obtain rfl := hw.symm
        go_wp2_with fail
        refine Calls.mono HS.out ?_
        rintro e w2 ⟨v, rfl, o2, b2⟩
        obtain ⟨av, cv', rfl, hi2, hlt2⟩ := o2.view
        rw [eI_len] at hi2 ⊢
        have HO : Hid _ := And.intro (OwnI.mono (nil0 w2) b2.size) (below2 b2 ((Below.refl w2.heap.size w2).alloc (Nat.le_refl _) (.cells #[] 3)))
        clear o2 b2 HS hX hY hi2 hlt2 HM
        go_wp2
        go_ret2
        exact ⟨_, by rw [HA.out] <;> rfl, by rw [HA.out]; exact HO.out.1, HO.out.2⟩
    · have hy' : okB ys = false := by simpa using hy
      rw [hy'] at hY
      have HA : Hid (mulP xs ys = ([], false)) := mulP_no (fun h => hy h.2)
      clear ha hb
      generalize mulP xs ys = res at *
      go_enter Try.func17, Try.ntmps17
      go_wp2_with fail
      refine hX.mono ?_
      rintro e w1 ⟨rfl, hw⟩
      obtain rfl := hw.symm
      go_wp2_with fail
      refine hY.mono ?_
      rintro e w1 ⟨rfl, hw⟩
      obtain rfl := hw.symm
      clear hX hY
      go_wp2
      go_ret2
      exact ⟨_, by rw [HA.out] <;> rfl, by rw [HA.out]; exact HN.out.1, HN.out.2⟩
  · have hx' : okB xs = false := by simpa using hx
    rw [hx'] at hX
    have HA : Hid (mulP xs ys = ([], false)) := mulP_no (fun h => hx h.1)
    clear ha hb hY
    generalize mulP xs ys = res at *
    go_enter Try.func17, Try.ntmps17
    go_wp2_with fail
    refine hX.mono ?_
    rintro e w1 ⟨rfl, hw⟩
    obtain rfl := hw.symm
    clear hX
    go_wp2
    go_ret2
    exact ⟨_, by rw [HA.out] <;> rfl, by rw [HA.out]; exact HN.out.1, HN.out.2⟩

set_option maxHeartbeats 1000000 in
theorem sPolyAt_any (a : Option Addr) (n ca : Nat) (xs : List Int) (x : Int) (w : World) (ha : IntsAt w a n xs) (hn : n ≤ 1048576) :
    Calls Try.prog 34 #[.slice a n ca, .int .i64 x] w fun e w' => e = .returned (.int .i64 (atP xs x)) ∧ Below w.heap.size w w' := by
  have hX := sOk_any a n ca xs w ha hn
  by_cases hx : okB xs = true
  · rw [hx] at hX
    by_cases hb : isB x = true
    · obtain ⟨X, hX2, rfl⟩ := isB_nat hb
      have hl := ha.1
      have hp := (okB_parts hx).2.2.1
      have hA := ints_ok ha hx
      have HR : Hid (atP xs (X : Int) = ((Gp.ev (coP xs) X n : Nat) : Int)) := by
        show _ = _
        unfold atP
        rw [if_pos ⟨hx, hb⟩, hl]
        rfl
      have hpf := hp.1
      clear hp ha hl
      generalize coP xs = f at *
      generalize atP xs (X : Int) = res at *
      go_enter Try.func34, Try.ntmps34
      go_wp2_with fail
      refine hX.mono ?_
      rintro e w1 ⟨rfl, hw⟩
      obtain rfl := hw.symm
      go_wp2_with fail
      refine (sIs_any _ _).mono ?_
      rintro e w1 ⟨rfl, hw⟩
      obtain rfl := hw.symm
      go_wp2
      clear hX hb hw
      go_loopw [5, 6] (fun s i wr => ∃ k V : Nat, k ≤ n ∧ V < 256 ∧ s = .int .i64 (V : Int) ∧ i = .int .i64 ((k : Int) - 1) ∧ Hid (V = Gp.hn f X (n - k) k) ∧ Below w.heap.size w wr) (fun _ i _ => (intOf i + 1).toNat)
      case atStart => exact ⟨n, 0, Nat.le_refl _, by omega, rfl, rfl, by show _ = _; rw [Nat.sub_self]; rfl, Below.refl _ _⟩
      case round =>
        obtain ⟨k, V, hk, hV, rfl, rfl, HV, hbel⟩ := hrel
        have hA' := hA.below hbel
        clear hA
        by_cases hk0 : k = 0
        · subst hk0
          go_wp2
          go_ret
          exact ⟨ret_int (by rw [HR.out, HV.out, Nat.sub_zero]; rfl), hbel⟩
        · obtain ⟨j, rfl⟩ : ∃ j, k = j + 1 := ⟨k - 1, by omega⟩
          obtain ⟨b, off, rfl, hc⟩ := intsE hA' (k := j) (by omega)
          clear hA'
          have hj := hpf j
          have hml := Gf.mul_lt hV hX2
          have HV2 : Hid (Gf.mul V X ^^^ f j = Gp.hn f X (n - j) j) := by
            show _ = _
            rw [show n - j = (n - (j + 1)) + 1 by omega, Gp.hn_s, HV.out.symm, Gp.m_nat hV hX2]
          have hxl : Hid (Gf.mul V X ^^^ f j < 256) := Gf.xor_lt hml hj
          have hxr := xor_i64 (Gf.mul V X) (f j) (by omega) (by omega)
          rw [show ((j + 1 : Nat) : Int) - 1 = (j : Int) by omega]
          have hjn : (j : Int) < (n : Int) := by omega
          clear HV hpf
          go_wp2
          go_quiet ((go_at_call 40; exact Calls.quiet_of_same (sMul_nat V X _ hV hX2)))
          go_wp2
          go_roundw
          case rel => exact ⟨j, _, by omega, hxl.out, rfl, by go_num, HV2.out, below_drewN hbel _⟩
          case measure => simp [intOf] <;> omega
    · have hb' : isB x = false := by simpa using hb
      have HR : Hid (atP xs x = -1) := by
        show _ = _
        unfold atP
        rw [if_neg (fun h => hb h.2)]
      clear ha
      generalize atP xs x = res at *
      go_enter Try.func34, Try.ntmps34
      go_wp2_with fail
      refine hX.mono ?_
      rintro e w1 ⟨rfl, hw⟩
      obtain rfl := hw.symm
      go_wp2_with fail
      refine (sIs_any _ _).mono ?_
      rintro e w1 ⟨rfl, hw⟩
      obtain rfl := hw.symm
      go_wp2
      go_ret
      exact ⟨ret_int HR.out.symm, Below.refl _ _⟩
  · have hx' : okB xs = false := by simpa using hx
    rw [hx'] at hX
    have HR : Hid (atP xs x = -1) := by
      show _ = _
      unfold atP
      rw [if_neg (fun h => hx h.1)]
    clear ha
    generalize atP xs x = res at *
    go_enter Try.func34, Try.ntmps34
    go_wp2_with fail
    refine hX.mono ?_
    rintro e w1 ⟨rfl, hw⟩
    obtain rfl := hw.symm
    go_wp2
    go_ret
    exact ⟨ret_int HR.out.symm, Below.refl _ _⟩
end Go.Proofs.Ytdnddimkgddooaa
