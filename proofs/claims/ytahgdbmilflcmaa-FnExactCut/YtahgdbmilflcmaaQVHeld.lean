/- Lists of pieces asked for their marks, and compared. Conditions stand at each. -/
import Derived.Test.YtahgdbmilflcmaaQVMark
namespace Go.Proofs.Ytahgdbmilflcmaa
set_option maxRecDepth 2000
open Go.ChangeShapes Go.WideShapes Go.ChangeAt Go.RowKit

theorem PiAt.own {w : World} {g n : Nat} {P : Nat → Pc} (h : PiAt w (some ⟨g, 0, none⟩) n P) {i : Nat} (hi : i < n) : ∃ ap cp, (∀ q, q < 6 → w.cell? ⟨g, i * 6 + q, none⟩ = some (cel (P i) (.slice ap (P i).m cp) q)) ∧ TxtAt w ap (P i).m (P i).S := by
  obtain ⟨b, off, ap, cp, e, hc, ht⟩ := h i hi
  cases e
  exact ⟨ap, cp, fun q hq => by have := hc q hq; rwa [Nat.zero_add] at this, ht⟩

set_option maxHeartbeats 4000000 in
theorem heldP_any (g n cap : Nat) (P : Nat → Pc) (k : Nat) (w : World) (h : PiAt w (some ⟨g, 0, none⟩) n (mkd k P)) (hn : n ≤ 64) (hm : ∀ i, i < n → (P i).m ≤ 1000) (hk : ofs k P n ≤ 1000000) :
    Calls Try.prog 27 #[.slice (some ⟨g, 0, none⟩) n cap, .int .i64 (k : Int)] w fun e w' => e = .returned (.int .i64 ((ofs k P n : Nat) : Int)) ∧ Below w.heap.size w w' := by
  have KH : Hid (PiAt w (some ⟨g, 0, none⟩) n (mkd k P)) := h
  have HM : Hid (∀ i, i < n → (P i).m ≤ 1000) := hm
  clear h hm
  go_enter Try.func27, Try.ntmps27
  go_wp2
  go_loopw [1, 5] (fun vk vi wr => ∃ c : Nat, c ≤ n ∧ vk = .int .i64 ((ofs k P c : Nat) : Int) ∧ vi = .int .i64 (c : Int) ∧ Below w.heap.size w wr) (fun _ vi _ => n - (intOf vi).toNat)
  case atStart => exact ⟨0, Nat.zero_le _, rfl, rfl, Below.refl _ _⟩
  case round =>
    obtain ⟨c, hcn, rfl, rfl, hbel⟩ := hrel
    by_cases hlt : c < n
    · have hki : (c : Int) < (n : Int) := by omega
      obtain ⟨o, HO⟩ : ∃ o, Hid (ofs k P c = o) := ⟨_, rfl⟩
      have ho : o + 5 + (P c).m ≤ 1000000 := by rw [← HO.out]; exact Nat.le_trans (ofs_le k P (show c + 1 ≤ n by omega)) hk
      rw [HO.out]
      have hmc := HM.out c hlt
      have HNX : Hid (ofs k P (c + 1) = o + 5 + (P c).m) := by show ofs k P c + 5 + (P c).m = _; rw [HO.out]
      obtain ⟨ap, cp, hcs, hts⟩ := (KH.out.below hbel).own hlt
      have HQ : Hid (mkd k P c = ⟨mtxt o, ((o + 1 : Nat) : Int), ((o + 2 : Nat) : Int), ((o + 3 : Nat) : Int), mtxt (o + 4), (P c).m, fun j => mtxt (o + 5 + j)⟩) := by show _ = _; unfold mkd; rw [HO.out]
      rw [HQ.out] at hcs hts
      obtain ⟨o1, HO1⟩ : ∃ x, Hid (x = o + 1) := ⟨_, rfl⟩
      obtain ⟨o2, HO2⟩ : ∃ x, Hid (x = o + 2) := ⟨_, rfl⟩
      obtain ⟨o3, HO3⟩ : ∃ x, Hid (x = o + 3) := ⟨_, rfl⟩
      obtain ⟨o4, HO4⟩ : ∃ x, Hid (x = o + 4) := ⟨_, rfl⟩
      obtain ⟨o5, HO5⟩ : ∃ x, Hid (x = o + 5) := ⟨_, rfl⟩
      rw [← HO1.out, ← HO2.out, ← HO3.out, ← HO4.out, ← HO5.out] at hcs
      have e1 : (o : Int) + 1 = (o1 : Int) := by have := HO1.out; omega
      have e2 : (o1 : Int) + 1 = (o2 : Int) := by have := HO1.out; have := HO2.out; omega
      have e3 : (o2 : Int) + 1 = (o3 : Int) := by have := HO3.out; have := HO2.out; omega
      have e4 : (o3 : Int) + 1 = (o4 : Int) := by have := HO3.out; have := HO4.out; omega
      have e5 : (o4 : Int) + 1 = (o5 : Int) := by have := HO5.out; have := HO4.out; omega
      have l5 : o5 + (P c).m ≤ 1000000 ∧ o4 < o5 ∧ o3 < o4 ∧ o2 < o3 ∧ o1 < o2 ∧ o < o1 := by have := HO1.out; have := HO2.out; have := HO3.out; have := HO4.out; have := HO5.out; omega
      obtain ⟨s0, HS0⟩ : ∃ x, Hid (mtxt o = x) := ⟨_, rfl⟩
      obtain ⟨s4, HS4⟩ : ∃ x, Hid (mtxt o4 = x) := ⟨_, rfl⟩
      obtain ⟨m, HMm⟩ : ∃ x, Hid ((P c).m = x) := ⟨_, rfl⟩
      rw [HMm.out] at l5 hmc HNX hcs hts
      rw [HS0.out, HS4.out] at hcs
      rw [← HO5.out] at hts
      have KM0 : Hid (∀ W, Calls Try.prog 60 #[.int .i64 (o : Int)] W fun e w' => e = .returned (.string s0) ∧ Below W.heap.size W w') := fun W => by rw [← HS0.out]; exact markText_any o W (by omega)
      have KM4 : Hid (∀ W, Calls Try.prog 60 #[.int .i64 (o4 : Int)] W fun e w' => e = .returned (.string s4) ∧ Below W.heap.size W w') := fun W => by rw [← HS4.out]; exact markText_any o4 W (by omega)
      obtain ⟨q6, HQ6⟩ : ∃ x, Hid (o5 + m = x) := ⟨_, rfl⟩
      have l5' : o5 + m ≤ 1000000 := l5.1
      have l51 : o5 ≤ 1000000 ∧ o4 ≤ 1000000 ∧ o3 ≤ 1000000 ∧ o2 ≤ 1000000 ∧ o1 ≤ 1000000 ∧ o ≤ 1000000 := by omega
      obtain ⟨u5, u4, u3, u2, u1, u0⟩ := l51
      have KS : Hid (∀ W, Below wr.heap.size wr W → Calls Try.prog 62 #[.slice ap m cp, .int .i64 (o5 : Int)] W fun e w' => e = .returned (.int .i64 (q6 : Int)) ∧ Below W.heap.size W w') := fun W hW => heldT_any ap m cp o5 q6 W (hts.below hW) (by omega) (by omega) HQ6.out
      have x0 := hcs 0 (by omega)
      have x1 := hcs 1 (by omega)
      have x2 := hcs 2 (by omega)
      have x3 := hcs 3 (by omega)
      have x4 := hcs 4 (by omega)
      have x5 := hcs 5 (by omega)
      simp only [cel, Nat.add_zero] at x0 x1 x2 x3 x4 x5
      have lg := block_lt_of_cell x0
      have n0 : (s0.toList != s0.toList) = false := by simp
      have n0' := ba_beq s0
      have n4 : (s4.toList != s4.toList) = false := by simp
      have n4' := ba_beq s4
      have n1 : ((o1 : Int) != (o1 : Int)) = false := by simp
      have n2 : ((o2 : Int) != (o2 : Int)) = false := by simp
      have n3 : ((o3 : Int) != (o3 : Int)) = false := by simp
      have q6n : ¬ ((q6 : Int) < 0) := by omega
      have KB : Hid (Below w.heap.size w wr) := hbel
      have HQQ : Hid ((q6 : Int) = ((ofs k P (c + 1) : Nat) : Int)) := by show _ = _; rw [HNX.out, ← HQ6.out, HO5.out]
      clear hcs hts hbel hk l5 ho
      go_wp2_with fail
      go_region_held3 (fun w' => w'.cell? ⟨g, c * 6, none⟩ = some (.string s0)) (go_keep) ((go_at_call 60; refine Calls.mono (KM0.out _) ?_; rintro e w1 ⟨rfl, b1'⟩; have b1 := below_of_drew b1'; clear b1'; have y0 := (b1.cell (p := ⟨g, c * 6, none⟩) lg).trans x0))
      all_goals
        have y1 := (b1.cell (p := ⟨g, c * 6 + 1, none⟩) lg).trans x1
        have y2 := (b1.cell (p := ⟨g, c * 6 + 2, none⟩) lg).trans x2
        have y3 := (b1.cell (p := ⟨g, c * 6 + 3, none⟩) lg).trans x3
        have y4 := (b1.cell (p := ⟨g, c * 6 + 4, none⟩) lg).trans x4
        have y5 := (b1.cell (p := ⟨g, c * 6 + 5, none⟩) lg).trans x5
        have lg1 := block_lt_of_cell y0
        clear x0 x1 x2 x3 x4 x5
        go_wp2_with fail
        go_region_held3 (fun w' => w'.cell? ⟨g, c * 6 + 4, none⟩ = some (.string s4)) (go_keep) ((go_at_call 60; refine Calls.mono (KM4.out _) ?_; rintro e w2 ⟨rfl, b2'⟩; have b2 := below_of_drew b2'; clear b2'; have z4 := (b2.cell (p := ⟨g, c * 6 + 4, none⟩) lg1).trans y4))
        all_goals
          have z5 := (b2.cell (p := ⟨g, c * 6 + 5, none⟩) lg1).trans y5
          have b12 := below2 b1 b2
          clear y0 y1 y2 y3 y4 y5 z4
          go_wp2_with fail
          refine Calls.mono (KS.out _ b12) ?_
          rintro e w3 ⟨rfl, b3⟩
          have HB3 : Hid (Below w.heap.size w w3) := below2 KB.out (below2 b12 b3)
          clear b1 b2 b3 b12
          go_wp2
          go_roundw
          case rel => exact ⟨c + 1, by omega, by rw [HQQ.out], by go_num, HB3.out⟩
          case measure => simp [intOf]; omega
    · obtain rfl : c = n := by omega
      go_wp2
      go_ret
      exact ⟨rfl, hbel⟩

set_option maxHeartbeats 4000000 in
theorem eqPs_same (a a' : Option Addr) (n ca ca' : Nat) (P : Nat → Pc) (w : World) (h : PiAt w a n P) (h' : PiAt w a' n P) (hn : n ≤ 1048576) (hm : ∀ i, i < n → (P i).m ≤ 1048576) :
    Calls Try.prog 25 #[.slice a n ca, .slice a' n ca'] w fun e w' => e = .returned (.bool true) ∧ Below w.heap.size w w' := by
  have KH : Hid (PiAt w a n P ∧ PiAt w a' n P) := ⟨h, h'⟩
  have HM : Hid (∀ i, i < n → (P i).m ≤ 1048576) := hm
  have hnn : ((n : Int) != (n : Int)) = false := by simp
  clear h h' hm
  go_enter Try.func25, Try.ntmps25
  go_wp2
  go_loopw [5] (fun vi wr => ∃ c : Nat, c ≤ n ∧ vi = .int .i64 (c : Int) ∧ Below w.heap.size w wr) (fun vi _ => n - (intOf vi).toNat)
  case atStart => exact ⟨0, Nat.zero_le _, rfl, Below.refl _ _⟩
  case round =>
    obtain ⟨c, hcn, rfl, hbel⟩ := hrel
    by_cases hlt : c < n
    · have hki : (c : Int) < (n : Int) := by omega
      have hmc := HM.out c hlt
      obtain ⟨b1, f1, ap, cp, rfl, hc1, ht1⟩ := (KH.out.1.below hbel) c hlt
      obtain ⟨b2, f2, aq, cq, rfl, hc2, ht2⟩ := (KH.out.2.below hbel) c hlt
      generalize P c = p at hc1 hc2 ht1 ht2 hmc
      obtain ⟨rr, kk, nn, ii, bb, m, S⟩ := p
      have x0 := hc1 0 (by omega)
      have y0 := hc2 0 (by omega)
      have x1 := hc1 1 (by omega)
      have y1 := hc2 1 (by omega)
      have x2 := hc1 2 (by omega)
      have y2 := hc2 2 (by omega)
      have x3 := hc1 3 (by omega)
      have y3 := hc2 3 (by omega)
      have x4 := hc1 4 (by omega)
      have y4 := hc2 4 (by omega)
      have x5 := hc1 5 (by omega)
      have y5 := hc2 5 (by omega)
      simp only [cel, Nat.add_zero, ← Nat.add_assoc] at x0 y0 x1 y1 x2 y2 x3 y3 x4 y4 x5 y5
      have l1 := block_lt_of_cell x0
      have l2 := block_lt_of_cell y0
      have KT : Hid (∀ W, Below wr.heap.size wr W → Calls Try.prog 32 #[pcV rr kk nn ii bb (.slice ap m cp), pcV rr kk nn ii bb (.slice aq m cq)] W fun e w' => e = .returned (.bool true) ∧ Below W.heap.size W w') := fun W hW => eqPc_same rr kk nn ii bb ap aq m cp cq S W (ht1.below hW) (ht2.below hW) hmc
      have KB : Hid (Below w.heap.size w wr) := hbel
      clear hc1 hc2 ht1 ht2 hmc hbel
      go_wp2_with fail
      go_region_held3 (fun w' => w'.cell? ⟨b1, f1 + c * 6, none⟩ = some (.string rr) ∧ w'.cell? ⟨b1, f1 + c * 6 + 1, none⟩ = some (.int .i64 kk) ∧ w'.cell? ⟨b1, f1 + c * 6 + 2, none⟩ = some (.int .i64 nn) ∧ w'.cell? ⟨b1, f1 + c * 6 + 3, none⟩ = some (.int .i64 ii) ∧ w'.cell? ⟨b1, f1 + c * 6 + 4, none⟩ = some (.string bb) ∧ w'.cell? ⟨b1, f1 + c * 6 + 5, none⟩ = some (.slice ap m cp) ∧ w'.cell? ⟨b2, f2 + c * 6, none⟩ = some (.string rr) ∧ w'.cell? ⟨b2, f2 + c * 6 + 1, none⟩ = some (.int .i64 kk) ∧ w'.cell? ⟨b2, f2 + c * 6 + 2, none⟩ = some (.int .i64 nn) ∧ w'.cell? ⟨b2, f2 + c * 6 + 3, none⟩ = some (.int .i64 ii) ∧ w'.cell? ⟨b2, f2 + c * 6 + 4, none⟩ = some (.string bb) ∧ w'.cell? ⟨b2, f2 + c * 6 + 5, none⟩ = some (.slice aq m cq)) (go_keep) ((go_at_call 32; refine Calls.mono (KT.out _ ⟨rfl, rfl, rfl, Nat.le_refl _, fun _ _ => rfl⟩) ?_; rintro e w7 ⟨rfl, b7'⟩; have b7 := below_of_drew b7'; clear b7'; have p0 := (b7.cell (p := ⟨b1, f1 + c * 6, none⟩) l1).trans x0; have z0 := (b7.cell (p := ⟨b2, f2 + c * 6, none⟩) l2).trans y0; have p1 := (b7.cell (p := ⟨b1, f1 + c * 6 + 1, none⟩) l1).trans x1; have z1 := (b7.cell (p := ⟨b2, f2 + c * 6 + 1, none⟩) l2).trans y1; have p2 := (b7.cell (p := ⟨b1, f1 + c * 6 + 2, none⟩) l1).trans x2; have z2 := (b7.cell (p := ⟨b2, f2 + c * 6 + 2, none⟩) l2).trans y2; have p3 := (b7.cell (p := ⟨b1, f1 + c * 6 + 3, none⟩) l1).trans x3; have z3 := (b7.cell (p := ⟨b2, f2 + c * 6 + 3, none⟩) l2).trans y3; have p4 := (b7.cell (p := ⟨b1, f1 + c * 6 + 4, none⟩) l1).trans x4; have z4 := (b7.cell (p := ⟨b2, f2 + c * 6 + 4, none⟩) l2).trans y4; have p5 := (b7.cell (p := ⟨b1, f1 + c * 6 + 5, none⟩) l1).trans x5; have z5 := (b7.cell (p := ⟨b2, f2 + c * 6 + 5, none⟩) l2).trans y5))
      all_goals
        have HB7 : Hid (Below w.heap.size w w7) := below2 KB.out b7
        clear p0 z0 x0 y0 p1 z1 x1 y1 p2 z2 x2 y2 p3 z3 x3 y3 p4 z4 x4 y4 p5 z5 x5 y5 b7
        go_wp2
        go_roundw
        case rel => exact ⟨c + 1, by omega, by go_num, HB7.out⟩
        case measure => simp [intOf]; omega
    · go_wp2
      go_ret
      exact ⟨rfl, hbel⟩
end Go.Proofs.Ytahgdbmilflcmaa
