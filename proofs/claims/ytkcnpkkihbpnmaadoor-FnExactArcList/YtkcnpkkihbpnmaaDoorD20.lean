/- What the exact laws count of slots and nodes. Conditions: what each says. -/
import Derived.Test.YtkcnpkkihbpnmaaDoorD18
namespace Go.Proofs.YtkcnpkkihbpnmaaDoor
set_option maxRecDepth 2000
open Go.ChangeShapes Go.WideShapes Go.ChangeAt Go.RowKit

/-- What is left of l behind a weight, or -1. -/
def szN (l x : Nat) : Int := if x ≤ l then ((l - x : Nat) : Int) else -1
theorem szN_yes {l x : Nat} (h : x ≤ l) : szN l x = ((l - x : Nat) : Int) := if_pos h
theorem szN_no {l x : Nat} (h : ¬ x ≤ l) : szN l x = -1 := if_neg h
def wtP (p : Pc) : Nat := p.r.size + p.b.size + (p.m + tot (fun i => (p.S i).size) p.m)
def wtS (s : Sl) : Nat := s.r.size + wtP s.p + s.ze.length + s.zr.length
theorem szPc_eq (p : Pc) (l : Nat) : szPc p.r p.b p.m p.S l = szN l (wtP p) := by
  by_cases h : wtP p ≤ l
  · rw [szN_yes h]; exact szPc_yes h
  · rw [szN_no h]; exact szPc_no h
/-- What the form tells of a slot that came in. -/
structure SlI (w : World) (s : Sl) (a6 : Option Addr) : Prop where
  r : s.r.size ≤ maxLen
  pr : s.p.r.size ≤ maxLen
  pb : s.p.b.size ≤ maxLen
  tx : IsTxt w a6 s.p.m s.p.S
  ne : s.ze.length ≤ maxLen
  nr : s.zr.length ≤ maxLen
theorem szI_any (a : Option Addr) (n cap l : Nat) (w : World) (hn : n ≤ maxLen) (hl : l ≤ 1048576) : Calls Tryd.prog 25 #[.slice a n cap, .int .i64 (l : Int)] w fun e w' => e = .returned (.int .i64 (szN l n)) ∧ w' = w := by
  unfold maxLen at hn
  by_cases h : n ≤ l
  · rw [szN_yes h]
    obtain ⟨d, hd⟩ : ∃ d, l - n = d := ⟨_, rfl⟩
    rw [hd]
    have e : IntKind.i64.wrap ((l : Int) - (n : Int)) = (d : Int) := by rw [IntKind.wrap_i64]; omega
    have h0 : ¬ ((d : Int) < 0) := by omega
    go_enter Tryd.func25, Tryd.ntmps25
    go_wp2
    go_ret
    exact ⟨rfl, rfl⟩
  · rw [szN_no h]
    have e : IntKind.i64.wrap ((l : Int) - (n : Int)) = (l : Int) - (n : Int) := by rw [IntKind.wrap_i64]; omega
    have h0 : (l : Int) - (n : Int) < 0 := by omega
    go_enter Tryd.func25, Tryd.ntmps25
    go_wp2
    go_ret
    exact ⟨rfl, rfl⟩
set_option maxHeartbeats 4000000 in
theorem szSl_any (s : Sl) (a6 a11 a12 : Option Addr) (c6 c11 c12 l : Nat) (w : World) (h : SlI w s a6) (hl : l ≤ 1048576) :
    Calls Tryd.prog 58 #[slV s (.slice a6 s.p.m c6) (.slice a11 s.ze.length c11) (.slice a12 s.zr.length c12), .int .i64 (l : Int)] w fun e w' => e = .returned (.int .i64 (szN l (wtS s))) ∧ Below w.heap.size w w' := by
  obtain ⟨r, p, fh, fe, fd, fo, ze, zr⟩ := s
  obtain ⟨hr, hpr, hpb, htx, hne, hnr⟩ := h
  simp only at hr hpr hpb htx hne hnr
  have HWT : Hid (wtS ⟨r, p, fh, fe, fd, fo, ze, zr⟩ = r.size + wtP p + ze.length + zr.length) := rfl
  rw [HWT.out]
  simp only
  obtain ⟨A, HA⟩ : ∃ x, Hid (x = w.heap.size) := ⟨_, rfl⟩
  obtain ⟨w0, HW0⟩ : ∃ x, Hid (x = w.alloc (.cells (slC ⟨r, p, fh, fe, fd, fo, ze, zr⟩ (.slice a6 p.m c6) (.slice a11 ze.length c11) (.slice a12 zr.length c12)) 123)) := ⟨_, rfl⟩
  have RA : Hid (Row w0 A 123 (slC ⟨r, p, fh, fe, fd, fo, ze, zr⟩ (.slice a6 p.m c6) (.slice a11 ze.length c11) (.slice a12 zr.length c12))) := by
    show Row _ _ _ _
    rw [HW0.out, HA.out]
    exact Row.new w _ _
  have hb0 : Below w.heap.size w w0 := by rw [HW0.out]; exact (Below.refl _ _).alloc (Nat.le_refl _) _
  have KB0 : Hid (Below w.heap.size w w0) := hb0
  have KP : Hid (∀ l1 : Nat, l1 ≤ 1048576 → Calls Tryd.prog 49 #[pcV p.r p.k p.n p.i p.b (.slice a6 p.m c6), .int .i64 (l1 : Int)] w0 fun e w' => e = .returned (.int .i64 (szN l1 (wtP p))) ∧ Below w0.heap.size w0 w') := fun l1 h1 => by
    rw [← szPc_eq]
    exact szPc_any p.r p.k p.n p.i p.b a6 p.m c6 p.S l1 w0 (htx.1.below hb0) h1 htx.2.1 htx.2.2 hpr hpb
  have KE : Hid (∀ (l1 : Nat) W, l1 ≤ 1048576 → Calls Tryd.prog 25 #[.slice a11 ze.length c11, .int .i64 (l1 : Int)] W fun e w' => e = .returned (.int .i64 (szN l1 ze.length)) ∧ w' = W) := fun l1 W h1 => szI_any a11 _ c11 l1 W hne h1
  have KZ : Hid (∀ (l1 : Nat) W, l1 ≤ 1048576 → Calls Tryd.prog 25 #[.slice a12 zr.length c12, .int .i64 (l1 : Int)] W fun e w' => e = .returned (.int .i64 (szN l1 zr.length)) ∧ w' = W) := fun l1 W h1 => szI_any a12 _ c12 l1 W hnr h1
  obtain ⟨pr, pk, pn, pi, pb, m, S⟩ := p
  simp only at *
  obtain ⟨x, hx⟩ : ∃ x, r.size = x := ⟨_, rfl⟩
  rw [hx] at hr ⊢
  unfold maxLen at hr
  generalize ze.length = le at *
  generalize zr.length = lr at *
  generalize wtP ⟨pr, pk, pn, pi, pb, m, S⟩ = wp at *
  clear hpr hpb htx hne hnr hb0 HWT
  by_cases h1 : x ≤ l
  case neg =>
    rw [szN_no (by omega)]
    have e1 : IntKind.i64.wrap ((l : Int) - (x : Int)) = (l : Int) - (x : Int) := by rw [IntKind.wrap_i64]; omega
    have n1 : (l : Int) - (x : Int) < 0 := by omega
    go_enter Tryd.func58, Tryd.ntmps58
    go_wp2
    go_ret
    exact ⟨rfl, by rw [← HW0.out]; exact KB0.out⟩
  obtain ⟨l1, hl1⟩ : ∃ l1, l = x + l1 := ⟨l - x, by omega⟩
  have e1 : IntKind.i64.wrap ((l : Int) - (x : Int)) = (l1 : Int) := by rw [IntKind.wrap_i64]; omega
  have n1 : ¬ ((l1 : Int) < 0) := by omega
  have KP1 : Hid _ := KP.out l1 (by omega)
  by_cases h2 : wp ≤ l1
  case neg =>
    rw [szN_no (by omega)]
    rw [szN_no h2] at KP1
    clear hl1
    go_enter Tryd.func58, Tryd.ntmps58
    go_wp2_with fail
    rw [← HW0.out]
    refine Calls.mono KP1.out ?_
    rintro e w1 ⟨rfl, b1⟩
    go_wp2
    go_ret
    exact ⟨rfl, below2 KB0.out b1⟩
  obtain ⟨l2, hl2⟩ : ∃ l2, l1 = wp + l2 := ⟨l1 - wp, by omega⟩
  have n2 : ¬ ((l2 : Int) < 0) := by omega
  rw [szN_yes h2, show l1 - wp = l2 by omega] at KP1
  have KE1 : Hid (∀ W, _) := fun W => KE.out l2 W (by omega)
  by_cases h3 : le ≤ l2
  case neg =>
    rw [szN_no (by omega)]
    rw [szN_no h3] at KE1
    clear hl1 hl2
    go_enter Tryd.func58, Tryd.ntmps58
    go_wp2_with fail
    rw [← HW0.out, ← HA.out]
    refine Calls.mono KP1.out ?_
    rintro e w1 ⟨rfl, b1⟩
    have x11 := (RA.out.below b1 RA.out.lt).cell 11
    simp at x11
    go_wp2_with fail
    refine Calls.mono (KE1.out _) ?_
    rintro e w2 ⟨rfl, hw⟩
    obtain rfl := hw.symm
    clear hw
    go_wp2
    go_ret
    exact ⟨rfl, below2 KB0.out b1⟩
  obtain ⟨l3, hl3⟩ : ∃ l3, l2 = le + l3 := ⟨l2 - le, by omega⟩
  have n3 : ¬ ((l3 : Int) < 0) := by omega
  rw [szN_yes h3, show l2 - le = l3 by omega] at KE1
  have KZ1 : Hid (∀ W, _) := fun W => KZ.out l3 W (by omega)
  by_cases h4 : lr ≤ l3
  case neg =>
    rw [szN_no (by omega)]
    rw [szN_no h4] at KZ1
    clear hl1 hl2 hl3
    go_enter Tryd.func58, Tryd.ntmps58
    go_wp2_with fail
    rw [← HW0.out, ← HA.out]
    refine Calls.mono KP1.out ?_
    rintro e w1 ⟨rfl, b1⟩
    have x11 := (RA.out.below b1 RA.out.lt).cell 11
    have x12 := (RA.out.below b1 RA.out.lt).cell 12
    simp at x11 x12
    go_wp2_with fail
    refine Calls.mono (KE1.out _) ?_
    rintro e w2 ⟨rfl, hw⟩
    obtain rfl := hw.symm
    clear hw
    go_wp2_with fail
    refine Calls.mono (KZ1.out _) ?_
    rintro e w3 ⟨rfl, hw⟩
    obtain rfl := hw.symm
    clear hw
    go_wp2
    go_ret
    exact ⟨rfl, below2 KB0.out b1⟩
  obtain ⟨l4, hl4⟩ : ∃ l4, l3 = lr + l4 := ⟨l3 - lr, by omega⟩
  have n4 : ¬ ((l4 : Int) < 0) := by omega
  rw [szN_yes h4, show l3 - lr = l4 by omega] at KZ1
  rw [szN_yes (by omega), show l - (x + wp + le + lr) = l4 by omega]
  clear hl1 hl2 hl3 hl4
  go_enter Tryd.func58, Tryd.ntmps58
  go_wp2_with fail
  rw [← HW0.out, ← HA.out]
  refine Calls.mono KP1.out ?_
  rintro e w1 ⟨rfl, b1⟩
  have x11 := (RA.out.below b1 RA.out.lt).cell 11
  have x12 := (RA.out.below b1 RA.out.lt).cell 12
  simp at x11 x12
  go_wp2_with fail
  refine Calls.mono (KE1.out _) ?_
  rintro e w2 ⟨rfl, hw⟩
  obtain rfl := hw.symm
  clear hw
  go_wp2_with fail
  refine Calls.mono (KZ1.out _) ?_
  rintro e w3 ⟨rfl, hw⟩
  obtain rfl := hw.symm
  clear hw
  go_wp2
  go_ret
  exact ⟨rfl, below2 KB0.out b1⟩
/-- The same without its memory. -/
structure SlB (s : Sl) : Prop where
  r : s.r.size ≤ maxLen
  pr : s.p.r.size ≤ maxLen
  pb : s.p.b.size ≤ maxLen
  m : s.p.m ≤ maxLen
  tx : ∀ i, i < s.p.m → (s.p.S i).size ≤ maxLen
  ne : s.ze.length ≤ maxLen
  nr : s.zr.length ≤ maxLen
theorem SlB.i {s : Sl} (h : SlB s) {w : World} {a6 : Option Addr} (ht : TxtAt w a6 s.p.m s.p.S) : SlI w s a6 := ⟨h.r, h.pr, h.pb, ⟨ht, h.m, h.tx⟩, h.ne, h.nr⟩
def wtL (n : Nat) (S : Nat → Sl) : Nat := n + tot (fun i => wtS (S i)) n
theorem Tryd.infoSlL : (Tryd.prog.info? 123).map (·.size) = some 13 := by kernel_rfl
set_option maxHeartbeats 4000000 in
theorem szSls_any (a : Option Addr) (n cap : Nat) (S : Nat → Sl) (l : Nat) (w : World) (h : Rd w (slsD n S) (.slice a n cap)) (hl : l ≤ 1048576) (hn : n ≤ maxLen) (hL : ∀ i, i < n → SlB (S i)) :
    Calls Tryd.prog 48 #[.slice a n cap, .int .i64 (l : Int)] w fun e w' => e = .returned (.int .i64 (szN l (wtL n S))) ∧ Below w.heap.size w w' := by
  unfold maxLen at hn
  by_cases h1 : n ≤ l
  · obtain ⟨d, hd⟩ : ∃ d, l - n = d := ⟨_, rfl⟩
    have hw : IntKind.i64.wrap ((l : Int) - (n : Int)) = (d : Int) := by rw [IntKind.wrap_i64]; omega
    have h0 : ¬ ((d : Int) < 0) := by omega
    have KL : Hid (∀ i, i < n → SlB (S i)) := hL
    have KH : Hid (Rd w (slsD n S) (.slice a n cap)) := h
    clear hL h
    go_enter Tryd.func48, Tryd.ntmps48
    go_wp2
    go_loopw [1, 5] (fun p i wr => ∃ c q : Nat, c ≤ n ∧ q ≤ 1048576 ∧ Hid (tot (fun i => wtS (S i)) c + q = d) ∧ p = .int .i64 (q : Int) ∧ i = .int .i64 (c : Int) ∧ Below w.heap.size w wr) (fun _ i _ => n - (intOf i).toNat)
    case atStart => exact ⟨0, d, Nat.zero_le _, by omega, by show 0 + d = d; omega, rfl, rfl, Below.refl _ _⟩
    case round =>
      obtain ⟨c, q, hc, hq, HT, rfl, rfl, hbel⟩ := hrel
      clear hw h0
      by_cases hlt : c < n
      · obtain ⟨b1, f1, y1, p6, p11, p12, q6, q11, q12, rfl, hc1, e1, ht1, he1, hz1⟩ := slot_row (KH.out.below hbel) hlt
        have hti := tot_le (fun i => wtS (S i)) hlt
        have hlti : (c : Int) < (n : Int) := by omega
        have HT' := HT.out
        obtain ⟨lc, HLC⟩ : ∃ x, Hid (wtS (S c) = x) := ⟨_, rfl⟩
        have KTS : Hid (tot (fun i => wtS (S i)) (c + 1) = tot (fun i => wtS (S i)) c + lc) := by rw [← HLC.out]; rfl
        have hti' : tot (fun i => wtS (S i)) c + lc ≤ tot (fun i => wtS (S i)) n := by rw [← HLC.out]; exact hti
        have KZ : Hid (Calls Tryd.prog 58 #[ag13 y1, .int .i64 (q : Int)] wr fun e w' => e = .returned (.int .i64 (szN q lc)) ∧ Below wr.heap.size wr w') := by
          rw [e1, ← HLC.out]
          exact szSl_any (S c) p6 p11 p12 q6 q11 q12 q wr ((KL.out c hlt).i ht1) hq
        obtain ⟨_, x⟩ := one_row (sz := 12) wr (Below.refl _ _) hc1
        have R1 : Hid (wr.rangeAt b1 (f1 + c * 13) [y1 0, y1 1, y1 2, y1 3, y1 4, y1 5, y1 6, y1 7, y1 8, y1 9, y1 10, y1 11, y1 12]) := range13 x
        have KB : Hid (Below w.heap.size w wr) := hbel
        clear hti hc1 e1 ht1 he1 hz1 x hbel
        by_cases h2 : lc ≤ q
        · obtain ⟨q', hq'⟩ : ∃ q', q - lc = q' := ⟨_, rfl⟩
          have h3 : ¬ ((q' : Int) < 0) := by omega
          have HT2 : Hid (tot (fun i => wtS (S i)) (c + 1) + q' = d) := by show _ = _; rw [KTS.out]; omega
          have hq2 : q' ≤ 1048576 := by omega
          rw [szN_yes h2, hq'] at KZ
          clear HT HT' hti' KTS
          go_wp2_with (refine wpList_load_mid (by rfl) 123 _ (by rfl) b1 (f1 + c * 13) (by rfl) _ _ R1.out Tryd.underlying123 (by rfl) Tryd.infoSlL ?_)
          refine Calls.mono KZ.out ?_
          rintro e w1 ⟨rfl, bb⟩
          have KB1 : Hid (Below w.heap.size w w1) := below2 KB.out bb
          clear bb KZ R1
          go_wp2
          go_roundw
          case rel => exact ⟨c + 1, q', by omega, hq2, HT2, rfl, by go_num, KB1.out⟩
          case measure => simp [intOf] <;> omega
        · have HR : Hid (szN l (wtL n S) = -1) := szN_no (by unfold wtL; omega)
          rw [szN_no h2] at KZ
          clear HT HT' hti' KTS
          go_wp2_with (refine wpList_load_mid (by rfl) 123 _ (by rfl) b1 (f1 + c * 13) (by rfl) _ _ R1.out Tryd.underlying123 (by rfl) Tryd.infoSlL ?_)
          refine Calls.mono KZ.out ?_
          rintro e w1 ⟨rfl, bb⟩
          have KB1 : Hid (Below w.heap.size w w1) := below2 KB.out bb
          clear bb KZ R1
          go_wp2
          go_ret
          exact ⟨ret_int HR.out.symm, KB1.out⟩
      · obtain rfl : c = n := by omega
        have HR : Hid (szN l (wtL c S) = (q : Int)) := by
          have := HT.out
          have e : l - (c + tot (fun i => wtS (S i)) c) = q := by omega
          exact (szN_yes (by unfold wtL; omega)).trans (by unfold wtL; rw [e])
        clear KH
        go_wp2
        go_ret
        exact ⟨ret_int HR.out.symm, hbel⟩
  · have h0 : (l : Int) - (n : Int) < 0 := by omega
    have hw : IntKind.i64.wrap ((l : Int) - (n : Int)) = (l : Int) - (n : Int) := by rw [IntKind.wrap_i64]; omega
    have HR : Hid (szN l (wtL n S) = -1) := szN_no (by unfold wtL; omega)
    clear h hL
    go_enter Tryd.func48, Tryd.ntmps48
    go_wp2
    go_ret
    exact ⟨ret_int HR.out.symm, Below.refl _ _⟩
set_option maxHeartbeats 1000000 in
theorem szNd_any (id f : Int) (a : Option Addr) (n cap : Nat) (S : Nat → Sl) (l : Nat) (w : World) (h : Rd w (slsD n S) (.slice a n cap)) (hl : l ≤ 1048576) (hn : n ≤ maxLen) (hL : ∀ i, i < n → SlB (S i)) :
    Calls Tryd.prog 40 #[.agg #[.int .i64 id, .int .i64 f, .slice a n cap], .int .i64 (l : Int)] w fun e w' => e = .returned (.int .i64 (szN l (wtL n S))) ∧ Below w.heap.size w w' := by
  obtain ⟨w0, HW0⟩ : ∃ x, Hid (x = w.alloc (.cells #[.int .i64 id, .int .i64 f, .slice a n cap] 89)) := ⟨_, rfl⟩
  have hb0 : Below w.heap.size w w0 := by rw [HW0.out]; exact (Below.refl _ _).alloc (Nat.le_refl _) _
  have KB0 : Hid (Below w.heap.size w w0) := hb0
  have KZ : Hid _ := szSls_any a n cap S l w0 (h.below hb0) hl hn hL
  clear h hL hb0
  by_cases h1 : wtL n S ≤ l
  · obtain ⟨d, hd⟩ : ∃ d, l - wtL n S = d := ⟨_, rfl⟩
    rw [szN_yes h1, hd] at KZ
    rw [szN_yes h1, hd]
    have h0 : ¬ ((d : Int) < 0) := by omega
    clear h1 hd
    go_enter Tryd.func40, Tryd.ntmps40
    go_wp2_with fail
    rw [← HW0.out]
    refine Calls.mono KZ.out ?_
    rintro e w1 ⟨rfl, b1⟩
    go_wp2
    go_ret
    exact ⟨rfl, below2 KB0.out b1⟩
  · rw [szN_no h1] at KZ
    rw [szN_no h1]
    clear h1
    go_enter Tryd.func40, Tryd.ntmps40
    go_wp2_with fail
    rw [← HW0.out]
    refine Calls.mono KZ.out ?_
    rintro e w1 ⟨rfl, b1⟩
    go_wp2
    go_ret
    exact ⟨rfl, below2 KB0.out b1⟩
end Go.Proofs.YtkcnpkkihbpnmaaDoor
