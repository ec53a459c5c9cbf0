/- Whether an archive is right (ArchiveOk), of both. Conditions: texts and lists of at most 2^20. -/
import Derived.Test.YtpomffkpjldloaaGreatI41
namespace Go.Proofs.YtpomffkpjldloaaGreat
set_option maxRecDepth 2000
open Go.ChangeShapes Go.WideShapes Go.ChangeAt Go.RowKit Go.Sort

noncomputable def arB (f : Int) (n : Nat) (N : Nat → Nd) (zs : List Int) (m ne : Nat) (E : Nat → En) : Bool := ntB f n N zs m && decide (m = 0) && ensB ne E
set_option maxHeartbeats 4000000 in
theorem arcOk_any (f : Int) (a : Option Addr) (n c : Nat) (l : Option Addr) (zs : List Int) (d : Nat) (e : Option Addr) (m g : Nat) (x : Option Addr) (ne cx : Nat) (v5 : Value) (N : Nat → Nd) (E : Nat → En) (w : World) (h1 : Rd w (ndsD n N) (.slice a n c)) (h2 : IntsAt w l zs.length zs) (h3 : Rd w (ensD ne E) (.slice x ne cx)) (hn : n ≤ 1048576) (hz : zs.length ≤ 1048576) (hN : ∀ i, i < n → NdN (N i)) (hne : ne ≤ 1048576) (hE : ∀ i, i < ne → (E i).nm.size ≤ 1048576) :
    Calls Tryz.prog 7 #[arV f (.slice a n c) (.slice l zs.length d) (.slice e m g) (.slice x ne cx) v5] w fun r w' => r = .returned (.bool (arB f n N zs m ne E)) ∧ Below w.heap.size w w' := by
  obtain ⟨A, HA⟩ : ∃ x, Hid (x = w.heap.size) := ⟨_, rfl⟩
  obtain ⟨w0, HW0⟩ : ∃ z, Hid (z = w.alloc (.cells #[.int .i64 f, .slice a n c, .slice l zs.length d, .slice e m g, .slice x ne cx, v5] 40)) := ⟨_, rfl⟩
  have RA : Hid (Row w0 A 40 #[.int .i64 f, .slice a n c, .slice l zs.length d, .slice e m g, .slice x ne cx, v5]) := by show Row _ _ _ _; rw [HW0.out, HA.out]; exact Row.new w _ _
  have hb0 : Below w.heap.size w w0 := by rw [HW0.out]; exact (Below.refl _ _).alloc (Nat.le_refl _) _
  have KB0 : Hid (Below w.heap.size w w0) := hb0
  have K1 : Hid _ := areEns_any x ne cx E w0 (h3.below hb0) hne hE
  have K2 : Hid (∀ W, Below w0.heap.size w0 W → Calls Tryz.prog 18 #[.agg #[.int .i64 f, .slice a n c, .slice l zs.length d, .slice e m g]] W fun r w' => r = .returned (.bool (ntB f n N zs m)) ∧ Below W.heap.size W w') := fun W hW => netOk_any f a n c l zs d e m g N W ((h1.below hb0).below hW) ((h2.below hb0).below hW) hn hz hN
  clear h1 h2 h3 hb0 hN hE
  by_cases hm : m = 0
  case neg =>
    have hm1 : ((m : Int) == 0) = false := by simp; omega
    have HR : Hid (arB f n N zs m ne E = false) := by show _ = _; unfold arB; rw [decide_eq_false hm]; simp
    rw [HR.out]
    clear hm
    go_enter Tryz.func7, Tryz.ntmps7
    go_wp2_with fail
    rw [← HW0.out]
    go_ret
    exact ⟨rfl, KB0.out⟩
  have HM : Hid (m = 0) := hm
  have hm1 : ((m : Int) == 0) = true := by rw [hm]; rfl
  clear hm
  obtain ⟨b1, HB1⟩ : ∃ z, Hid (ensB ne E = z) := ⟨_, rfl⟩
  obtain ⟨b2, HB2⟩ : ∃ z, Hid (ntB f n N zs m = z) := ⟨_, rfl⟩
  have HR : Hid (arB f n N zs m ne E = (b2 && b1)) := by show _ = _; unfold arB; rw [HB1.out, HB2.out, decide_eq_true HM.out]; simp
  rw [HR.out]
  rw [HB1.out] at K1
  rw [HB2.out] at K2
  clear HR HB1 HB2
  cases b1 with
  | false =>
    go_enter Tryz.func7, Tryz.ntmps7
    go_wp2_with fail
    rw [← HW0.out, ← HA.out]
    refine Calls.mono K1.out ?_
    rintro e' w1 ⟨rfl, b1⟩
    have KB1 : Hid (Below w.heap.size w w1) := below2 KB0.out b1
    clear b1
    go_wp2
    go_ret
    exact ⟨by simp, KB1.out⟩
  | true =>
    go_enter Tryz.func7, Tryz.ntmps7
    go_wp2_with fail
    rw [← HW0.out, ← HA.out]
    refine Calls.mono K1.out ?_
    rintro e' w1 ⟨rfl, b1⟩
    have R1 := RA.out.below b1 RA.out.lt
    have x0 := R1.cell 0
    have x1 := R1.cell 1
    have x2 := R1.cell 2
    have x3 := R1.cell 3
    simp at x0 x1 x2 x3
    have KB1 : Hid (Below w.heap.size w w1) := below2 KB0.out b1
    have K3 : Hid _ := K2.out w1 b1
    clear b1 R1
    go_wp2_with fail
    refine Calls.mono K3.out ?_
    rintro e' w2 ⟨rfl, b2'⟩
    have KB2 : Hid (Below w.heap.size w w2) := below2 KB1.out b2'
    clear b2'
    cases b2
    all_goals
      go_wp2
      go_ret
      exact ⟨by simp, KB2.out⟩
set_option maxHeartbeats 8000000 in
theorem sArcOk_any (f : Int) (a : Option Addr) (n c : Nat) (l : Option Addr) (zs : List Int) (d : Nat) (e : Option Addr) (m g : Nat) (x : Option Addr) (ne cx : Nat) (v5 : Value) (N : Nat → Nd) (E : Nat → En) (w : World) (h1 : Rd w (ndsD n N) (.slice a n c)) (h2 : IntsAt w l zs.length zs) (h3 : Rd w (ensD ne E) (.slice x ne cx)) (hn : n ≤ 1048576) (hz : zs.length ≤ 1048576) (hN : ∀ i, i < n → NdN (N i)) (hne : ne ≤ 1048576) (hE : ∀ i, i < ne → (E i).nm.size ≤ 1048576) :
    Calls Tryz.prog 5 #[arV f (.slice a n c) (.slice l zs.length d) (.slice e m g) (.slice x ne cx) v5] w fun r w' => r = .returned (.bool (arB f n N zs m ne E)) ∧ Below w.heap.size w w' := by
  obtain ⟨A, HA⟩ : ∃ x, Hid (x = w.heap.size) := ⟨_, rfl⟩
  obtain ⟨w0, HW0⟩ : ∃ z, Hid (z = w.alloc (.cells #[.int .i64 f, .slice a n c, .slice l zs.length d, .slice e m g, .slice x ne cx, v5] 40)) := ⟨_, rfl⟩
  have RA : Hid (Row w0 A 40 #[.int .i64 f, .slice a n c, .slice l zs.length d, .slice e m g, .slice x ne cx, v5]) := by show Row _ _ _ _; rw [HW0.out, HA.out]; exact Row.new w _ _
  have hb0 : Below w.heap.size w w0 := by rw [HW0.out]; exact (Below.refl _ _).alloc (Nat.le_refl _) _
  have KB0 : Hid (Below w.heap.size w w0) := hb0
  have KH : Hid (Rd w0 (ensD ne E) (.slice x ne cx)) := h3.below hb0
  have KS : Hid (∀ i, i < ne → (E i).nm.size ≤ 1048576) := hE
  have KN : Hid (∀ (s : ByteArray) W, s.size ≤ 1048576 → Calls Tryz.prog 12 #[.string s] W fun e w' => e = .returned (.bool (nmB s)) ∧ w' = W) := fun s W hs => sName_any s W hs
  have K2 : Hid (∀ W, Below w0.heap.size w0 W → Calls Tryz.prog 13 #[.agg #[.int .i64 f, .slice a n c, .slice l zs.length d, .slice e m g]] W fun r w' => r = .returned (.bool (ntB f n N zs m)) ∧ Below W.heap.size W w') := fun W hW => sNetOk_any f a n c l zs d e m g N W ((h1.below hb0).below hW) ((h2.below hb0).below hW) hn hz hN
  have HNo : Hid (¬ EnsP ne E → arB f n N zs m ne E = false) := fun h => by unfold arB; rw [ensB_no h]; simp
  clear h1 h2 h3 hb0 hN hE
  go_enter Tryz.func5, Tryz.ntmps5
  go_wp2_with fail
  rw [← HW0.out, ← HA.out]
  go_loopw [3] (fun vi wr => ∃ k : Nat, k ≤ ne ∧ vi = .int .i64 (k : Int) ∧ Hid (EnK k E ∧ Below w0.heap.size w0 wr)) (fun vi _ => ne - (intOf vi).toNat)
  case atStart => exact ⟨0, Nat.zero_le _, rfl, EnK.zero E, Below.refl _ _⟩
  case round =>
    obtain ⟨k, hk, rfl, HJ⟩ := hrel
    have RAr := RA.out.below HJ.out.2 RA.out.lt
    have z4 := RAr.cell 4
    simp at z4
    by_cases hlt : k < ne
    · have hki : (k : Int) < (ne : Int) := by omega
      obtain ⟨b1, f1, rfl, ⟨y0, _, _⟩, _⟩ := entry_at (KH.out.below HJ.out.2) hlt
      obtain ⟨nm, HE⟩ : ∃ z, Hid ((E k).nm = z) := ⟨_, rfl⟩
      rw [HE.out] at y0
      have hnm : nm.size ≤ 1048576 := by have := KS.out k hlt; rw [HE.out] at this; exact this
      have X4 : ∀ d os, (grow (redrawn wr d) os).cell? ⟨A, 4, none⟩ = some (.slice (some ⟨b1, f1, none⟩) ne cx) := fun d os => cell_regrown z4 d os
      have X0 : ∀ d os, (grow (redrawn wr d) os).cell? ⟨b1, f1 + k * 3, none⟩ = some (.string nm) := fun d os => cell_regrown y0 d os
      obtain ⟨c1, HC1⟩ : ∃ x, Hid (nmB nm = x) := ⟨_, rfl⟩
      have N1 : ∀ d os, Calls Tryz.prog 12 #[.string nm] (grow (redrawn wr d) os) fun e w' => e = .returned (.bool c1) ∧ ∃ p : Regrown, w' = grow (redrawn wr p.d) p.os := fun d os => Calls.regrown_of ((KN.out nm (grow (redrawn wr d) os) hnm).mono fun e w' h => ⟨by rw [h.1, HC1.out], by rw [h.2]; exact Below.refl _ _⟩)
      have HN1 : c1 = false → Hid (arB f n N zs m ne E = false) := fun e => HNo.out fun hp => by
        have h1 := nmB_yes (hp.nm k hlt)
        rw [HE.out] at h1
        have h2 := HC1.out
        rw [e] at h2
        rw [h2] at h1
        cases h1
      have HYs : c1 = true → NmP (E k).nm := fun e => Classical.byContradiction fun hn' => by
        have h1 := nmB_no hn'
        rw [HE.out] at h1
        have h2 := HC1.out
        rw [e] at h2
        rw [h2] at h1
        cases h1
      have KBr : Hid (Below w.heap.size w wr) := below2 KB0.out HJ.out.2
      clear RAr
      cases c1 with
      | false =>
        have HR := HN1 rfl
        clear HN1 HYs y0
        go_wp2_with fail
        refine wp_region_quiet_below (by kernel_rfl) (by kernel_rfl) ?_
        repeat (go_big_quiet_step (first | (with_reducible exact N1 _ _)))
        refine wpQuiet_nil ?_
        intro _ hw'
        obtain ⟨⟨dq, osq⟩, hw''⟩ := hw'
        subst hw''
        go_wp2
        go_ret
        exact ⟨ret_bool HR.out.symm, below2 KBr.out (below_regrown wr dq osq)⟩
      | true =>
        have hyes := HYs rfl
        cases k with
        | zero =>
          have HK : Hid (EnK 1 E) := EnK.one hyes
          have X0' : ∀ d os, (grow (redrawn wr d) os).cell? ⟨b1, f1, none⟩ = some (.string nm) := fun d os => by have := X0 d os; rw [Nat.zero_mul, Nat.add_zero] at this; exact this
          clear HN1 HYs hyes y0
          go_wp2_with fail
          refine wp_region_quiet_below (by kernel_rfl) (by kernel_rfl) ?_
          repeat (go_big_quiet_step (first | (with_reducible exact N1 _ _)))
          refine wpQuiet_nil ?_
          intro _ hw'
          obtain ⟨⟨dq, osq⟩, hw''⟩ := hw'
          subst hw''
          have HB9 : Hid (EnK 1 E ∧ Below w0.heap.size w0 (grow (redrawn wr dq) osq)) := ⟨HK.out, below2 HJ.out.2 (below_regrown wr dq osq)⟩
          clear z4
          go_wp2
          go_roundw
          case rel => exact ⟨1, by omega, by go_num, HB9⟩
          case measure => simp [intOf]; omega
        | succ k =>
          obtain ⟨_, _, e0, ⟨q0, _, _⟩, _⟩ := entry_at (KH.out.below HJ.out.2) (show k < ne by omega)
          cases e0
          obtain ⟨pn, HPN⟩ : ∃ x, Hid ((E k).nm = x) := ⟨_, rfl⟩
          rw [HPN.out] at q0
          have Y0 : ∀ d os, (grow (redrawn wr d) os).cell? ⟨b1, f1 + k * 3, none⟩ = some (.string pn) := fun d os => cell_regrown q0 d os
          obtain ⟨c3, HC3⟩ : ∃ x, Hid (Op.bytesLess nm.toList pn.toList = x) := ⟨_, rfl⟩
          obtain ⟨c4, HC4⟩ : ∃ x, Hid ((nm.toList == pn.toList) = x) := ⟨_, rfl⟩
          have hc3 := HC3.out
          have hc4 := HC4.out
          have HT : Hid ((!Op.bytesLess pn.toList nm.toList) = (c3 || c4)) := by show _ = _; rw [bl_total, HC3.out, HC4.out]
          have HR : (c3 || c4) = true → Hid (arB f n N zs m ne E = false) := fun hor => HNo.out fun hp => by
            have h1 := hp.up k (by omega)
            rw [HPN.out, HE.out] at h1
            have h2 : Op.bytesLess pn.toList nm.toList = true := h1
            have h3 := HT.out
            rw [h2, hor] at h3
            cases h3
          have HK : (c3 || c4) = false → Hid (EnK (k + 1 + 1) E) := fun hor => HJ.out.1.next hyes (by
            rw [HPN.out, HE.out]
            have h3 := HT.out
            rw [hor] at h3
            show Op.bytesLess pn.toList nm.toList = true
            simpa using h3)
          clear HN1 HYs hyes y0 q0 HT
          cases c3
          case false =>
            cases c4
            case false =>
              have HK' := HK rfl
              clear HR HK
              go_wp2_with fail
              refine wp_region_quiet_below (by kernel_rfl) (by kernel_rfl) ?_
              repeat (go_big_quiet_step (first | (with_reducible exact N1 _ _)))
              refine wpQuiet_nil ?_
              intro _ hw'
              obtain ⟨⟨dq, osq⟩, hw''⟩ := hw'
              subst hw''
              have HB9 : Hid (EnK (k + 1 + 1) E ∧ Below w0.heap.size w0 (grow (redrawn wr dq) osq)) := ⟨HK'.out, below2 HJ.out.2 (below_regrown wr dq osq)⟩
              clear z4
              go_wp2
              go_roundw
              case rel => exact ⟨k + 1 + 1, by omega, by go_num, HB9⟩
              case measure => simp [intOf]; omega
            case true =>
              have HR' := HR rfl
              clear HR HK
              go_wp2_with fail
              refine wp_region_quiet_below (by kernel_rfl) (by kernel_rfl) ?_
              repeat (go_big_quiet_step (first | (with_reducible exact N1 _ _)))
              refine wpQuiet_nil ?_
              intro _ hw'
              obtain ⟨⟨dq, osq⟩, hw''⟩ := hw'
              subst hw''
              go_wp2
              go_ret
              exact ⟨ret_bool HR'.out.symm, below2 KBr.out (below_regrown wr dq osq)⟩
          case true =>
            have HR' := HR (by simp)
            clear HR HK
            go_wp2_with fail
            refine wp_region_quiet_below (by kernel_rfl) (by kernel_rfl) ?_
            repeat (go_big_quiet_step (first | (with_reducible exact N1 _ _)))
            refine wpQuiet_nil ?_
            intro _ hw'
            obtain ⟨⟨dq, osq⟩, hw''⟩ := hw'
            subst hw''
            go_wp2
            go_ret
            exact ⟨ret_bool HR'.out.symm, below2 KBr.out (below_regrown wr dq osq)⟩
    · obtain rfl : k = ne := by omega
      have z0 := RAr.cell 0
      have z1 := RAr.cell 1
      have z2 := RAr.cell 2
      have z3 := RAr.cell 3
      simp at z0 z1 z2 z3
      have K3 : Hid _ := K2.out wr HJ.out.2
      obtain ⟨b2, HB2⟩ : ∃ z, Hid (ntB f n N zs m = z) := ⟨_, rfl⟩
      obtain ⟨b3, HB3⟩ : ∃ z, Hid (decide (m = 0) = z) := ⟨_, rfl⟩
      obtain ⟨b4, HB4⟩ : ∃ z, Hid (decide (k ≤ 30) = z) := ⟨_, rfl⟩
      have HR : Hid (arB f n N zs m k E = (b2 && b3 && b4)) := by
        show _ = _
        unfold arB
        rw [HB2.out, HB3.out]
        have : ensB k E = b4 := by
          by_cases h30 : k ≤ 30
          · rw [ensB_yes ⟨HJ.out.1.1, HJ.out.1.2, h30⟩, ← HB4.out, decide_eq_true h30]
          · rw [ensB_no (fun hp => h30 hp.len), ← HB4.out, decide_eq_false h30]
        rw [this]
      rw [HB2.out] at K3
      have hm1 : ((m : Int) == 0) = b3 := by
        rw [← HB3.out]
        by_cases hm : m = 0
        · subst hm; rfl
        · rw [decide_eq_false hm]; simp; omega
      have h30 : decide ((k : Int) ≤ 30) = b4 := by
        rw [← HB4.out]
        by_cases hm : k ≤ 30
        · rw [decide_eq_true hm]; exact decide_eq_true (by omega)
        · rw [decide_eq_false hm]; exact decide_eq_false (by omega)
      have KBr : Hid (Below w.heap.size w wr) := below2 KB0.out HJ.out.2
      have HRr : Hid (Row wr A 40 #[.int .i64 f, .slice a n c, .slice l zs.length d, .slice e m g, .slice x k cx, v5]) := RAr
      clear RAr HB2 HB3 HB4 HNo
      go_wp2_with fail
      refine Calls.mono K3.out ?_
      rintro e' w2 ⟨rfl, b2'⟩
      have KB2 : Hid (Below w.heap.size w w2) := below2 KBr.out b2'
      have R2 := HRr.out.below b2' HRr.out.lt
      have t3 := R2.cell 3
      have t4 := R2.cell 4
      simp at t3 t4
      clear b2' R2 z0 z1 z2 z3 z4
      cases b2
      case false =>
        go_wp2
        go_ret
        exact ⟨ret_bool (HR.out.trans (by simp)).symm, KB2.out⟩
      case true =>
        cases b3
        case false =>
          go_wp2
          go_ret
          exact ⟨ret_bool (HR.out.trans (by simp)).symm, KB2.out⟩
        case true =>
          cases b4
          all_goals
            go_wp2
            go_ret
            exact ⟨ret_bool (HR.out.trans (by simp)).symm, KB2.out⟩
end Go.Proofs.YtpomffkpjldloaaGreat
