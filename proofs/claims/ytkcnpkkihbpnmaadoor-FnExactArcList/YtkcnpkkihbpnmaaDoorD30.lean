/- Lists of sayings: counted and copied. Conditions: lists of at most 2^20. Written by a program. -/
import Derived.Test.YtkcnpkkihbpnmaaDoorD19
import Derived.Test.YtkcnpkkihbpnmaaDoorD27
namespace Go.Proofs.YtkcnpkkihbpnmaaDoor
set_option maxRecDepth 2000
open Go.ChangeShapes Go.WideShapes Go.ChangeAt Go.RowKit

structure SyB (s : Sy) : Prop where
  r : s.r.size ≤ maxLen
  pr : s.p.r.size ≤ maxLen
  pb : s.p.b.size ≤ maxLen
  m : s.p.m ≤ maxLen
  tx : ∀ i, i < s.p.m → (s.p.S i).size ≤ maxLen
def wtY (s : Sy) : Nat := s.r.size + wtP s.p
def wtYs (n : Nat) (N : Nat → Sy) : Nat := n + tot (fun i => wtY (N i)) n
theorem Tryd.infoSyL : (Tryd.prog.info? 95).map (·.size) = some 10 := by kernel_rfl
theorem Tryd.infoSy2 : (Tryd.prog.info? 102).map (·.size) = some 10 := by kernel_rfl
theorem say_at {w : World} {n : Nat} {N : Nat → Sy} {a : Option Addr} {cap : Nat} (h : Rd w (sysD n N) (.slice a n cap)) {c : Nat} (hc : c < n) :
    ∃ (b off : Nat) (an : Option Addr) (cn : Nat), a = some ⟨b, off, none⟩ ∧ w.rangeAt b (off + c * 10) [.int .i64 (N c).k, .int .i64 (N c).f, .int .i64 (N c).t, .string (N c).r, .string (N c).p.r, .int .i64 (N c).p.k, .int .i64 (N c).p.n, .int .i64 (N c).p.i, .string (N c).p.b, .slice an (N c).p.m cn] ∧ TxtAt w an (N c).p.m (N c).p.S := by
  obtain ⟨b, off, y, an, cn, ea, hy, e, ht⟩ := say_row h hc
  obtain ⟨_, x⟩ := one_row (sz := 9) w (Below.refl _ _) hy
  have R := range10 x
  have h' := congrArg (fun v => match v with | Value.agg a => a.toList | _ => []) e
  have h'' : [y 0, y 1, y 2, y 3, y 4, y 5, y 6, y 7, y 8, y 9] = [.int .i64 (N c).k, .int .i64 (N c).f, .int .i64 (N c).t, .string (N c).r, .string (N c).p.r, .int .i64 (N c).p.k, .int .i64 (N c).p.n, .int .i64 (N c).p.i, .string (N c).p.b, .slice an (N c).p.m cn] := h'
  rw [h''] at R
  exact ⟨b, off, an, cn, ea, R, ht⟩
set_option maxHeartbeats 2000000 in
theorem szSy_any (s : Sy) (an : Option Addr) (cn l : Nat) (w : World) (h : TxtAt w an s.p.m s.p.S) (hB : SyB s) (hl : l ≤ 1048576) :
    Calls Tryd.prog 41 #[syV s (.slice an s.p.m cn), .int .i64 (l : Int)] w fun e w' => e = .returned (.int .i64 (szN l (wtY s))) ∧ Below w.heap.size w w' := by
  obtain ⟨A, HA⟩ : ∃ x, Hid (x = w.heap.size) := ⟨_, rfl⟩
  obtain ⟨w0, HW0⟩ : ∃ x, Hid (x = w.alloc (.cells (syC s (.slice an s.p.m cn)) 95)) := ⟨_, rfl⟩
  have hb0 : Below w.heap.size w w0 := by rw [HW0.out]; exact (Below.refl _ _).alloc (Nat.le_refl _) _
  have KB0 : Hid (Below w.heap.size w w0) := hb0
  have KP : Hid (∀ l1 : Nat, l1 ≤ 1048576 → Calls Tryd.prog 49 #[pcV s.p.r s.p.k s.p.n s.p.i s.p.b (.slice an s.p.m cn), .int .i64 (l1 : Int)] w0 fun e w' => e = .returned (.int .i64 (szN l1 (wtP s.p))) ∧ Below w0.heap.size w0 w') := fun l1 h1 => by
    rw [← szPc_eq]
    exact szPc_any s.p.r s.p.k s.p.n s.p.i s.p.b an s.p.m cn s.p.S l1 w0 (h.below hb0) h1 hB.m hB.tx hB.pr hB.pb
  have HWT : Hid (wtY s = s.r.size + wtP s.p) := rfl
  rw [HWT.out]
  obtain ⟨x, HX⟩ : ∃ x, Hid (s.r.size = x) := ⟨_, rfl⟩
  obtain ⟨wp, HP⟩ : ∃ x, Hid (wtP s.p = x) := ⟨_, rfl⟩
  have hx := hB.r
  unfold maxLen at hx
  rw [HX.out] at hx
  rw [HX.out, HP.out]
  rw [HP.out] at KP
  have hsz : (s.r.size : Int) = (x : Int) := by rw [HX.out]
  clear h hB hb0 HWT
  by_cases h1 : x ≤ l
  case neg =>
    rw [szN_no (by omega)]
    have e1 : IntKind.i64.wrap ((l : Int) - (x : Int)) = (l : Int) - (x : Int) := by rw [IntKind.wrap_i64]; omega
    have h0 : (l : Int) - (x : Int) < 0 := by omega
    go_enter Tryd.func41, Tryd.ntmps41
    go_wp2
    rw [← HW0.out]
    go_ret
    exact ⟨rfl, KB0.out⟩
  obtain ⟨l1, HL1⟩ : ∃ q, Hid (l - x = q) := ⟨_, rfl⟩
  have hl1 := HL1.out
  have e1 : IntKind.i64.wrap ((l : Int) - (x : Int)) = (l1 : Int) := by rw [IntKind.wrap_i64]; omega
  have n1 : ¬ ((l1 : Int) < 0) := by omega
  have KP1 : Hid _ := KP.out l1 (by omega)
  by_cases h2 : wp ≤ l1
  · obtain ⟨l2, HL2⟩ : ∃ q, Hid (l1 - wp = q) := ⟨_, rfl⟩
    have hl2 := HL2.out
    have n2 : ¬ ((l2 : Int) < 0) := by omega
    have HR : Hid (szN l (x + wp) = (l2 : Int)) := by show _ = _; rw [szN_yes (by omega)]; congr 1; omega
    rw [szN_yes h2, HL2.out] at KP1
    rw [HR.out]
    clear h1 h2 hl1 hl2 KP
    go_enter Tryd.func41, Tryd.ntmps41
    go_wp2_with fail
    rw [← HW0.out]
    refine Calls.mono KP1.out ?_
    rintro e w1 ⟨rfl, b1⟩
    go_wp2
    go_ret
    exact ⟨rfl, below2 KB0.out b1⟩
  · have HR : Hid (szN l (x + wp) = -1) := szN_no (by omega)
    rw [szN_no h2] at KP1
    rw [HR.out]
    clear h1 h2 hl1 KP
    go_enter Tryd.func41, Tryd.ntmps41
    go_wp2_with fail
    rw [← HW0.out]
    refine Calls.mono KP1.out ?_
    rintro e w1 ⟨rfl, b1⟩
    go_wp2
    go_ret
    exact ⟨rfl, below2 KB0.out b1⟩
set_option maxHeartbeats 4000000 in
theorem szSys_any (a : Option Addr) (n cap : Nat) (N : Nat → Sy) (l : Nat) (w : World) (h : Rd w (sysD n N) (.slice a n cap)) (hl : l ≤ 1048576) (hn : n ≤ maxLen) (hL : ∀ i, i < n → SyB (N i)) :
    Calls Tryd.prog 26 #[.slice a n cap, .int .i64 (l : Int)] w fun e w' => e = .returned (.int .i64 (szN l (wtYs n N))) ∧ Below w.heap.size w w' := by
  unfold maxLen at hn
  by_cases h1 : n ≤ l
  · obtain ⟨d, hd⟩ : ∃ d, l - n = d := ⟨_, rfl⟩
    have hw : IntKind.i64.wrap ((l : Int) - (n : Int)) = (d : Int) := by rw [IntKind.wrap_i64]; omega
    have h0 : ¬ ((d : Int) < 0) := by omega
    have KL : Hid (∀ i, i < n → SyB (N i)) := hL
    have KH : Hid (Rd w (sysD n N) (.slice a n cap)) := h
    clear hL h
    go_enter Tryd.func26, Tryd.ntmps26
    go_wp2
    go_loopw [1, 5] (fun p i wr => ∃ c q : Nat, c ≤ n ∧ q ≤ 1048576 ∧ Hid (tot (fun i => wtY (N i)) c + q = d) ∧ p = .int .i64 (q : Int) ∧ i = .int .i64 (c : Int) ∧ Below w.heap.size w wr) (fun _ i _ => n - (intOf i).toNat)
    case atStart => exact ⟨0, d, Nat.zero_le _, by omega, by show 0 + d = d; omega, rfl, rfl, Below.refl _ _⟩
    case round =>
      obtain ⟨c, q, hc, hq, HT, rfl, rfl, hbel⟩ := hrel
      clear hw h0
      by_cases hlt : c < n
      · obtain ⟨b1, f1, an, cn, rfl, R1', hr1⟩ := say_at (KH.out.below hbel) hlt
        have hti := tot_le (fun i => wtY (N i)) hlt
        have hlti : (c : Int) < (n : Int) := by omega
        have HT' := HT.out
        obtain ⟨lc, HLC⟩ : ∃ x, Hid (wtY (N c) = x) := ⟨_, rfl⟩
        have KTS : Hid (tot (fun i => wtY (N i)) (c + 1) = tot (fun i => wtY (N i)) c + lc) := by rw [← HLC.out]; rfl
        have hti' : tot (fun i => wtY (N i)) c + lc ≤ tot (fun i => wtY (N i)) n := by rw [← HLC.out]; exact hti
        have KZ : Hid (Calls Tryd.prog 41 #[.agg #[.int .i64 (N c).k, .int .i64 (N c).f, .int .i64 (N c).t, .string (N c).r, .string (N c).p.r, .int .i64 (N c).p.k, .int .i64 (N c).p.n, .int .i64 (N c).p.i, .string (N c).p.b, .slice an (N c).p.m cn], .int .i64 (q : Int)] wr fun e w' => e = .returned (.int .i64 (szN q lc)) ∧ Below wr.heap.size wr w') := by
          rw [← HLC.out]
          exact szSy_any (N c) an cn q wr hr1 (KL.out c hlt) hq
        have R1 : Hid (wr.rangeAt b1 (f1 + c * 10) [.int .i64 (N c).k, .int .i64 (N c).f, .int .i64 (N c).t, .string (N c).r, .string (N c).p.r, .int .i64 (N c).p.k, .int .i64 (N c).p.n, .int .i64 (N c).p.i, .string (N c).p.b, .slice an (N c).p.m cn]) := R1'
        have KB : Hid (Below w.heap.size w wr) := hbel
        clear hti R1' hr1 hbel
        by_cases h2 : lc ≤ q
        · obtain ⟨q', hq'⟩ : ∃ q', q - lc = q' := ⟨_, rfl⟩
          have h3 : ¬ ((q' : Int) < 0) := by omega
          have HT2 : Hid (tot (fun i => wtY (N i)) (c + 1) + q' = d) := by show _ = _; rw [KTS.out]; omega
          have hq2 : q' ≤ 1048576 := by omega
          rw [szN_yes h2, hq'] at KZ
          clear HT HT' hti' KTS
          go_wp2_with (refine wpList_load_mid (by rfl) 95 _ (by rfl) b1 (f1 + c * 10) (by rfl) [.int .i64 (N c).k, .int .i64 (N c).f, .int .i64 (N c).t, .string (N c).r, .string (N c).p.r, .int .i64 (N c).p.k, .int .i64 (N c).p.n, .int .i64 (N c).p.i, .string (N c).p.b, .slice an (N c).p.m cn] _ ?_ Tryd.underlying95 (by rfl) Tryd.infoSyL ?_; exact R1.out)
          refine Calls.mono KZ.out ?_
          rintro e w1 ⟨rfl, bb⟩
          have KB1 : Hid (Below w.heap.size w w1) := below2 KB.out bb
          clear bb KZ R1
          go_wp2
          go_roundw
          case rel => exact ⟨c + 1, q', by omega, hq2, HT2, rfl, by go_num, KB1.out⟩
          case measure => simp [intOf] <;> omega
        · have HR : Hid (szN l (wtYs n N) = -1) := szN_no (by unfold wtYs; omega)
          rw [szN_no h2] at KZ
          clear HT HT' hti' KTS
          go_wp2_with (refine wpList_load_mid (by rfl) 95 _ (by rfl) b1 (f1 + c * 10) (by rfl) [.int .i64 (N c).k, .int .i64 (N c).f, .int .i64 (N c).t, .string (N c).r, .string (N c).p.r, .int .i64 (N c).p.k, .int .i64 (N c).p.n, .int .i64 (N c).p.i, .string (N c).p.b, .slice an (N c).p.m cn] _ ?_ Tryd.underlying95 (by rfl) Tryd.infoSyL ?_; exact R1.out)
          refine Calls.mono KZ.out ?_
          rintro e w1 ⟨rfl, bb⟩
          have KB1 : Hid (Below w.heap.size w w1) := below2 KB.out bb
          clear bb KZ R1
          go_wp2
          go_ret
          exact ⟨ret_int HR.out.symm, KB1.out⟩
      · obtain rfl : c = n := by omega
        have HR : Hid (szN l (wtYs c N) = (q : Int)) := by
          have := HT.out
          have e : l - (c + tot (fun i => wtY (N i)) c) = q := by omega
          exact (szN_yes (by unfold wtYs; omega)).trans (by unfold wtYs; rw [e])
        clear KH
        go_wp2
        go_ret
        exact ⟨ret_int HR.out.symm, hbel⟩
  · have h0 : (l : Int) - (n : Int) < 0 := by omega
    have hw : IntKind.i64.wrap ((l : Int) - (n : Int)) = (l : Int) - (n : Int) := by rw [IntKind.wrap_i64]; omega
    have HR : Hid (szN l (wtYs n N) = -1) := szN_no (by unfold wtYs; omega)
    clear h hL
    go_enter Tryd.func26, Tryd.ntmps26
    go_wp2
    go_ret
    exact ⟨ret_int HR.out.symm, Below.refl _ _⟩
set_option maxHeartbeats 4000000 in
theorem toSy_any (s : Sy) (an : Option Addr) (cn : Nat) (w : World) (h : TxtAt w an s.p.m s.p.S) (hm : s.p.m ≤ 1048576) :
    Calls Tryd.prog 43 #[syV s (.slice an s.p.m cn)] w fun e w' => ∃ g, e = .returned (syV s (.slice (some ⟨g, 0, none⟩) s.p.m s.p.m)) ∧ Ow w' w.heap.size (txD s.p.m s.p.S) (.slice (some ⟨g, 0, none⟩) s.p.m s.p.m) (fun x => x = g) ∧ w.heap.size ≤ g ∧ g < w'.heap.size ∧ Below w.heap.size w w' := by
  obtain ⟨A, HA⟩ : ∃ x, Hid (x = w.heap.size) := ⟨_, rfl⟩
  obtain ⟨D, HD⟩ : ∃ x, Hid (x = w.heap.size + 1) := ⟨_, rfl⟩
  obtain ⟨V, HV⟩ : ∃ x, Hid (x = w.heap.size + 1 + 1) := ⟨_, rfl⟩
  obtain ⟨w0, HW0⟩ : ∃ x, Hid (x = ((w.alloc (.cells (syC s (.slice an s.p.m cn)) 95)).alloc (.cells #[.int .i64 0, .int .i64 0, .int .i64 0, .string ⟨#[]⟩, .string ⟨#[]⟩, .int .i64 0, .int .i64 0, .int .i64 0, .string ⟨#[]⟩, .slice none 0 0] 102)).alloc (.cells #[.int .i64 s.k, .int .i64 s.f, .int .i64 s.t, .string s.r, .string ⟨#[]⟩, .int .i64 0, .int .i64 0, .int .i64 0, .string ⟨#[]⟩, .slice none 0 0] 102)) := ⟨_, rfl⟩
  have RD : Hid (Row w0 D 102 #[.int .i64 0, .int .i64 0, .int .i64 0, .string ⟨#[]⟩, .string ⟨#[]⟩, .int .i64 0, .int .i64 0, .int .i64 0, .string ⟨#[]⟩, .slice none 0 0]) := by
    show Row _ _ _ _
    rw [HW0.out, HD.out]
    have := Row.new (w.alloc (.cells (syC s (.slice an s.p.m cn)) 95)) #[.int .i64 0, .int .i64 0, .int .i64 0, .string ⟨#[]⟩, .string ⟨#[]⟩, .int .i64 0, .int .i64 0, .int .i64 0, .string ⟨#[]⟩, .slice none 0 0] 102
    exact Row.alloc (by simpa using this) _
  have RV : Hid (Row w0 V 102 #[.int .i64 s.k, .int .i64 s.f, .int .i64 s.t, .string s.r, .string ⟨#[]⟩, .int .i64 0, .int .i64 0, .int .i64 0, .string ⟨#[]⟩, .slice none 0 0]) := by
    show Row _ _ _ _
    rw [HW0.out, HV.out]
    have := Row.new ((w.alloc (.cells (syC s (.slice an s.p.m cn)) 95)).alloc (.cells #[.int .i64 0, .int .i64 0, .int .i64 0, .string ⟨#[]⟩, .string ⟨#[]⟩, .int .i64 0, .int .i64 0, .int .i64 0, .string ⟨#[]⟩, .slice none 0 0] 102)) #[.int .i64 s.k, .int .i64 s.f, .int .i64 s.t, .string s.r, .string ⟨#[]⟩, .int .i64 0, .int .i64 0, .int .i64 0, .string ⟨#[]⟩, .slice none 0 0] 102
    simpa using this
  have hb0 : Below w.heap.size w w0 := by rw [HW0.out]; exact (((Below.refl _ _).alloc (Nat.le_refl _) _).alloc (by simp) _).alloc (by simp; omega) _
  have KB0 : Hid (Below w.heap.size w w0) := hb0
  have HL : Hid (V ≠ D ∧ w.heap.size ≤ D ∧ w.heap.size ≤ V ∧ V < w0.heap.size ∧ D < w0.heap.size) := ⟨by have := HV.out; have := HD.out; omega, by have := HD.out; omega, by have := HV.out; omega, RV.out.lt, RD.out.lt⟩
  have KT : Hid _ := toPc_any s.p.r s.p.k s.p.n s.p.i s.p.b an s.p.m cn s.p.S w0 (h.below hb0) hm
  clear h hb0
  go_enter Tryd.func43, Tryd.ntmps43
  go_wp2_with fail
  rw [← HW0.out, ← HV.out, ← HD.out, ← HA.out]
  refine Calls.mono KT.out ?_
  rintro e w2 ⟨g, rfl, O2, b2⟩
  have RV2 := RV.out.below b2 RV.out.lt
  have RD2 := RD.out.below b2 RD.out.lt
  have y4 := RV2.cell 4
  have f4 := RV2.free 4
  have y5 := RV2.cell 5
  have f5 := RV2.free 5
  have y6 := RV2.cell 6
  have f6 := RV2.free 6
  have y7 := RV2.cell 7
  have f7 := RV2.free 7
  have y8 := RV2.cell 8
  have f8 := RV2.free 8
  have y9 := RV2.cell 9
  have f9 := RV2.free 9
  simp at y4 y5 y6 y7 y8 y9
  obtain ⟨w3, HW3⟩ : ∃ x, Hid (x = ((((((w2.setCell ⟨V, 4, none⟩ (.string s.p.r)).setCell ⟨V, 5, none⟩ (.int .i64 s.p.k)).setCell ⟨V, 6, none⟩ (.int .i64 s.p.n)).setCell ⟨V, 7, none⟩ (.int .i64 s.p.i)).setCell ⟨V, 8, none⟩ (.string s.p.b)).setCell ⟨V, 9, none⟩ (.slice (some ⟨g, 0, none⟩) s.p.m s.p.m))) := ⟨_, rfl⟩
  have l2 := World.ownsRow.lt O2 g rfl
  have K3 : Hid (Row w3 V 102 (syC s (.slice (some ⟨g, 0, none⟩) s.p.m s.p.m)) ∧ Row w3 D 102 #[.int .i64 0, .int .i64 0, .int .i64 0, .string ⟨#[]⟩, .string ⟨#[]⟩, .int .i64 0, .int .i64 0, .int .i64 0, .string ⟨#[]⟩, .slice none 0 0] ∧ OwnT w3 w0.heap.size (some ⟨g, 0, none⟩) s.p.m s.p.m s.p.S ∧ Below w.heap.size w w3) := by
    rw [HW3.out]
    exact ⟨(((((RV2.set 4 _).set 5 _).set 6 _).set 7 _).set 8 _).set 9 _, (((((RD2.other 4 _ (Ne.symm HL.out.1)).other 5 _ (Ne.symm HL.out.1)).other 6 _ (Ne.symm HL.out.1)).other 7 _ (Ne.symm HL.out.1)).other 8 _ (Ne.symm HL.out.1)).other 9 _ (Ne.symm HL.out.1), (((((O2.setFar HL.out.2.2.2.1).setFar HL.out.2.2.2.1).setFar HL.out.2.2.2.1).setFar HL.out.2.2.2.1).setFar HL.out.2.2.2.1).setFar HL.out.2.2.2.1, ((((((below2 KB0.out b2).setCell HL.out.2.2.1 _).setCell HL.out.2.2.1 _).setCell HL.out.2.2.1 _).setCell HL.out.2.2.1 _).setCell HL.out.2.2.1 _).setCell HL.out.2.2.1 _⟩
  obtain ⟨w7, HW7⟩ : ∃ x, Hid (x = w3.setRow D (syC s (.slice (some ⟨g, 0, none⟩) s.p.m s.p.m))) := ⟨_, rfl⟩
  have ZR : Hid (Row w7 D 102 (syC s (.slice (some ⟨g, 0, none⟩) s.p.m s.p.m))) := by show Row _ _ _ _; rw [HW7.out]; exact K3.out.2.1.row
  have ZB : Hid (Below w.heap.size w w7) := by show Below _ _ _; rw [HW7.out]; exact belowSetRow K3.out.2.2.2 HL.out.2.1 _
  have w0w : w.heap.size ≤ w0.heap.size := KB0.out.size
  have ZO : Hid (OwnT w7 w.heap.size (some ⟨g, 0, none⟩) s.p.m s.p.m s.p.S) := by
    show OwnT _ _ _ _ _ _
    rw [HW7.out]
    exact own_kept (OwnT.base K3.out.2.2.1 w0w) (grown_row _ _ _) (fun x e => by cases e; show g ≠ D; have := l2.1; have := HL.out.2.2.2.2; omega)
  have l7 := World.ownsRow.lt ZO.out g rfl
  have KL : Hid (w.heap.size ≤ g ∧ g < w7.heap.size) := l7
  clear O2 b2 RV2 RD2 l2 l7 w0w
  go_wp2_with (first | (rw [← HW3.out]; refine wpList_load_row (by rfl) 102 _ (by rfl) V (by rfl) 102 (syC s (.slice (some ⟨g, 0, none⟩) s.p.m s.p.m)) (0, 0) _ ?_ Tryd.underlying102 (by rfl) Tryd.infoSy2 ?_; exact K3.out.1; clear y4 f4 y5 f5 y6 f6 y7 f7 y8 f8 y9 f9) | (refine wpList_store_row (by rfl) 102 _ _ (by rfl) D (syC s (.slice (some ⟨g, 0, none⟩) s.p.m s.p.m)) (by rfl) (by rfl) 102 #[.int .i64 0, .int .i64 0, .int .i64 0, .string ⟨#[]⟩, .string ⟨#[]⟩, .int .i64 0, .int .i64 0, .int .i64 0, .string ⟨#[]⟩, .slice none 0 0] ?_ Tryd.infoSy2 rfl (by simp [Value.oneCell']) ?_; exact K3.out.2.1; rw [← HW7.out]))
  exact bodyPost_ret (v := syV s (.slice (some ⟨g, 0, none⟩) s.p.m s.p.m)) (results_cell_row Tryd.results43 _ _ D 102 _ (0, 0) _ (by rfl) ZR.out Tryd.underlying102 (by rfl) Tryd.infoSy2) rfl ⟨g, rfl, ow_txt ZO.out (fun x e => by cases e; rfl), KL.out.1, KL.out.2, ZB.out⟩
def syN : Sy := ⟨0, 0, 0, ByteArray.empty, ⟨ByteArray.empty, 0, 0, 0, ByteArray.empty, 0, fun _ => ByteArray.empty⟩⟩
def zcY : List Value := [.int .i64 0, .int .i64 0, .int .i64 0, .string ByteArray.empty, .string ByteArray.empty, .int .i64 0, .int .i64 0, .int .i64 0, .string ByteArray.empty, .slice none 0 0]
theorem Tryd.infoSyZ : (Tryd.prog.info? 102).map (fun i => (i.zero, i.size, i.bytes)) = some (some (.agg zcY.toArray), 10, 120) := by kernel_rfl
theorem ow_syZ (w : World) (B q : Nat) (hq : q < 10) : Ow w B (syD syN q) (zcY.getD q undef) (fun _ => False) := by
  match q, hq with
  | 0, _ | 1, _ | 2, _ | 3, _ | 4, _ | 5, _ | 6, _ | 7, _ | 8, _ => rfl
  | 9, _ => exact Ow.nil _ _ _ _ _ _
theorem ow_say {w : World} {B : Nat} {d : Sy} {v : Value} {F : Nat → Prop} (h : Ow w B (txD d.p.m d.p.S) v F) (q : Nat) (hq : q < 10) : Ow w B (syD d q) ((syC d v).toList.getD q undef) (fun x => q = 9 ∧ F x) := by
  match q, hq with
  | 0, _ | 1, _ | 2, _ | 3, _ | 4, _ | 5, _ | 6, _ | 7, _ | 8, _ => rfl
  | 9, _ => exact Ow.mono h fun g hg => ⟨rfl, hg⟩
set_option maxHeartbeats 4000000 in
theorem toSys_any (a : Option Addr) (n cap : Nat) (N : Nat → Sy) (w : World) (h : Rd w (sysD n N) (.slice a n cap)) (hn : n ≤ 1048576) (hs : ∀ i, i < n → (N i).p.m ≤ 1048576) :
    Calls Tryd.prog 30 #[.slice a n cap] w fun e w' => e = .returned (.slice (some ⟨w.heap.size, 0, none⟩) n n) ∧ Ow w' w.heap.size (sysD n N) (.slice (some ⟨w.heap.size, 0, none⟩) n n) (rng w.heap.size w'.heap.size) ∧ Below w.heap.size w w' := by
  obtain ⟨i0, hi, hz0, hz1, hz2⟩ := info_parts Tryd.infoSyZ
  have KH : Hid (Rd w (sysD n N) (.slice a n cap)) := h
  have HS : Hid (∀ i, i < n → (N i).p.m ≤ 1048576) := hs
  clear h hs
  go_enter Tryd.func30, Tryd.ntmps30
  go_wp2_with (at_make; refine wpList_make_full _ rfl _ _ 34 rfl w.heap.size 102 i0 (.agg zcY.toArray) 10 Tryd.underlying34 hi hz0 hz1 .i64 .i64 _ _ n rfl rfl rfl rfl (by rw [hz2]; omega) (by unfold maxLen; omega) (Nat.le_refl _) ?_; intro w1 hown hgrow)
  have hb1 : Below w.heap.size w w1 := (Below.refl _ _).grown hgrow (Nat.le_refl _) (by simp)
  obtain ⟨g, HG⟩ : ∃ x, Hid (x = w.heap.size) := ⟨_, rfl⟩
  have ho1 : Ow w1 w.heap.size (.lst 102 10 n (fun i => if i < 0 then syD (N i) else syD syN)) (.slice (some ⟨g, 0, none⟩) n n) (rng w.heap.size w1.heap.size) := by
    have e : (madeCells (Value.agg zcY.toArray).cells (n * 10)).toList = cL 10 (fun _ q => zcY.getD q undef) n := made_cL (zs := zcY) (by simp [zcY])
    rw [e] at hown
    rw [HG.out]
    have := ow_made (F := rng w.heap.size w1.heap.size) hown (fun q hq => ow_syZ w1 w.heap.size q hq) ⟨Nat.le_refl _, (World.ownsRow.lt hown _ rfl).2⟩
    exact this.congr (fun i q _ _ => by simp)
  have gB : g = w.heap.size := HG.out
  rw [← HG.out]
  have HB : Hid (w.heap.size ≤ g) := by show _ ≤ _; omega
  clear hown hgrow gB
  go_loopw [4] (fun i wr => ∃ k : Nat, k ≤ n ∧ i = .int .i64 k ∧ Ow wr w.heap.size (.lst 102 10 n (fun i => if i < k then syD (N i) else syD syN)) (.slice (some ⟨g, 0, none⟩) n n) (rng w.heap.size wr.heap.size) ∧ Below w.heap.size w wr) (fun i _ => n - (intOf i).toNat)
  case atStart => exact ⟨0, Nat.zero_le _, rfl, ho1, hb1⟩
  case round =>
    obtain ⟨c, hc, rfl, hown, hbel⟩ := hrel
    clear ho1 hb1
    by_cases hlt : c < n
    · have hlti : (c : Int) < (n : Int) := by omega
      obtain ⟨b1, f1, an, cn, rfl, R1', hr1⟩ := say_at (KH.out.below hbel) hlt
      have KT : Hid _ := toSy_any (N c) an cn wr hr1 (HS.out c hlt)
      have R1 : Hid (wr.rangeAt b1 (f1 + c * 10) [.int .i64 (N c).k, .int .i64 (N c).f, .int .i64 (N c).t, .string (N c).r, .string (N c).p.r, .int .i64 (N c).p.k, .int .i64 (N c).p.n, .int .i64 (N c).p.i, .string (N c).p.b, .slice an (N c).p.m cn]) := R1'
      have KO : Hid (Ow wr w.heap.size (.lst 102 10 n (fun i => if i < c then syD (N i) else syD syN)) (.slice (some ⟨g, 0, none⟩) n n) (rng w.heap.size wr.heap.size) ∧ Below w.heap.size w wr) := ⟨hown, hbel⟩
      have lg : g < wr.heap.size := by
        obtain ⟨a', cap', c', G', e', ho', _⟩ := hown
        cases e'
        exact (World.ownsRow.lt ho' g rfl).2
      clear R1' hr1 hbel hown
      go_wp2_with (refine wpList_load_mid (by rfl) 95 _ (by rfl) b1 (f1 + c * 10) (by rfl) [.int .i64 (N c).k, .int .i64 (N c).f, .int .i64 (N c).t, .string (N c).r, .string (N c).p.r, .int .i64 (N c).p.k, .int .i64 (N c).p.n, .int .i64 (N c).p.i, .string (N c).p.b, .slice an (N c).p.m cn] _ ?_ Tryd.underlying95 (by rfl) Tryd.infoSyL ?_; exact R1.out)
      refine Calls.mono KT.out ?_
      rintro e w2 ⟨gs, rfl, o2, lg1, lg2, b2⟩
      have O2 := KO.out.1.below b2
      have TH : Hid (w2.there g (c * 10) 10) := by
        obtain ⟨a', cap', c', G', e', ho', _⟩ := O2
        cases e'
        intro j hj
        refine ⟨?_, World.ownsRow.frozenAt ho' _⟩
        rw [World.ownsRow.cellAt ho' _ (mid_lt hlt hj), cL_get _ _ _ _ _ hlt hj]
        rfl
      have hsz := KO.out.2.size
      have HO : Hid (Ow (w2.setCells g (c * 10) (syC (N c) (.slice (some ⟨gs, 0, none⟩) (N c).p.m (N c).p.m)).toList) w.heap.size (.lst 102 10 n (fun i => if i < c + 1 then syD (N i) else syD syN)) (.slice (some ⟨g, 0, none⟩) n n) (rng w.heap.size (w2.setCells g (c * 10) (syC (N c) (.slice (some ⟨gs, 0, none⟩) (N c).p.m (N c).p.m)).toList).heap.size)) := by
        rw [size_setCells]
        refine Ow.congr (Ow.store (d := syD (N c)) O2 hlt rfl (fun q hq => ow_say (o2.base hsz) q hq) ?_ ?_ ?_ ?_) ?_
        · intro q x _ hx hf
          have h2 := hf.2
          have h3 := hx.2
          omega
        · intro q q' x _ _ hx hx'
          exact hx.1.trans hx'.1.symm
        · intro x hx
          have := b2.size
          exact ⟨hx.1, by have := hx.2; omega⟩
        · intro q x _ hx
          have h3 := hx.2
          exact ⟨by omega, by omega⟩
        · intro i q _ _
          by_cases e : i = c
          · subst e; simp
          · by_cases e2 : i < c
            · simp [e, e2, show i < c + 1 by omega]
            · simp [e, e2, show ¬ i < c + 1 by omega]
      have HBe : Hid (Below w.heap.size w (w2.setCells g (c * 10) (syC (N c) (.slice (some ⟨gs, 0, none⟩) (N c).p.m (N c).p.m)).toList)) := below_setCells (below2 KO.out.2 b2) HB.out _ _
      clear O2 b2 o2 KT R1 KO
      go_wp2_with (refine wpList_store_mid (by rfl) 102 _ _ (by rfl) g (c * 10) (syC (N c) (.slice (some ⟨gs, 0, none⟩) (N c).p.m (N c).p.m)) (by rfl) (by rfl) ?_ Tryd.infoSy2 (by simp [Value.oneCell']) ?_; exact TH.out)
      go_roundw
      case rel => exact ⟨c + 1, by omega, by go_num, HO.out, HBe.out⟩
      case measure => simp [intOf]; omega
    · obtain rfl : c = n := by omega
      have HO : Hid (Ow wr w.heap.size (sysD c N) (.slice (some ⟨g, 0, none⟩) c c) (rng w.heap.size wr.heap.size)) := hown.congr (fun i q hi _ => by simp [hi])
      clear hown
      go_wp2
      go_ret
      exact ⟨by rw [← HG.out]; rfl, by rw [← HG.out]; rw [HG.out]; have := HO.out; rw [HG.out] at this; exact this, hbel⟩
end Go.Proofs.YtkcnpkkihbpnmaaDoor
