/- What the exact laws count of slots and nodes. Conditions: what each says. -/
import Derived.Test.YtpomffkpjldloaaGreatI24
import Derived.Test.YtpomffkpjldloaaGreatI14
import Derived.Test.YtpomffkpjldloaaGreatRows
import Derived.Deep.Slices
namespace Go.Proofs.YtpomffkpjldloaaGreat
set_option maxRecDepth 2000
open Go.ChangeShapes Go.WideShapes Go.ChangeAt Go.RowKit

/-- What is left of l behind a weight, or -1. -/
def szN (l x : Nat) : Int := if x ≤ l then ((l - x : Nat) : Int) else -1
theorem szN_yes {l x : Nat} (h : x ≤ l) : szN l x = ((l - x : Nat) : Int) := if_pos h
theorem szN_no {l x : Nat} (h : ¬ x ≤ l) : szN l x = -1 := if_neg h
def wtP (p : Pc) : Nat := p.r.size + p.b.size + (p.m + tot (fun i => (p.S i).size) p.m)
def wtS (s : Sl) : Nat := s.r.size + wtP s.p + s.ze.length + s.zr.length
theorem szPc_eq (p : Pc) (l : Nat) : szPc p.r p.b p.m p.S l = szN l (wtP p) := by
  by_cases h : wtP p ≤ l
  · rw [szN_yes h]; exact szPc_yes h
  · rw [szN_no h]; exact szPc_no h
/-- What the form tells of a slot that came in. -/
structure SlI (w : World) (s : Sl) (a6 : Option Addr) : Prop where
  r : s.r.size ≤ maxLen
  pr : s.p.r.size ≤ maxLen
  pb : s.p.b.size ≤ maxLen
  tx : IsTxt w a6 s.p.m s.p.S
  ne : s.ze.length ≤ maxLen
  nr : s.zr.length ≤ maxLen
theorem szI_any (a : Option Addr) (n cap l : Nat) (w : World) (hn : n ≤ maxLen) (hl : l ≤ 1048576) : Calls Tryz.prog 23 #[.slice a n cap, .int .i64 (l : Int)] w fun e w' => e = .returned (.int .i64 (szN l n)) ∧ w' = w := by
  unfold maxLen at hn
  by_cases h : n ≤ l
  · rw [szN_yes h]
    obtain ⟨d, hd⟩ : ∃ d, l - n = d := ⟨_, rfl⟩
    rw [hd]
    have e : IntKind.i64.wrap ((l : Int) - (n : Int)) = (d : Int) := by rw [IntKind.wrap_i64]; omega
    have h0 : ¬ ((d : Int) < 0) := by omega
    go_enter Tryz.func23, Tryz.ntmps23
    go_wp2
    go_ret
    exact ⟨rfl, rfl⟩
  · rw [szN_no h]
    have e : IntKind.i64.wrap ((l : Int) - (n : Int)) = (l : Int) - (n : Int) := by rw [IntKind.wrap_i64]; omega
    have h0 : (l : Int) - (n : Int) < 0 := by omega
    go_enter Tryz.func23, Tryz.ntmps23
    go_wp2
    go_ret
    exact ⟨rfl, rfl⟩
set_option maxHeartbeats 4000000 in
theorem szSl_any (s : Sl) (a6 a11 a12 : Option Addr) (c6 c11 c12 l : Nat) (w : World) (h : SlI w s a6) (hl : l ≤ 1048576) :
    Calls Tryz.prog 67 #[slV s (.slice a6 s.p.m c6) (.slice a11 s.ze.length c11) (.slice a12 s.zr.length c12), .int .i64 (l : Int)] w fun e w' => e = .returned (.int .i64 (szN l (wtS s))) ∧ Below w.heap.size w w' := by
  obtain ⟨r, p, fh, fe, fd, fo, ze, zr⟩ := s
  obtain ⟨hr, hpr, hpb, htx, hne, hnr⟩ := h
  simp only at hr hpr hpb htx hne hnr
  have HWT : Hid (wtS ⟨r, p, fh, fe, fd, fo, ze, zr⟩ = r.size + wtP p + ze.length + zr.length) := rfl
  rw [HWT.out]
  simp only
  obtain ⟨A, HA⟩ : ∃ x, Hid (x = w.heap.size) := ⟨_, rfl⟩
  obtain ⟨w0, HW0⟩ : ∃ x, Hid (x = w.alloc (.cells (slC ⟨r, p, fh, fe, fd, fo, ze, zr⟩ (.slice a6 p.m c6) (.slice a11 ze.length c11) (.slice a12 zr.length c12)) 125)) := ⟨_, rfl⟩
  have RA : Hid (Row w0 A 125 (slC ⟨r, p, fh, fe, fd, fo, ze, zr⟩ (.slice a6 p.m c6) (.slice a11 ze.length c11) (.slice a12 zr.length c12))) := by
    show Row _ _ _ _
    rw [HW0.out, HA.out]
    exact Row.new w _ _
  have hb0 : Below w.heap.size w w0 := by rw [HW0.out]; exact (Below.refl _ _).alloc (Nat.le_refl _) _
  have KB0 : Hid (Below w.heap.size w w0) := hb0
  have KP : Hid (∀ l1 : Nat, l1 ≤ 1048576 → Calls Tryz.prog 57 #[pcV p.r p.k p.n p.i p.b (.slice a6 p.m c6), .int .i64 (l1 : Int)] w0 fun e w' => e = .returned (.int .i64 (szN l1 (wtP p))) ∧ Below w0.heap.size w0 w') := fun l1 h1 => by
    rw [← szPc_eq]
    exact szPc_any p.r p.k p.n p.i p.b a6 p.m c6 p.S l1 w0 (htx.1.below hb0) h1 htx.2.1 htx.2.2 hpr hpb
  have KE : Hid (∀ (l1 : Nat) W, l1 ≤ 1048576 → Calls Tryz.prog 23 #[.slice a11 ze.length c11, .int .i64 (l1 : Int)] W fun e w' => e = .returned (.int .i64 (szN l1 ze.length)) ∧ w' = W) := fun l1 W h1 => szI_any a11 _ c11 l1 W hne h1
  have KZ : Hid (∀ (l1 : Nat) W, l1 ≤ 1048576 → Calls Tryz.prog 23 #[.slice a12 zr.length c12, .int .i64 (l1 : Int)] W fun e w' => e = .returned (.int .i64 (szN l1 zr.length)) ∧ w' = W) := fun l1 W h1 => szI_any a12 _ c12 l1 W hnr h1
  obtain ⟨pr, pk, pn, pi, pb, m, S⟩ := p
  simp only at *
  obtain ⟨x, hx⟩ : ∃ x, r.size = x := ⟨_, rfl⟩
  rw [hx] at hr ⊢
  unfold maxLen at hr
  generalize ze.length = le at *
  generalize zr.length = lr at *
  generalize wtP ⟨pr, pk, pn, pi, pb, m, S⟩ = wp at *
  clear hpr hpb htx hne hnr hb0 HWT
  by_cases h1 : x ≤ l
  case neg =>
    rw [szN_no (by omega)]
    have e1 : IntKind.i64.wrap ((l : Int) - (x : Int)) = (l : Int) - (x : Int) := by rw [IntKind.wrap_i64]; omega
    have n1 : (l : Int) - (x : Int) < 0 := by omega
    go_enter Tryz.func67, Tryz.ntmps67
    go_wp2
    go_ret
    exact ⟨rfl, by rw [← HW0.out]; exact KB0.out⟩
  obtain ⟨l1, hl1⟩ : ∃ l1, l = x + l1 := ⟨l - x, by omega⟩
  have e1 : IntKind.i64.wrap ((l : Int) - (x : Int)) = (l1 : Int) := by rw [IntKind.wrap_i64]; omega
  have n1 : ¬ ((l1 : Int) < 0) := by omega
  have KP1 : Hid _ := KP.out l1 (by omega)
  by_cases h2 : wp ≤ l1
  case neg =>
    rw [szN_no (by omega)]
    rw [szN_no h2] at KP1
    clear hl1
    go_enter Tryz.func67, Tryz.ntmps67
    go_wp2_with fail
    rw [← HW0.out]
    refine Calls.mono KP1.out ?_
    rintro e w1 ⟨rfl, b1⟩
    go_wp2
    go_ret
    exact ⟨rfl, below2 KB0.out b1⟩
  obtain ⟨l2, hl2⟩ : ∃ l2, l1 = wp + l2 := ⟨l1 - wp, by omega⟩
  have n2 : ¬ ((l2 : Int) < 0) := by omega
  rw [szN_yes h2, show l1 - wp = l2 by omega] at KP1
  have KE1 : Hid (∀ W, _) := fun W => KE.out l2 W (by omega)
  by_cases h3 : le ≤ l2
  case neg =>
    rw [szN_no (by omega)]
    rw [szN_no h3] at KE1
    clear hl1 hl2
    go_enter Tryz.func67, Tryz.ntmps67
    go_wp2_with fail
    rw [← HW0.out, ← HA.out]
    refine Calls.mono KP1.out ?_
    rintro e w1 ⟨rfl, b1⟩
    have x11 := (RA.out.below b1 RA.out.lt).cell 11
    simp at x11
    go_wp2_with fail
    refine Calls.mono (KE1.out _) ?_
    rintro e w2 ⟨rfl, hw⟩
    obtain rfl := hw.symm
    clear hw
    go_wp2
    go_ret
    exact ⟨rfl, below2 KB0.out b1⟩
  obtain ⟨l3, hl3⟩ : ∃ l3, l2 = le + l3 := ⟨l2 - le, by omega⟩
  have n3 : ¬ ((l3 : Int) < 0) := by omega
  rw [szN_yes h3, show l2 - le = l3 by omega] at KE1
  have KZ1 : Hid (∀ W, _) := fun W => KZ.out l3 W (by omega)
  by_cases h4 : lr ≤ l3
  case neg =>
    rw [szN_no (by omega)]
    rw [szN_no h4] at KZ1
    clear hl1 hl2 hl3
    go_enter Tryz.func67, Tryz.ntmps67
    go_wp2_with fail
    rw [← HW0.out, ← HA.out]
    refine Calls.mono KP1.out ?_
    rintro e w1 ⟨rfl, b1⟩
    have x11 := (RA.out.below b1 RA.out.lt).cell 11
    have x12 := (RA.out.below b1 RA.out.lt).cell 12
    simp at x11 x12
    go_wp2_with fail
    refine Calls.mono (KE1.out _) ?_
    rintro e w2 ⟨rfl, hw⟩
    obtain rfl := hw.symm
    clear hw
    go_wp2_with fail
    refine Calls.mono (KZ1.out _) ?_
    rintro e w3 ⟨rfl, hw⟩
    obtain rfl := hw.symm
    clear hw
    go_wp2
    go_ret
    exact ⟨rfl, below2 KB0.out b1⟩
  obtain ⟨l4, hl4⟩ : ∃ l4, l3 = lr + l4 := ⟨l3 - lr, by omega⟩
  have n4 : ¬ ((l4 : Int) < 0) := by omega
  rw [szN_yes h4, show l3 - lr = l4 by omega] at KZ1
  rw [szN_yes (by omega), show l - (x + wp + le + lr) = l4 by omega]
  clear hl1 hl2 hl3 hl4
  go_enter Tryz.func67, Tryz.ntmps67
  go_wp2_with fail
  rw [← HW0.out, ← HA.out]
  refine Calls.mono KP1.out ?_
  rintro e w1 ⟨rfl, b1⟩
  have x11 := (RA.out.below b1 RA.out.lt).cell 11
  have x12 := (RA.out.below b1 RA.out.lt).cell 12
  simp at x11 x12
  go_wp2_with fail
  refine Calls.mono (KE1.out _) ?_
  rintro e w2 ⟨rfl, hw⟩
  obtain rfl := hw.symm
  clear hw
  go_wp2_with fail
  refine Calls.mono (KZ1.out _) ?_
  rintro e w3 ⟨rfl, hw⟩
  obtain rfl := hw.symm
  clear hw
  go_wp2
  go_ret
  exact ⟨rfl, below2 KB0.out b1⟩
/-- The same without its memory. -/
structure SlB (s : Sl) : Prop where
  r : s.r.size ≤ maxLen
  pr : s.p.r.size ≤ maxLen
  pb : s.p.b.size ≤ maxLen
  m : s.p.m ≤ maxLen
  tx : ∀ i, i < s.p.m → (s.p.S i).size ≤ maxLen
  ne : s.ze.length ≤ maxLen
  nr : s.zr.length ≤ maxLen
theorem SlB.i {s : Sl} (h : SlB s) {w : World} {a6 : Option Addr} (ht : TxtAt w a6 s.p.m s.p.S) : SlI w s a6 := ⟨h.r, h.pr, h.pb, ⟨ht, h.m, h.tx⟩, h.ne, h.nr⟩
def wtL (n : Nat) (S : Nat → Sl) : Nat := n + tot (fun i => wtS (S i)) n
theorem Tryz.infoSlL : (Tryz.prog.info? 125).map (·.size) = some 13 := by kernel_rfl
set_option maxHeartbeats 4000000 in
theorem szSls_any (a : Option Addr) (n cap : Nat) (S : Nat → Sl) (l : Nat) (w : World) (h : Rd w (slsD n S) (.slice a n cap)) (hl : l ≤ 1048576) (hn : n ≤ maxLen) (hL : ∀ i, i < n → SlB (S i)) :
    Calls Tryz.prog 56 #[.slice a n cap, .int .i64 (l : Int)] w fun e w' => e = .returned (.int .i64 (szN l (wtL n S))) ∧ Below w.heap.size w w' := by
  unfold maxLen at hn
  by_cases h1 : n ≤ l
  · obtain ⟨d, hd⟩ : ∃ d, l - n = d := ⟨_, rfl⟩
    have hw : IntKind.i64.wrap ((l : Int) - (n : Int)) = (d : Int) := by rw [IntKind.wrap_i64]; omega
    have h0 : ¬ ((d : Int) < 0) := by omega
    have KL : Hid (∀ i, i < n → SlB (S i)) := hL
    have KH : Hid (Rd w (slsD n S) (.slice a n cap)) := h
    clear hL h
    go_enter Tryz.func56, Tryz.ntmps56
    go_wp2
    go_loopw [1, 5] (fun p i wr => ∃ c q : Nat, c ≤ n ∧ q ≤ 1048576 ∧ Hid (tot (fun i => wtS (S i)) c + q = d) ∧ p = .int .i64 (q : Int) ∧ i = .int .i64 (c : Int) ∧ Below w.heap.size w wr) (fun _ i _ => n - (intOf i).toNat)
    case atStart => exact ⟨0, d, Nat.zero_le _, by omega, by show 0 + d = d; omega, rfl, rfl, Below.refl _ _⟩
    case round =>
      obtain ⟨c, q, hc, hq, HT, rfl, rfl, hbel⟩ := hrel
      clear hw h0
      by_cases hlt : c < n
      · obtain ⟨b1, f1, y1, p6, p11, p12, q6, q11, q12, rfl, hc1, e1, ht1, he1, hz1⟩ := slot_row (KH.out.below hbel) hlt
        have hti := tot_le (fun i => wtS (S i)) hlt
        have hlti : (c : Int) < (n : Int) := by omega
        have HT' := HT.out
        obtain ⟨lc, HLC⟩ : ∃ x, Hid (wtS (S c) = x) := ⟨_, rfl⟩
        have KTS : Hid (tot (fun i => wtS (S i)) (c + 1) = tot (fun i => wtS (S i)) c + lc) := by rw [← HLC.out]; rfl
        have hti' : tot (fun i => wtS (S i)) c + lc ≤ tot (fun i => wtS (S i)) n := by rw [← HLC.out]; exact hti
        have KZ : Hid (Calls Tryz.prog 67 #[ag13 y1, .int .i64 (q : Int)] wr fun e w' => e = .returned (.int .i64 (szN q lc)) ∧ Below wr.heap.size wr w') := by
          rw [e1, ← HLC.out]
          exact szSl_any (S c) p6 p11 p12 q6 q11 q12 q wr ((KL.out c hlt).i ht1) hq
        obtain ⟨_, x⟩ := one_row (sz := 12) wr (Below.refl _ _) hc1
        have R1 : Hid (wr.rangeAt b1 (f1 + c * 13) [y1 0, y1 1, y1 2, y1 3, y1 4, y1 5, y1 6, y1 7, y1 8, y1 9, y1 10, y1 11, y1 12]) := range13 x
        have KB : Hid (Below w.heap.size w wr) := hbel
        clear hti hc1 e1 ht1 he1 hz1 x hbel
        by_cases h2 : lc ≤ q
        · obtain ⟨q', hq'⟩ : ∃ q', q - lc = q' := ⟨_, rfl⟩
          have h3 : ¬ ((q' : Int) < 0) := by omega
          have HT2 : Hid (tot (fun i => wtS (S i)) (c + 1) + q' = d) := by show _ = _; rw [KTS.out]; omega
          have hq2 : q' ≤ 1048576 := by omega
          rw [szN_yes h2, hq'] at KZ
          clear HT HT' hti' KTS
          go_wp2_with (refine wpList_load_mid (by rfl) 125 _ (by rfl) b1 (f1 + c * 13) (by rfl) _ _ R1.out Tryz.underlying125 (by rfl) Tryz.infoSlL ?_)
          refine Calls.mono KZ.out ?_
          rintro e w1 ⟨rfl, bb⟩
          have KB1 : Hid (Below w.heap.size w w1) := below2 KB.out bb
          clear bb KZ R1
          go_wp2
          go_roundw
          case rel => exact ⟨c + 1, q', by omega, hq2, HT2, rfl, by go_num, KB1.out⟩
          case measure => simp [intOf] <;> omega
        · have HR : Hid (szN l (wtL n S) = -1) := szN_no (by unfold wtL; omega)
          rw [szN_no h2] at KZ
          clear HT HT' hti' KTS
          go_wp2_with (refine wpList_load_mid (by rfl) 125 _ (by rfl) b1 (f1 + c * 13) (by rfl) _ _ R1.out Tryz.underlying125 (by rfl) Tryz.infoSlL ?_)
          refine Calls.mono KZ.out ?_
          rintro e w1 ⟨rfl, bb⟩
          have KB1 : Hid (Below w.heap.size w w1) := below2 KB.out bb
          clear bb KZ R1
          go_wp2
          go_ret
          exact ⟨ret_int HR.out.symm, KB1.out⟩
      · obtain rfl : c = n := by omega
        have HR : Hid (szN l (wtL c S) = (q : Int)) := by
          have := HT.out
          have e : l - (c + tot (fun i => wtS (S i)) c) = q := by omega
          exact (szN_yes (by unfold wtL; omega)).trans (by unfold wtL; rw [e])
        clear KH
        go_wp2
        go_ret
        exact ⟨ret_int HR.out.symm, hbel⟩
  · have h0 : (l : Int) - (n : Int) < 0 := by omega
    have hw : IntKind.i64.wrap ((l : Int) - (n : Int)) = (l : Int) - (n : Int) := by rw [IntKind.wrap_i64]; omega
    have HR : Hid (szN l (wtL n S) = -1) := szN_no (by unfold wtL; omega)
    clear h hL
    go_enter Tryz.func56, Tryz.ntmps56
    go_wp2
    go_ret
    exact ⟨ret_int HR.out.symm, Below.refl _ _⟩
set_option maxHeartbeats 1000000 in
theorem szNd_any (id f : Int) (a : Option Addr) (n cap : Nat) (S : Nat → Sl) (l : Nat) (w : World) (h : Rd w (slsD n S) (.slice a n cap)) (hl : l ≤ 1048576) (hn : n ≤ maxLen) (hL : ∀ i, i < n → SlB (S i)) :
    Calls Tryz.prog 46 #[.agg #[.int .i64 id, .int .i64 f, .slice a n cap], .int .i64 (l : Int)] w fun e w' => e = .returned (.int .i64 (szN l (wtL n S))) ∧ Below w.heap.size w w' := by
  obtain ⟨w0, HW0⟩ : ∃ x, Hid (x = w.alloc (.cells #[.int .i64 id, .int .i64 f, .slice a n cap] 94)) := ⟨_, rfl⟩
  have hb0 : Below w.heap.size w w0 := by rw [HW0.out]; exact (Below.refl _ _).alloc (Nat.le_refl _) _
  have KB0 : Hid (Below w.heap.size w w0) := hb0
  have KZ : Hid _ := szSls_any a n cap S l w0 (h.below hb0) hl hn hL
  clear h hL hb0
  by_cases h1 : wtL n S ≤ l
  · obtain ⟨d, hd⟩ : ∃ d, l - wtL n S = d := ⟨_, rfl⟩
    rw [szN_yes h1, hd] at KZ
    rw [szN_yes h1, hd]
    have h0 : ¬ ((d : Int) < 0) := by omega
    clear h1 hd
    go_enter Tryz.func46, Tryz.ntmps46
    go_wp2_with fail
    rw [← HW0.out]
    refine Calls.mono KZ.out ?_
    rintro e w1 ⟨rfl, b1⟩
    go_wp2
    go_ret
    exact ⟨rfl, below2 KB0.out b1⟩
  · rw [szN_no h1] at KZ
    rw [szN_no h1]
    clear h1
    go_enter Tryz.func46, Tryz.ntmps46
    go_wp2_with fail
    rw [← HW0.out]
    refine Calls.mono KZ.out ?_
    rintro e w1 ⟨rfl, b1⟩
    go_wp2
    go_ret
    exact ⟨rfl, below2 KB0.out b1⟩
end Go.Proofs.YtpomffkpjldloaaGreat
/- Lists of structs that are handed in, read as the form reads them; slots and nodes. No condition. -/
namespace Go.Proofs.YtpomffkpjldloaaGreat
set_option maxRecDepth 2000
open Go.ChangeShapes Go.WideShapes Go.ChangeAt Go.RowKit

theorem open_list {H : Type} {enc : TypeId × Value → H} {w : World} {base : Nat} {spare : Nat → Bool} {held : Bool} {α : Type} (z : α) {T e sz : Nat} (t' : Nat) (D : α → Nat → Dt) (Bd : α → Prop) (hu : Tryz.prog.underlying T = some (.slice e)) (hc : Tryz.prog.cellsOf e = sz) (hpos : 0 < sz)
    (each : ∀ {fuel : Nat} {cs : List Value} {x : DataW H × List MemPlace}, DataW.trod enc Tryz.prog w base spare held fuel e cs = some x → ∃ y : α, cs.length = sz ∧ (∀ q, q < sz → Rd w (D y q) (cs.getD q undef)) ∧ Bd y)
    {fuel : Nat} {a : Option Addr} {n c : Nat} {x : DataW H × List MemPlace} (h : DataW.trod enc Tryz.prog w base spare held fuel T [.slice a n c] = some x) :
    ∃ P : Nat → α, Rd w (.lst t' sz n fun i => D (P i)) (.slice a n c) ∧ n ≤ maxLen ∧ ∀ i, i < n → Bd (P i) := by
  rcases Go.Deep.open_slice hu h with ⟨hcs, _⟩ | ⟨ad, len, cap, m, n', D', Pl, hcs, hb, hl, hm, hmm, _, hx⟩
  · simp at hcs
    obtain ⟨rfl, rfl, rfl⟩ := hcs
    exact ⟨fun _ => z, Rd.nil _ _ _ _ _ _, Nat.zero_le _, fun i hi => absurd hi (Nat.not_lt_zero _)⟩
  · simp at hcs
    obtain ⟨rfl, rfl, rfl⟩ := hcs
    rw [hc] at hx
    have hnm : n ≤ m := by rw [hmm]; split <;> omega
    obtain ⟨b, off, spot⟩ := ad
    have ea : ∀ (b off i : Nat), (⟨b, off, none⟩ : Addr).add i = ⟨b, off + i, none⟩ := fun b off i => by unfold Addr.add; split <;> simp_all
    have each' : ∀ i, ∃ p : α, i < n → spot = none ∧ (∀ q, q < sz → ∃ y, w.cell? ⟨b, off + (i * sz + q), none⟩ = some y ∧ Rd w (D p q) y) ∧ Bd p := fun i => by
      by_cases hi : i < n
      · obtain ⟨cs', h1, h2⟩ := hx i (by omega)
        obtain ⟨p, hlen', hrd, hbd⟩ := each h2
        obtain ⟨_, hlen, hcell⟩ := World.cells?_some h1
        have hspot : spot = none := by
          obtain ⟨cs0, g1, g2⟩ := hx 0 (by omega)
          obtain ⟨_, hlen0, hcell0⟩ := World.cells?_some g1
          have h0 := hcell0 0 hpos
          obtain ⟨v0, hv0⟩ : ∃ v, cs0[0]? = some v := ⟨cs0[0], List.getElem?_eq_getElem (by omega)⟩
          rw [hv0] at h0
          simpa [Addr.add] using World.cell?_spot h0
        subst hspot
        refine ⟨p, fun _ => ⟨rfl, fun q hq => ⟨cs'.getD q undef, ?_, hrd q hq⟩, hbd⟩⟩
        have h3 := hcell q hq
        rw [ea, ea] at h3
        rw [← Nat.add_assoc, h3, List.getD_eq_getElem?_getD, List.getElem?_eq_getElem (by omega)]
        rfl
      · exact ⟨z, fun h => absurd h hi⟩
    obtain ⟨P, hP⟩ := Classical.axiomOfChoice each'
    refine ⟨P, ⟨_, _, rfl, fun i hi => ?_⟩, by omega, fun i hi => (hP i hi).2.2⟩
    obtain ⟨hs, h1, _⟩ := hP i hi
    subst hs
    exact ⟨b, off, rfl, h1⟩
theorem open_ints_at {H : Type} {enc : TypeId × Value → H} {w : World} {base : Nat} {spare : Nat → Bool} {held : Bool} {fuel : Nat} {v : Value} {x : DataW H × List MemPlace} (h : DataW.trod enc Tryz.prog w base spare held fuel 23 [v] = some x) :
    ∃ (a : Option Addr) (zs : List Int) (c : Nat), v = .slice a zs.length c ∧ IntsAt w a zs.length zs ∧ zs.length ≤ maxLen := by
  rcases open_ints Tryz.underlying23 Tryz.underlying3 (by kernel_rfl) h with ⟨hcs, _⟩ | ⟨ad, l, c, zs, hcs, _, hl, hm, hz, _, hcell, hwz⟩
  · simp at hcs
    subst hcs
    exact ⟨none, [], 0, rfl, ⟨rfl, fun i hi => absurd hi (Nat.not_lt_zero _)⟩, Nat.zero_le _⟩
  · simp at hcs
    subst hcs
    have hR : IsRow .i64 w (some ad) l zs.length zs := .inr ⟨_, rfl, by rw [hz]; split <;> omega, by rw [hz]; split <;> omega, rfl, hcell, hwz⟩
    obtain ⟨_, hi, _⟩ := hR.ints
    have e : (zs.take l).length = l := hi.1
    refine ⟨some ad, zs.take l, c, by rw [e], ?_, by rw [e]; omega⟩
    rw [e]
    exact hi
theorem list13 {α : Type} (l : List α) (h : l.length = 13) : ∃ c0 c1 c2 c3 c4 c5 c6 c7 c8 c9 c10 c11 c12, l = [c0, c1, c2, c3, c4, c5, c6, c7, c8, c9, c10, c11, c12] := by
  match l, h with
  | [c0, c1, c2, c3, c4, c5, c6, c7, c8, c9, c10, c11, c12], _ => exact ⟨c0, c1, c2, c3, c4, c5, c6, c7, c8, c9, c10, c11, c12, rfl⟩
theorem list8 {α : Type} (l : List α) (h : l.length = 8) : ∃ c0 c1 c2 c3 c4 c5 c6 c7, l = [c0, c1, c2, c3, c4, c5, c6, c7] := by
  match l, h with
  | [c0, c1, c2, c3, c4, c5, c6, c7], _ => exact ⟨c0, c1, c2, c3, c4, c5, c6, c7, rfl⟩
theorem list3 {α : Type} (l : List α) (h : l.length = 3) : ∃ c0 c1 c2, l = [c0, c1, c2] := by
  match l, h with
  | [c0, c1, c2], _ => exact ⟨c0, c1, c2, rfl⟩
theorem open_slot {H : Type} {enc : TypeId × Value → H} {w : World} {base : Nat} {spare : Nat → Bool} {held : Bool} {fuel : Nat} {cs : List Value} {x : DataW H × List MemPlace} (h : DataW.trod enc Tryz.prog w base spare held fuel 125 cs = some x) :
    ∃ s : Sl, cs.length = 13 ∧ (∀ q, q < 13 → Rd w (slD s q) (cs.getD q undef)) ∧ SlB s := by
  have c13 : Tryz.prog.cellsOf 125 = 13 := by kernel_rfl
  have cp6 : Tryz.prog.cellsOf 98 = 6 := by kernel_rfl
  have cs1 : Tryz.prog.cellsOf 9 = 1 := by kernel_rfl
  have cb1 : Tryz.prog.cellsOf 4 = 1 := by kernel_rfl
  have cl1 : Tryz.prog.cellsOf 23 = 1 := by kernel_rfl
  obtain ⟨xs, f, _, _, hl, hlen, hf⟩ := DataW.trod_struct Tryz.underlying125 h
  rw [c13] at hl
  obtain ⟨c0, c1, c2, c3, c4, c5, c6, c7, c8, c9, c10, c11, c12, rfl⟩ := list13 cs hl
  obtain ⟨y0, y1, y2, y3, y4, y5, y6, y7, rfl⟩ := list8 xs hlen
  have g0 := hf 0 _ rfl
  have g1 := hf 1 _ rfl
  have g2 := hf 2 _ rfl
  have g3 := hf 3 _ rfl
  have g4 := hf 4 _ rfl
  have g5 := hf 5 _ rfl
  have g6 := hf 6 _ rfl
  have g7 := hf 7 _ rfl
  simp [cs1, cp6, cb1, cl1] at g0 g1 g2 g3 g4 g5 g6 g7
  obtain ⟨r, e0, _, hr⟩ := DataW.trod_string Tryz.underlying9 g0
  obtain ⟨pr, pk, pn, pi, pb, pa, pm, pc, pS, e1, _, hpr, hpb, ht⟩ := open_piece g1
  obtain ⟨bh, e2, _⟩ := DataW.trod_bool Tryz.underlying4 g2
  obtain ⟨be, e3, _⟩ := DataW.trod_bool Tryz.underlying4 g3
  obtain ⟨bd, e4, _⟩ := DataW.trod_bool Tryz.underlying4 g4
  obtain ⟨bo, e5, _⟩ := DataW.trod_bool Tryz.underlying4 g5
  obtain ⟨a1, ze, z1, e6, i1, n1⟩ := open_ints_at g6
  obtain ⟨a2, zr, z2, e7, i2, n2⟩ := open_ints_at g7
  simp at e0 e1 e2 e3 e4 e5
  obtain ⟨rfl, rfl, rfl, rfl, rfl, rfl⟩ := e1
  subst e0 e2 e3 e4 e5 e6 e7
  refine ⟨⟨r, ⟨pr, pk, pn, pi, pb, pm, pS⟩, bh, be, bd, bo, ze, zr⟩, rfl, fun q hq => ?_, ⟨hr, hpr, hpb, ht.2.1, ht.2.2, n1, n2⟩⟩
  match q, hq with
  | 0, _ | 1, _ | 2, _ | 3, _ | 4, _ | 5, _ | 7, _ | 8, _ | 9, _ | 10, _ => rfl
  | 6, _ => exact rd_txt.2 ht.1
  | 11, _ => exact rd_ints.2 i1
  | 12, _ => exact rd_ints.2 i2
theorem open_slots {H : Type} {enc : TypeId × Value → H} {w : World} {base : Nat} {spare : Nat → Bool} {held : Bool} {fuel : Nat} {a : Option Addr} {n c : Nat} {x : DataW H × List MemPlace} (h : DataW.trod enc Tryz.prog w base spare held fuel 92 [.slice a n c] = some x) :
    ∃ S : Nat → Sl, Rd w (slsD n S) (.slice a n c) ∧ n ≤ maxLen ∧ ∀ i, i < n → SlB (S i) :=
  open_list ⟨ByteArray.empty, ⟨ByteArray.empty, 0, 0, 0, ByteArray.empty, 0, fun _ => ByteArray.empty⟩, false, false, false, false, [], []⟩ 103 slD SlB Tryz.underlying92 (by kernel_rfl) (by omega) open_slot h
theorem open_node {H : Type} {enc : TypeId × Value → H} {w : World} {base : Nat} {spare : Nat → Bool} {held : Bool} {fuel : Nat} {cs : List Value} {x : DataW H × List MemPlace} (h : DataW.trod enc Tryz.prog w base spare held fuel 94 cs = some x) :
    ∃ (id f : Int) (a : Option Addr) (n c : Nat) (S : Nat → Sl), cs = [.int .i64 id, .int .i64 f, .slice a n c] ∧ Rd w (slsD n S) (.slice a n c) ∧ n ≤ maxLen ∧ ∀ i, i < n → SlB (S i) := by
  have c3 : Tryz.prog.cellsOf 94 = 3 := by kernel_rfl
  have ci1 : Tryz.prog.cellsOf 3 = 1 := by kernel_rfl
  have cl1 : Tryz.prog.cellsOf 92 = 1 := by kernel_rfl
  obtain ⟨xs, f, _, _, hl, hlen, hf⟩ := DataW.trod_struct Tryz.underlying94 h
  rw [c3] at hl
  obtain ⟨c0, c1, c2, rfl⟩ := list3 cs hl
  obtain ⟨y0, y1, y2, rfl⟩ := list3 xs hlen
  have g0 := hf 0 _ rfl
  have g1 := hf 1 _ rfl
  have g2 := hf 2 _ rfl
  simp [ci1, cl1] at g0 g1 g2
  obtain ⟨id, e0, _, u0⟩ := DataW.trod_int Tryz.underlying3 g0
  obtain ⟨ff, e1, _, u1⟩ := DataW.trod_int Tryz.underlying3 g1
  simp at e0 e1
  subst e0 e1
  obtain ⟨a, n, c, rfl⟩ : ∃ a n c, c2 = .slice a n c := by
    rcases Go.Deep.open_slice Tryz.underlying92 g2 with ⟨hcs, _⟩ | ⟨ad, len, cap, m, n', D', Pl, hcs, _⟩
    · simp at hcs
      exact ⟨none, 0, 0, hcs⟩
    · simp at hcs
      exact ⟨some ad, len, cap, hcs⟩
  obtain ⟨S, h1, h2, h3⟩ := open_slots g2
  exact ⟨id, ff, a, n, c, S, rfl, h1, h2, h3⟩
end Go.Proofs.YtpomffkpjldloaaGreat
