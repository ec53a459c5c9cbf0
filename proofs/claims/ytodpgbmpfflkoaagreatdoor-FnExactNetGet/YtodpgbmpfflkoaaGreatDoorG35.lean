/- What the exact laws count of slots and nodes. Conditions: what each says. -/
import Derived.Test.YtodpgbmpfflkoaaGreatDoorG32
import Derived.Test.YtodpgbmpfflkoaaGreatDoorG13
import Derived.Test.YtodpgbmpfflkoaaGreatDoorRows
import Derived.Deep.Slices
import Derived.Test.YtodpgbmpfflkoaaGreatDoorG8
import Derived.Test.YtodpgbmpfflkoaaGreatDoorG11
namespace Go.Proofs.YtodpgbmpfflkoaaGreatDoor
set_option maxRecDepth 2000
open Go.ChangeShapes Go.WideShapes Go.ChangeAt Go.RowKit

/-- What is left of l behind a weight, or -1. -/
def szN (l x : Nat) : Int := if x ≤ l then ((l - x : Nat) : Int) else -1
theorem szN_yes {l x : Nat} (h : x ≤ l) : szN l x = ((l - x : Nat) : Int) := if_pos h
theorem szN_no {l x : Nat} (h : ¬ x ≤ l) : szN l x = -1 := if_neg h
def wtP (p : Pc) : Nat := p.r.size + p.b.size + (p.m + tot (fun i => (p.S i).size) p.m)
def wtS (s : Sl) : Nat := s.r.size + wtP s.p + s.ze.length + s.zr.length
theorem szPc_eq (p : Pc) (l : Nat) : szPc p.r p.b p.m p.S l = szN l (wtP p) := by
  by_cases h : wtP p ≤ l
  · rw [szN_yes h]; exact szPc_yes h
  · rw [szN_no h]; exact szPc_no h
/-- What the form tells of a slot that came in. -/
structure SlI (w : World) (s : Sl) (a6 : Option Addr) : Prop where
  r : s.r.size ≤ maxLen
  pr : s.p.r.size ≤ maxLen
  pb : s.p.b.size ≤ maxLen
  tx : IsTxt w a6 s.p.m s.p.S
  ne : s.ze.length ≤ maxLen
  nr : s.zr.length ≤ maxLen
theorem szI_any (a : Option Addr) (n cap l : Nat) (w : World) (hn : n ≤ maxLen) (hl : l ≤ 1048576) : Calls Tryz.prog 13 #[.slice a n cap, .int .i64 (l : Int)] w fun e w' => e = .returned (.int .i64 (szN l n)) ∧ w' = w := by
  unfold maxLen at hn
  by_cases h : n ≤ l
  · rw [szN_yes h]
    obtain ⟨d, hd⟩ : ∃ d, l - n = d := ⟨_, rfl⟩
    rw [hd]
    have e : IntKind.i64.wrap ((l : Int) - (n : Int)) = (d : Int) := by rw [IntKind.wrap_i64]; omega
    have h0 : ¬ ((d : Int) < 0) := by omega
    go_enter Tryz.func13, Tryz.ntmps13
    go_wp2
    go_ret
    exact ⟨rfl, rfl⟩
  · rw [szN_no h]
    have e : IntKind.i64.wrap ((l : Int) - (n : Int)) = (l : Int) - (n : Int) := by rw [IntKind.wrap_i64]; omega
    have h0 : (l : Int) - (n : Int) < 0 := by omega
    go_enter Tryz.func13, Tryz.ntmps13
    go_wp2
    go_ret
    exact ⟨rfl, rfl⟩
set_option maxHeartbeats 4000000 in
theorem szSl_any (s : Sl) (a6 a11 a12 : Option Addr) (c6 c11 c12 l : Nat) (w : World) (h : SlI w s a6) (hl : l ≤ 1048576) :
    Calls Tryz.prog 81 #[slV s (.slice a6 s.p.m c6) (.slice a11 s.ze.length c11) (.slice a12 s.zr.length c12), .int .i64 (l : Int)] w fun e w' => e = .returned (.int .i64 (szN l (wtS s))) ∧ Below w.heap.size w w' := by
  obtain ⟨r, p, fh, fe, fd, fo, ze, zr⟩ := s
  obtain ⟨hr, hpr, hpb, htx, hne, hnr⟩ := h
  simp only at hr hpr hpb htx hne hnr
  have HWT : Hid (wtS ⟨r, p, fh, fe, fd, fo, ze, zr⟩ = r.size + wtP p + ze.length + zr.length) := rfl
  rw [HWT.out]
  simp only
  obtain ⟨A, HA⟩ : ∃ x, Hid (x = w.heap.size) := ⟨_, rfl⟩
  obtain ⟨w0, HW0⟩ : ∃ x, Hid (x = w.alloc (.cells (slC ⟨r, p, fh, fe, fd, fo, ze, zr⟩ (.slice a6 p.m c6) (.slice a11 ze.length c11) (.slice a12 zr.length c12)) 141)) := ⟨_, rfl⟩
  have RA : Hid (Row w0 A 141 (slC ⟨r, p, fh, fe, fd, fo, ze, zr⟩ (.slice a6 p.m c6) (.slice a11 ze.length c11) (.slice a12 zr.length c12))) := by
    show Row _ _ _ _
    rw [HW0.out, HA.out]
    exact Row.new w _ _
  have hb0 : Below w.heap.size w w0 := by rw [HW0.out]; exact (Below.refl _ _).alloc (Nat.le_refl _) _
  have KB0 : Hid (Below w.heap.size w w0) := hb0
  have KP : Hid (∀ l1 : Nat, l1 ≤ 1048576 → Calls Tryz.prog 15 #[pcV p.r p.k p.n p.i p.b (.slice a6 p.m c6), .int .i64 (l1 : Int)] w0 fun e w' => e = .returned (.int .i64 (szN l1 (wtP p))) ∧ Below w0.heap.size w0 w') := fun l1 h1 => by
    rw [← szPc_eq]
    exact szPc_any p.r p.k p.n p.i p.b a6 p.m c6 p.S l1 w0 (htx.1.below hb0) h1 htx.2.1 htx.2.2 hpr hpb
  have KE : Hid (∀ (l1 : Nat) W, l1 ≤ 1048576 → Calls Tryz.prog 13 #[.slice a11 ze.length c11, .int .i64 (l1 : Int)] W fun e w' => e = .returned (.int .i64 (szN l1 ze.length)) ∧ w' = W) := fun l1 W h1 => szI_any a11 _ c11 l1 W hne h1
  have KZ : Hid (∀ (l1 : Nat) W, l1 ≤ 1048576 → Calls Tryz.prog 13 #[.slice a12 zr.length c12, .int .i64 (l1 : Int)] W fun e w' => e = .returned (.int .i64 (szN l1 zr.length)) ∧ w' = W) := fun l1 W h1 => szI_any a12 _ c12 l1 W hnr h1
  obtain ⟨pr, pk, pn, pi, pb, m, S⟩ := p
  simp only at *
  obtain ⟨x, hx⟩ : ∃ x, r.size = x := ⟨_, rfl⟩
  rw [hx] at hr ⊢
  unfold maxLen at hr
  generalize ze.length = le at *
  generalize zr.length = lr at *
  generalize wtP ⟨pr, pk, pn, pi, pb, m, S⟩ = wp at *
  clear hpr hpb htx hne hnr hb0 HWT
  by_cases h1 : x ≤ l
  case neg =>
    rw [szN_no (by omega)]
    have e1 : IntKind.i64.wrap ((l : Int) - (x : Int)) = (l : Int) - (x : Int) := by rw [IntKind.wrap_i64]; omega
    have n1 : (l : Int) - (x : Int) < 0 := by omega
    go_enter Tryz.func81, Tryz.ntmps81
    go_wp2
    go_ret
    exact ⟨rfl, by rw [← HW0.out]; exact KB0.out⟩
  obtain ⟨l1, hl1⟩ : ∃ l1, l = x + l1 := ⟨l - x, by omega⟩
  have e1 : IntKind.i64.wrap ((l : Int) - (x : Int)) = (l1 : Int) := by rw [IntKind.wrap_i64]; omega
  have n1 : ¬ ((l1 : Int) < 0) := by omega
  have KP1 : Hid _ := KP.out l1 (by omega)
  by_cases h2 : wp ≤ l1
  case neg =>
    rw [szN_no (by omega)]
    rw [szN_no h2] at KP1
    clear hl1
    go_enter Tryz.func81, Tryz.ntmps81
    go_wp2_with fail
    rw [← HW0.out]
    refine Calls.mono KP1.out ?_
    rintro e w1 ⟨rfl, b1⟩
    go_wp2
    go_ret
    exact ⟨rfl, below2 KB0.out b1⟩
  obtain ⟨l2, hl2⟩ : ∃ l2, l1 = wp + l2 := ⟨l1 - wp, by omega⟩
  have n2 : ¬ ((l2 : Int) < 0) := by omega
  rw [szN_yes h2, show l1 - wp = l2 by omega] at KP1
  have KE1 : Hid (∀ W, _) := fun W => KE.out l2 W (by omega)
  by_cases h3 : le ≤ l2
  case neg =>
    rw [szN_no (by omega)]
    rw [szN_no h3] at KE1
    clear hl1 hl2
    go_enter Tryz.func81, Tryz.ntmps81
    go_wp2_with fail
    rw [← HW0.out, ← HA.out]
    refine Calls.mono KP1.out ?_
    rintro e w1 ⟨rfl, b1⟩
    have x11 := (RA.out.below b1 RA.out.lt).cell 11
    simp at x11
    go_wp2_with fail
    refine Calls.mono (KE1.out _) ?_
    rintro e w2 ⟨rfl, hw⟩
    obtain rfl := hw.symm
    clear hw
    go_wp2
    go_ret
    exact ⟨rfl, below2 KB0.out b1⟩
  obtain ⟨l3, hl3⟩ : ∃ l3, l2 = le + l3 := ⟨l2 - le, by omega⟩
  have n3 : ¬ ((l3 : Int) < 0) := by omega
  rw [szN_yes h3, show l2 - le = l3 by omega] at KE1
  have KZ1 : Hid (∀ W, _) := fun W => KZ.out l3 W (by omega)
  by_cases h4 : lr ≤ l3
  case neg =>
    rw [szN_no (by omega)]
    rw [szN_no h4] at KZ1
    clear hl1 hl2 hl3
    go_enter Tryz.func81, Tryz.ntmps81
    go_wp2_with fail
    rw [← HW0.out, ← HA.out]
    refine Calls.mono KP1.out ?_
    rintro e w1 ⟨rfl, b1⟩
    have x11 := (RA.out.below b1 RA.out.lt).cell 11
    have x12 := (RA.out.below b1 RA.out.lt).cell 12
    simp at x11 x12
    go_wp2_with fail
    refine Calls.mono (KE1.out _) ?_
    rintro e w2 ⟨rfl, hw⟩
    obtain rfl := hw.symm
    clear hw
    go_wp2_with fail
    refine Calls.mono (KZ1.out _) ?_
    rintro e w3 ⟨rfl, hw⟩
    obtain rfl := hw.symm
    clear hw
    go_wp2
    go_ret
    exact ⟨rfl, below2 KB0.out b1⟩
  obtain ⟨l4, hl4⟩ : ∃ l4, l3 = lr + l4 := ⟨l3 - lr, by omega⟩
  have n4 : ¬ ((l4 : Int) < 0) := by omega
  rw [szN_yes h4, show l3 - lr = l4 by omega] at KZ1
  rw [szN_yes (by omega), show l - (x + wp + le + lr) = l4 by omega]
  clear hl1 hl2 hl3 hl4
  go_enter Tryz.func81, Tryz.ntmps81
  go_wp2_with fail
  rw [← HW0.out, ← HA.out]
  refine Calls.mono KP1.out ?_
  rintro e w1 ⟨rfl, b1⟩
  have x11 := (RA.out.below b1 RA.out.lt).cell 11
  have x12 := (RA.out.below b1 RA.out.lt).cell 12
  simp at x11 x12
  go_wp2_with fail
  refine Calls.mono (KE1.out _) ?_
  rintro e w2 ⟨rfl, hw⟩
  obtain rfl := hw.symm
  clear hw
  go_wp2_with fail
  refine Calls.mono (KZ1.out _) ?_
  rintro e w3 ⟨rfl, hw⟩
  obtain rfl := hw.symm
  clear hw
  go_wp2
  go_ret
  exact ⟨rfl, below2 KB0.out b1⟩
/-- The same without its memory. -/
structure SlB (s : Sl) : Prop where
  r : s.r.size ≤ maxLen
  pr : s.p.r.size ≤ maxLen
  pb : s.p.b.size ≤ maxLen
  m : s.p.m ≤ maxLen
  tx : ∀ i, i < s.p.m → (s.p.S i).size ≤ maxLen
  ne : s.ze.length ≤ maxLen
  nr : s.zr.length ≤ maxLen
theorem SlB.i {s : Sl} (h : SlB s) {w : World} {a6 : Option Addr} (ht : TxtAt w a6 s.p.m s.p.S) : SlI w s a6 := ⟨h.r, h.pr, h.pb, ⟨ht, h.m, h.tx⟩, h.ne, h.nr⟩
def wtL (n : Nat) (S : Nat → Sl) : Nat := n + tot (fun i => wtS (S i)) n
theorem Tryz.infoSlL : (Tryz.prog.info? 141).map (·.size) = some 13 := by kernel_rfl
set_option maxHeartbeats 4000000 in
theorem szSls_any (a : Option Addr) (n cap : Nat) (S : Nat → Sl) (l : Nat) (w : World) (h : Rd w (slsD n S) (.slice a n cap)) (hl : l ≤ 1048576) (hn : n ≤ maxLen) (hL : ∀ i, i < n → SlB (S i)) :
    Calls Tryz.prog 54 #[.slice a n cap, .int .i64 (l : Int)] w fun e w' => e = .returned (.int .i64 (szN l (wtL n S))) ∧ Below w.heap.size w w' := by
  unfold maxLen at hn
  by_cases h1 : n ≤ l
  · obtain ⟨d, hd⟩ : ∃ d, l - n = d := ⟨_, rfl⟩
    have hw : IntKind.i64.wrap ((l : Int) - (n : Int)) = (d : Int) := by rw [IntKind.wrap_i64]; omega
    have h0 : ¬ ((d : Int) < 0) := by omega
    have KL : Hid (∀ i, i < n → SlB (S i)) := hL
    have KH : Hid (Rd w (slsD n S) (.slice a n cap)) := h
    clear hL h
    go_enter Tryz.func54, Tryz.ntmps54
    go_wp2
    go_loopw [1, 5] (fun p i wr => ∃ c q : Nat, c ≤ n ∧ q ≤ 1048576 ∧ Hid (tot (fun i => wtS (S i)) c + q = d) ∧ p = .int .i64 (q : Int) ∧ i = .int .i64 (c : Int) ∧ Below w.heap.size w wr) (fun _ i _ => n - (intOf i).toNat)
    case atStart => exact ⟨0, d, Nat.zero_le _, by omega, by show 0 + d = d; omega, rfl, rfl, Below.refl _ _⟩
    case round =>
      obtain ⟨c, q, hc, hq, HT, rfl, rfl, hbel⟩ := hrel
      clear hw h0
      by_cases hlt : c < n
      · obtain ⟨b1, f1, y1, p6, p11, p12, q6, q11, q12, rfl, hc1, e1, ht1, he1, hz1⟩ := slot_row (KH.out.below hbel) hlt
        have hti := tot_le (fun i => wtS (S i)) hlt
        have hlti : (c : Int) < (n : Int) := by omega
        have HT' := HT.out
        obtain ⟨lc, HLC⟩ : ∃ x, Hid (wtS (S c) = x) := ⟨_, rfl⟩
        have KTS : Hid (tot (fun i => wtS (S i)) (c + 1) = tot (fun i => wtS (S i)) c + lc) := by rw [← HLC.out]; rfl
        have hti' : tot (fun i => wtS (S i)) c + lc ≤ tot (fun i => wtS (S i)) n := by rw [← HLC.out]; exact hti
        have KZ : Hid (Calls Tryz.prog 81 #[ag13 y1, .int .i64 (q : Int)] wr fun e w' => e = .returned (.int .i64 (szN q lc)) ∧ Below wr.heap.size wr w') := by
          rw [e1, ← HLC.out]
          exact szSl_any (S c) p6 p11 p12 q6 q11 q12 q wr ((KL.out c hlt).i ht1) hq
        obtain ⟨_, x⟩ := one_row (sz := 12) wr (Below.refl _ _) hc1
        have R1 : Hid (wr.rangeAt b1 (f1 + c * 13) [y1 0, y1 1, y1 2, y1 3, y1 4, y1 5, y1 6, y1 7, y1 8, y1 9, y1 10, y1 11, y1 12]) := range13 x
        have KB : Hid (Below w.heap.size w wr) := hbel
        clear hti hc1 e1 ht1 he1 hz1 x hbel
        by_cases h2 : lc ≤ q
        · obtain ⟨q', hq'⟩ : ∃ q', q - lc = q' := ⟨_, rfl⟩
          have h3 : ¬ ((q' : Int) < 0) := by omega
          have HT2 : Hid (tot (fun i => wtS (S i)) (c + 1) + q' = d) := by show _ = _; rw [KTS.out]; omega
          have hq2 : q' ≤ 1048576 := by omega
          rw [szN_yes h2, hq'] at KZ
          clear HT HT' hti' KTS
          go_wp2_with (refine wpList_load_mid (by rfl) 141 _ (by rfl) b1 (f1 + c * 13) (by rfl) _ _ R1.out Tryz.underlying141 (by rfl) Tryz.infoSlL ?_)
          refine Calls.mono KZ.out ?_
          rintro e w1 ⟨rfl, bb⟩
          have KB1 : Hid (Below w.heap.size w w1) := below2 KB.out bb
          clear bb KZ R1
          go_wp2
          go_roundw
          case rel => exact ⟨c + 1, q', by omega, hq2, HT2, rfl, by go_num, KB1.out⟩
          case measure => simp [intOf] <;> omega
        · have HR : Hid (szN l (wtL n S) = -1) := szN_no (by unfold wtL; omega)
          rw [szN_no h2] at KZ
          clear HT HT' hti' KTS
          go_wp2_with (refine wpList_load_mid (by rfl) 141 _ (by rfl) b1 (f1 + c * 13) (by rfl) _ _ R1.out Tryz.underlying141 (by rfl) Tryz.infoSlL ?_)
          refine Calls.mono KZ.out ?_
          rintro e w1 ⟨rfl, bb⟩
          have KB1 : Hid (Below w.heap.size w w1) := below2 KB.out bb
          clear bb KZ R1
          go_wp2
          go_ret
          exact ⟨ret_int HR.out.symm, KB1.out⟩
      · obtain rfl : c = n := by omega
        have HR : Hid (szN l (wtL c S) = (q : Int)) := by
          have := HT.out
          have e : l - (c + tot (fun i => wtS (S i)) c) = q := by omega
          exact (szN_yes (by unfold wtL; omega)).trans (by unfold wtL; rw [e])
        clear KH
        go_wp2
        go_ret
        exact ⟨ret_int HR.out.symm, hbel⟩
  · have h0 : (l : Int) - (n : Int) < 0 := by omega
    have hw : IntKind.i64.wrap ((l : Int) - (n : Int)) = (l : Int) - (n : Int) := by rw [IntKind.wrap_i64]; omega
    have HR : Hid (szN l (wtL n S) = -1) := szN_no (by unfold wtL; omega)
    clear h hL
    go_enter Tryz.func54, Tryz.ntmps54
    go_wp2
    go_ret
    exact ⟨ret_int HR.out.symm, Below.refl _ _⟩
set_option maxHeartbeats 1000000 in
theorem szNd_any (id f : Int) (a : Option Addr) (n cap : Nat) (S : Nat → Sl) (l : Nat) (w : World) (h : Rd w (slsD n S) (.slice a n cap)) (hl : l ≤ 1048576) (hn : n ≤ maxLen) (hL : ∀ i, i < n → SlB (S i)) :
    Calls Tryz.prog 31 #[.agg #[.int .i64 id, .int .i64 f, .slice a n cap], .int .i64 (l : Int)] w fun e w' => e = .returned (.int .i64 (szN l (wtL n S))) ∧ Below w.heap.size w w' := by
  obtain ⟨w0, HW0⟩ : ∃ x, Hid (x = w.alloc (.cells #[.int .i64 id, .int .i64 f, .slice a n cap] 64)) := ⟨_, rfl⟩
  have hb0 : Below w.heap.size w w0 := by rw [HW0.out]; exact (Below.refl _ _).alloc (Nat.le_refl _) _
  have KB0 : Hid (Below w.heap.size w w0) := hb0
  have KZ : Hid _ := szSls_any a n cap S l w0 (h.below hb0) hl hn hL
  clear h hL hb0
  by_cases h1 : wtL n S ≤ l
  · obtain ⟨d, hd⟩ : ∃ d, l - wtL n S = d := ⟨_, rfl⟩
    rw [szN_yes h1, hd] at KZ
    rw [szN_yes h1, hd]
    have h0 : ¬ ((d : Int) < 0) := by omega
    clear h1 hd
    go_enter Tryz.func31, Tryz.ntmps31
    go_wp2_with fail
    rw [← HW0.out]
    refine Calls.mono KZ.out ?_
    rintro e w1 ⟨rfl, b1⟩
    go_wp2
    go_ret
    exact ⟨rfl, below2 KB0.out b1⟩
  · rw [szN_no h1] at KZ
    rw [szN_no h1]
    clear h1
    go_enter Tryz.func31, Tryz.ntmps31
    go_wp2_with fail
    rw [← HW0.out]
    refine Calls.mono KZ.out ?_
    rintro e w1 ⟨rfl, b1⟩
    go_wp2
    go_ret
    exact ⟨rfl, below2 KB0.out b1⟩
end Go.Proofs.YtodpgbmpfflkoaaGreatDoor
/- Lists of structs that are handed in, read as the form reads them; slots and nodes. No condition. -/
namespace Go.Proofs.YtodpgbmpfflkoaaGreatDoor
set_option maxRecDepth 2000
open Go.ChangeShapes Go.WideShapes Go.ChangeAt Go.RowKit

theorem open_list {H : Type} {enc : TypeId × Value → H} {w : World} {base : Nat} {spare : Nat → Bool} {held : Bool} {α : Type} (z : α) {T e sz : Nat} (t' : Nat) (D : α → Nat → Dt) (Bd : α → Prop) (hu : Tryz.prog.underlying T = some (.slice e)) (hc : Tryz.prog.cellsOf e = sz) (hpos : 0 < sz)
    (each : ∀ {fuel : Nat} {cs : List Value} {x : DataW H × List MemPlace}, DataW.trod enc Tryz.prog w base spare held fuel e cs = some x → ∃ y : α, cs.length = sz ∧ (∀ q, q < sz → Rd w (D y q) (cs.getD q undef)) ∧ Bd y)
    {fuel : Nat} {a : Option Addr} {n c : Nat} {x : DataW H × List MemPlace} (h : DataW.trod enc Tryz.prog w base spare held fuel T [.slice a n c] = some x) :
    ∃ P : Nat → α, Rd w (.lst t' sz n fun i => D (P i)) (.slice a n c) ∧ n ≤ maxLen ∧ ∀ i, i < n → Bd (P i) := by
  rcases Go.Deep.open_slice hu h with ⟨hcs, _⟩ | ⟨ad, len, cap, m, n', D', Pl, hcs, hb, hl, hm, hmm, _, hx⟩
  · simp at hcs
    obtain ⟨rfl, rfl, rfl⟩ := hcs
    exact ⟨fun _ => z, Rd.nil _ _ _ _ _ _, Nat.zero_le _, fun i hi => absurd hi (Nat.not_lt_zero _)⟩
  · simp at hcs
    obtain ⟨rfl, rfl, rfl⟩ := hcs
    rw [hc] at hx
    have hnm : n ≤ m := by rw [hmm]; split <;> omega
    obtain ⟨b, off, spot⟩ := ad
    have ea : ∀ (b off i : Nat), (⟨b, off, none⟩ : Addr).add i = ⟨b, off + i, none⟩ := fun b off i => by unfold Addr.add; split <;> simp_all
    have each' : ∀ i, ∃ p : α, i < n → spot = none ∧ (∀ q, q < sz → ∃ y, w.cell? ⟨b, off + (i * sz + q), none⟩ = some y ∧ Rd w (D p q) y) ∧ Bd p := fun i => by
      by_cases hi : i < n
      · obtain ⟨cs', h1, h2⟩ := hx i (by omega)
        obtain ⟨p, hlen', hrd, hbd⟩ := each h2
        obtain ⟨_, hlen, hcell⟩ := World.cells?_some h1
        have hspot : spot = none := by
          obtain ⟨cs0, g1, g2⟩ := hx 0 (by omega)
          obtain ⟨_, hlen0, hcell0⟩ := World.cells?_some g1
          have h0 := hcell0 0 hpos
          obtain ⟨v0, hv0⟩ : ∃ v, cs0[0]? = some v := ⟨cs0[0], List.getElem?_eq_getElem (by omega)⟩
          rw [hv0] at h0
          simpa [Addr.add] using World.cell?_spot h0
        subst hspot
        refine ⟨p, fun _ => ⟨rfl, fun q hq => ⟨cs'.getD q undef, ?_, hrd q hq⟩, hbd⟩⟩
        have h3 := hcell q hq
        rw [ea, ea] at h3
        rw [← Nat.add_assoc, h3, List.getD_eq_getElem?_getD, List.getElem?_eq_getElem (by omega)]
        rfl
      · exact ⟨z, fun h => absurd h hi⟩
    obtain ⟨P, hP⟩ := Classical.axiomOfChoice each'
    refine ⟨P, ⟨_, _, rfl, fun i hi => ?_⟩, by omega, fun i hi => (hP i hi).2.2⟩
    obtain ⟨hs, h1, _⟩ := hP i hi
    subst hs
    exact ⟨b, off, rfl, h1⟩
theorem open_ints_at {H : Type} {enc : TypeId × Value → H} {w : World} {base : Nat} {spare : Nat → Bool} {held : Bool} {fuel : Nat} {v : Value} {x : DataW H × List MemPlace} (h : DataW.trod enc Tryz.prog w base spare held fuel 23 [v] = some x) :
    ∃ (a : Option Addr) (zs : List Int) (c : Nat), v = .slice a zs.length c ∧ IntsAt w a zs.length zs ∧ zs.length ≤ maxLen := by
  rcases open_ints Tryz.underlying23 Tryz.underlying3 (by kernel_rfl) h with ⟨hcs, _⟩ | ⟨ad, l, c, zs, hcs, _, hl, hm, hz, _, hcell, hwz⟩
  · simp at hcs
    subst hcs
    exact ⟨none, [], 0, rfl, ⟨rfl, fun i hi => absurd hi (Nat.not_lt_zero _)⟩, Nat.zero_le _⟩
  · simp at hcs
    subst hcs
    have hR : IsRow .i64 w (some ad) l zs.length zs := .inr ⟨_, rfl, by rw [hz]; split <;> omega, by rw [hz]; split <;> omega, rfl, hcell, hwz⟩
    obtain ⟨_, hi, _⟩ := hR.ints
    have e : (zs.take l).length = l := hi.1
    refine ⟨some ad, zs.take l, c, by rw [e], ?_, by rw [e]; omega⟩
    rw [e]
    exact hi
theorem list13 {α : Type} (l : List α) (h : l.length = 13) : ∃ c0 c1 c2 c3 c4 c5 c6 c7 c8 c9 c10 c11 c12, l = [c0, c1, c2, c3, c4, c5, c6, c7, c8, c9, c10, c11, c12] := by
  match l, h with
  | [c0, c1, c2, c3, c4, c5, c6, c7, c8, c9, c10, c11, c12], _ => exact ⟨c0, c1, c2, c3, c4, c5, c6, c7, c8, c9, c10, c11, c12, rfl⟩
theorem list8 {α : Type} (l : List α) (h : l.length = 8) : ∃ c0 c1 c2 c3 c4 c5 c6 c7, l = [c0, c1, c2, c3, c4, c5, c6, c7] := by
  match l, h with
  | [c0, c1, c2, c3, c4, c5, c6, c7], _ => exact ⟨c0, c1, c2, c3, c4, c5, c6, c7, rfl⟩
theorem list3 {α : Type} (l : List α) (h : l.length = 3) : ∃ c0 c1 c2, l = [c0, c1, c2] := by
  match l, h with
  | [c0, c1, c2], _ => exact ⟨c0, c1, c2, rfl⟩
theorem open_slot {H : Type} {enc : TypeId × Value → H} {w : World} {base : Nat} {spare : Nat → Bool} {held : Bool} {fuel : Nat} {cs : List Value} {x : DataW H × List MemPlace} (h : DataW.trod enc Tryz.prog w base spare held fuel 141 cs = some x) :
    ∃ s : Sl, cs.length = 13 ∧ (∀ q, q < 13 → Rd w (slD s q) (cs.getD q undef)) ∧ SlB s := by
  have c13 : Tryz.prog.cellsOf 141 = 13 := by kernel_rfl
  have cp6 : Tryz.prog.cellsOf 48 = 6 := by kernel_rfl
  have cs1 : Tryz.prog.cellsOf 9 = 1 := by kernel_rfl
  have cb1 : Tryz.prog.cellsOf 4 = 1 := by kernel_rfl
  have cl1 : Tryz.prog.cellsOf 23 = 1 := by kernel_rfl
  obtain ⟨xs, f, _, _, hl, hlen, hf⟩ := DataW.trod_struct Tryz.underlying141 h
  rw [c13] at hl
  obtain ⟨c0, c1, c2, c3, c4, c5, c6, c7, c8, c9, c10, c11, c12, rfl⟩ := list13 cs hl
  obtain ⟨y0, y1, y2, y3, y4, y5, y6, y7, rfl⟩ := list8 xs hlen
  have g0 := hf 0 _ rfl
  have g1 := hf 1 _ rfl
  have g2 := hf 2 _ rfl
  have g3 := hf 3 _ rfl
  have g4 := hf 4 _ rfl
  have g5 := hf 5 _ rfl
  have g6 := hf 6 _ rfl
  have g7 := hf 7 _ rfl
  simp [cs1, cp6, cb1, cl1] at g0 g1 g2 g3 g4 g5 g6 g7
  obtain ⟨r, e0, _, hr⟩ := DataW.trod_string Tryz.underlying9 g0
  obtain ⟨pr, pk, pn, pi, pb, pa, pm, pc, pS, e1, _, hpr, hpb, ht⟩ := open_piece g1
  obtain ⟨bh, e2, _⟩ := DataW.trod_bool Tryz.underlying4 g2
  obtain ⟨be, e3, _⟩ := DataW.trod_bool Tryz.underlying4 g3
  obtain ⟨bd, e4, _⟩ := DataW.trod_bool Tryz.underlying4 g4
  obtain ⟨bo, e5, _⟩ := DataW.trod_bool Tryz.underlying4 g5
  obtain ⟨a1, ze, z1, e6, i1, n1⟩ := open_ints_at g6
  obtain ⟨a2, zr, z2, e7, i2, n2⟩ := open_ints_at g7
  simp at e0 e1 e2 e3 e4 e5
  obtain ⟨rfl, rfl, rfl, rfl, rfl, rfl⟩ := e1
  subst e0 e2 e3 e4 e5 e6 e7
  refine ⟨⟨r, ⟨pr, pk, pn, pi, pb, pm, pS⟩, bh, be, bd, bo, ze, zr⟩, rfl, fun q hq => ?_, ⟨hr, hpr, hpb, ht.2.1, ht.2.2, n1, n2⟩⟩
  match q, hq with
  | 0, _ | 1, _ | 2, _ | 3, _ | 4, _ | 5, _ | 7, _ | 8, _ | 9, _ | 10, _ => rfl
  | 6, _ => exact rd_txt.2 ht.1
  | 11, _ => exact rd_ints.2 i1
  | 12, _ => exact rd_ints.2 i2
theorem open_slots {H : Type} {enc : TypeId × Value → H} {w : World} {base : Nat} {spare : Nat → Bool} {held : Bool} {fuel : Nat} {a : Option Addr} {n c : Nat} {x : DataW H × List MemPlace} (h : DataW.trod enc Tryz.prog w base spare held fuel 62 [.slice a n c] = some x) :
    ∃ S : Nat → Sl, Rd w (slsD n S) (.slice a n c) ∧ n ≤ maxLen ∧ ∀ i, i < n → SlB (S i) :=
  open_list ⟨ByteArray.empty, ⟨ByteArray.empty, 0, 0, 0, ByteArray.empty, 0, fun _ => ByteArray.empty⟩, false, false, false, false, [], []⟩ 76 slD SlB Tryz.underlying62 (by kernel_rfl) (by omega) open_slot h
theorem open_node {H : Type} {enc : TypeId × Value → H} {w : World} {base : Nat} {spare : Nat → Bool} {held : Bool} {fuel : Nat} {cs : List Value} {x : DataW H × List MemPlace} (h : DataW.trod enc Tryz.prog w base spare held fuel 64 cs = some x) :
    ∃ (id f : Int) (a : Option Addr) (n c : Nat) (S : Nat → Sl), cs = [.int .i64 id, .int .i64 f, .slice a n c] ∧ Rd w (slsD n S) (.slice a n c) ∧ n ≤ maxLen ∧ ∀ i, i < n → SlB (S i) := by
  have c3 : Tryz.prog.cellsOf 64 = 3 := by kernel_rfl
  have ci1 : Tryz.prog.cellsOf 3 = 1 := by kernel_rfl
  have cl1 : Tryz.prog.cellsOf 62 = 1 := by kernel_rfl
  obtain ⟨xs, f, _, _, hl, hlen, hf⟩ := DataW.trod_struct Tryz.underlying64 h
  rw [c3] at hl
  obtain ⟨c0, c1, c2, rfl⟩ := list3 cs hl
  obtain ⟨y0, y1, y2, rfl⟩ := list3 xs hlen
  have g0 := hf 0 _ rfl
  have g1 := hf 1 _ rfl
  have g2 := hf 2 _ rfl
  simp [ci1, cl1] at g0 g1 g2
  obtain ⟨id, e0, _, u0⟩ := DataW.trod_int Tryz.underlying3 g0
  obtain ⟨ff, e1, _, u1⟩ := DataW.trod_int Tryz.underlying3 g1
  simp at e0 e1
  subst e0 e1
  obtain ⟨a, n, c, rfl⟩ : ∃ a n c, c2 = .slice a n c := by
    rcases Go.Deep.open_slice Tryz.underlying62 g2 with ⟨hcs, _⟩ | ⟨ad, len, cap, m, n', D', Pl, hcs, _⟩
    · simp at hcs
      exact ⟨none, 0, 0, hcs⟩
    · simp at hcs
      exact ⟨some ad, len, cap, hcs⟩
  obtain ⟨S, h1, h2, h3⟩ := open_slots g2
  exact ⟨id, ff, a, n, c, S, rfl, h1, h2, h3⟩
end Go.Proofs.YtodpgbmpfflkoaaGreatDoor
/- Slots, lists of slots and nodes, copied by the exact laws: the copies lie in new memory. Conditions: no list is longer than 2^20. Written by mknto.py. -/
namespace Go.Proofs.YtodpgbmpfflkoaaGreatDoor
set_option maxRecDepth 2000
open Go.ChangeShapes Go.WideShapes Go.ChangeAt Go.RowKit

/-- A row of numbers that is ours, as a datum. -/
theorem ow_ints {w : World} {B : Nat} {a : Option Addr} {cap : Nat} {zs : List Int} {F : Nat → Prop} (h : w.ownsRow B 3 1 (.slice a zs.length cap) zs.length (zs.map (Value.int .i64))) (hF : ∀ x, a = some x → F x.block) : Ow w B (inD zs) (.slice a zs.length cap) F := by
  refine ⟨a, cap, fun i _ => .int .i64 (zs.getD i 0), fun _ _ _ => False, rfl, ?_, ⟨hF, fun _ _ _ _ _ h => h.elim, fun _ _ _ _ _ _ h => h, fun _ _ _ _ _ _ _ _ _ h => h.elim⟩, fun _ _ _ _ => rfl⟩
  have : cL 1 (fun i _ => Value.int .i64 (zs.getD i 0)) zs.length = zs.map (Value.int .i64) := by
    apply List.ext_getElem?
    intro i
    by_cases hi : i < zs.length
    · have := cL_get 1 (fun i _ => Value.int .i64 (zs.getD i 0)) zs.length i 0 hi (by omega)
      rw [Nat.mul_one, Nat.add_zero] at this
      rw [this]
      simp [hi]
    · rw [List.getElem?_eq_none (by rw [cL_len]; omega), List.getElem?_eq_none (by simp; omega)]
  rw [this]
  exact h
theorem grown_row (w : World) (g : Nat) (cs : Array Value) : w.grownBy (w.setRow g cs) (some g) := ⟨rfl, rfl, rfl, by simp, fun i _ hi => setRow_other _ _ _ _ (fun e => hi (by simp [e]))⟩
theorem World.size_setCells (b : Nat) : ∀ (vs : List Value) (o : Nat) (w : World), (w.setCells b o vs).heap.size = w.heap.size
  | [], _, _ => rfl
  | v :: r, o, w => by rw [World.setCells, World.size_setCells b r (o + 1) _]; simp
set_option maxHeartbeats 4000000 in
theorem toSl_any (s : Sl) (a6 a11 a12 : Option Addr) (c6 c11 c12 : Nat) (w : World) (h6 : TxtAt w a6 s.p.m s.p.S) (h11 : IntsAt w a11 s.ze.length s.ze) (h12 : IntsAt w a12 s.zr.length s.zr) (hs : SlS s) :
    Calls Tryz.prog 94 #[slV s (.slice a6 s.p.m c6) (.slice a11 s.ze.length c11) (.slice a12 s.zr.length c12)] w fun e w' => ∃ g6 g11 g12 : Nat, e = .returned (slV s (.slice (some ⟨g6, 0, none⟩) s.p.m s.p.m) (.slice (some ⟨g11, 0, none⟩) s.ze.length s.ze.length) (.slice (some ⟨g12, 0, none⟩) s.zr.length s.zr.length)) ∧
      w.heap.size ≤ g6 ∧ g6 < g11 ∧ g11 < g12 ∧ g12 < w'.heap.size ∧ Ow w' w.heap.size (txD s.p.m s.p.S) (.slice (some ⟨g6, 0, none⟩) s.p.m s.p.m) (fun g => g = g6) ∧ Ow w' w.heap.size (inD s.ze) (.slice (some ⟨g11, 0, none⟩) s.ze.length s.ze.length) (fun g => g = g11) ∧ Ow w' w.heap.size (inD s.zr) (.slice (some ⟨g12, 0, none⟩) s.zr.length s.zr.length) (fun g => g = g12) ∧ Below w.heap.size w w' := by
  obtain ⟨r, p, fh, fe, fd, fo, ze, zr⟩ := s
  obtain ⟨pr, pk, pn, pi, pb, m, S⟩ := p
  obtain ⟨hm, he, hz⟩ := hs
  simp only at h6 h11 h12 hm he hz ⊢
  obtain ⟨A, HA⟩ : ∃ x, Hid (x = w.heap.size) := ⟨_, rfl⟩
  obtain ⟨D, HD⟩ : ∃ x, Hid (x = w.heap.size + 1) := ⟨_, rfl⟩
  obtain ⟨V, HV⟩ : ∃ x, Hid (x = w.heap.size + 1 + 1) := ⟨_, rfl⟩
  obtain ⟨w0, HW0⟩ : ∃ x, Hid (x = ((w.alloc (.cells (slC ⟨r, ⟨pr, pk, pn, pi, pb, m, S⟩, fh, fe, fd, fo, ze, zr⟩ (.slice a6 m c6) (.slice a11 ze.length c11) (.slice a12 zr.length c12)) 141)).alloc (.cells #[.string ⟨#[]⟩, .string ⟨#[]⟩, .int .i64 0, .int .i64 0, .int .i64 0, .string ⟨#[]⟩, .slice none 0 0, .bool false, .bool false, .bool false, .bool false, .slice none 0 0, .slice none 0 0] 76)).alloc (.cells #[.string r, .string ⟨#[]⟩, .int .i64 0, .int .i64 0, .int .i64 0, .string ⟨#[]⟩, .slice none 0 0, .bool false, .bool false, .bool false, .bool false, .slice none 0 0, .slice none 0 0] 76)) := ⟨_, rfl⟩
  have RA : Hid (Row w0 A 141 (slC ⟨r, ⟨pr, pk, pn, pi, pb, m, S⟩, fh, fe, fd, fo, ze, zr⟩ (.slice a6 m c6) (.slice a11 ze.length c11) (.slice a12 zr.length c12))) := by show Row _ _ _ _; rw [HW0.out, HA.out]; exact Row.alloc (Row.alloc (Row.new w _ _) _) _
  have RD : Hid (Row w0 D 76 #[.string ⟨#[]⟩, .string ⟨#[]⟩, .int .i64 0, .int .i64 0, .int .i64 0, .string ⟨#[]⟩, .slice none 0 0, .bool false, .bool false, .bool false, .bool false, .slice none 0 0, .slice none 0 0]) := by
    show Row _ _ _ _
    rw [HW0.out, HD.out]
    have := Row.new (w.alloc (.cells (slC ⟨r, ⟨pr, pk, pn, pi, pb, m, S⟩, fh, fe, fd, fo, ze, zr⟩ (.slice a6 m c6) (.slice a11 ze.length c11) (.slice a12 zr.length c12)) 141)) #[.string ⟨#[]⟩, .string ⟨#[]⟩, .int .i64 0, .int .i64 0, .int .i64 0, .string ⟨#[]⟩, .slice none 0 0, .bool false, .bool false, .bool false, .bool false, .slice none 0 0, .slice none 0 0] 76
    exact Row.alloc (by simpa using this) _
  have RV : Hid (Row w0 V 76 #[.string r, .string ⟨#[]⟩, .int .i64 0, .int .i64 0, .int .i64 0, .string ⟨#[]⟩, .slice none 0 0, .bool false, .bool false, .bool false, .bool false, .slice none 0 0, .slice none 0 0]) := by
    show Row _ _ _ _
    rw [HW0.out, HV.out]
    have := Row.new ((w.alloc (.cells (slC ⟨r, ⟨pr, pk, pn, pi, pb, m, S⟩, fh, fe, fd, fo, ze, zr⟩ (.slice a6 m c6) (.slice a11 ze.length c11) (.slice a12 zr.length c12)) 141)).alloc (.cells #[.string ⟨#[]⟩, .string ⟨#[]⟩, .int .i64 0, .int .i64 0, .int .i64 0, .string ⟨#[]⟩, .slice none 0 0, .bool false, .bool false, .bool false, .bool false, .slice none 0 0, .slice none 0 0] 76)) #[.string r, .string ⟨#[]⟩, .int .i64 0, .int .i64 0, .int .i64 0, .string ⟨#[]⟩, .slice none 0 0, .bool false, .bool false, .bool false, .bool false, .slice none 0 0, .slice none 0 0] 76
    simpa using this
  have hb0 : Below w.heap.size w w0 := by rw [HW0.out]; exact (((Below.refl _ _).alloc (Nat.le_refl _) _).alloc (by simp) _).alloc (by simp; omega) _
  have hVD : Hid (V ≠ D ∧ A ≠ V ∧ A ≠ D ∧ w.heap.size ≤ D ∧ w.heap.size ≤ V ∧ V < w0.heap.size ∧ D < w0.heap.size) := by
    have h1 := HV.out; have h2 := HD.out; have h3 := HA.out
    exact ⟨by omega, by omega, by omega, by omega, by omega, RV.out.lt, RD.out.lt⟩
  have KB0 : Hid (Below w.heap.size w w0) := hb0
  have KP : Hid _ := toPc_any pr pk pn pi pb a6 m c6 S w0 (h6.below hb0) hm
  have KEW : Hid (∀ W, Below w.heap.size w W → Calls Tryz.prog 20 #[.slice a11 ze.length c11] W fun e w' => e = .returned (.slice (some ⟨W.heap.size, 0, none⟩) ze.length ze.length) ∧ w'.ownsRow W.heap.size 3 1 (.slice (some ⟨W.heap.size, 0, none⟩) ze.length ze.length) ze.length (ze.map (Value.int .i64)) ∧ Below W.heap.size W w') := fun W hW => toIntS_any a11 _ c11 ze W (h11.below hW) he
  have KZW : Hid (∀ W, Below w.heap.size w W → Calls Tryz.prog 20 #[.slice a12 zr.length c12] W fun e w' => e = .returned (.slice (some ⟨W.heap.size, 0, none⟩) zr.length zr.length) ∧ w'.ownsRow W.heap.size 3 1 (.slice (some ⟨W.heap.size, 0, none⟩) zr.length zr.length) zr.length (zr.map (Value.int .i64)) ∧ Below W.heap.size W w') := fun W hW => toIntS_any a12 _ c12 zr W (h12.below hW) hz
  obtain ⟨le, HLE⟩ : ∃ x, Hid (ze.length = x) := ⟨_, rfl⟩
  obtain ⟨lr, HLR⟩ : ∃ x, Hid (zr.length = x) := ⟨_, rfl⟩
  have OI : Hid (∀ (B : Nat) (W : World) (g : Nat), W.ownsRow B 3 1 (.slice (some ⟨g, 0, none⟩) le le) le (ze.map (Value.int .i64)) → Ow W B (inD ze) (.slice (some ⟨g, 0, none⟩) le le) (fun x => x = g)) := fun B W g ho => by
    rw [← HLE.out] at ho ⊢
    exact ow_ints ho (fun x e => by cases e; rfl)
  have OZ : Hid (∀ (B : Nat) (W : World) (g : Nat), W.ownsRow B 3 1 (.slice (some ⟨g, 0, none⟩) lr lr) lr (zr.map (Value.int .i64)) → Ow W B (inD zr) (.slice (some ⟨g, 0, none⟩) lr lr) (fun x => x = g)) := fun B W g ho => by
    rw [← HLR.out] at ho ⊢
    exact ow_ints ho (fun x e => by cases e; rfl)
  rw [HLE.out] at KEW RA HW0 ⊢
  rw [HLR.out] at KZW RA HW0 ⊢
  clear h6 h11 h12 hm he hz hb0
  go_enter Tryz.func94, Tryz.ntmps94
  go_wp2_with fail
  rw [← HW0.out, ← HV.out, ← HD.out, ← HA.out]
  refine Calls.mono KP.out ?_
  rintro e w1 ⟨g6, rfl, O6, b1⟩
  have S6 : Hid (w0.heap.size ≤ g6 ∧ g6 < w1.heap.size) := World.ownsRow.lt O6 g6 rfl
  have A1 := RA.out.below b1 RA.out.lt
  have D1 : Hid (Row w1 D 76 #[.string ⟨#[]⟩, .string ⟨#[]⟩, .int .i64 0, .int .i64 0, .int .i64 0, .string ⟨#[]⟩, .slice none 0 0, .bool false, .bool false, .bool false, .bool false, .slice none 0 0, .slice none 0 0]) := RD.out.below b1 RD.out.lt
  have V1 := RV.out.below b1 RV.out.lt
  have x7 := A1.cell 7
  have x8 := A1.cell 8
  have x9 := A1.cell 9
  have x10 := A1.cell 10
  have x11 := A1.cell 11
  have y1 := V1.cell 1
  have y2 := V1.cell 2
  have y3 := V1.cell 3
  have y4 := V1.cell 4
  have y5 := V1.cell 5
  have y6 := V1.cell 6
  have y7 := V1.cell 7
  have y8 := V1.cell 8
  have y9 := V1.cell 9
  have y10 := V1.cell 10
  have f1 := V1.free 1
  have f2 := V1.free 2
  have f3 := V1.free 3
  have f4 := V1.free 4
  have f5 := V1.free 5
  have f6 := V1.free 6
  have f7 := V1.free 7
  have f8 := V1.free 8
  have f9 := V1.free 9
  have f10 := V1.free 10
  simp at x7 x8 x9 x10 x11 y1 y2 y3 y4 y5 y6 y7 y8 y9 y10
  have TH : Hid (w1.there V 1 6) := fun j hj => by
    match j, hj with
    | 0, _ => exact ⟨by rw [y1]; rfl, f1⟩
    | 1, _ => exact ⟨by rw [y2]; rfl, f2⟩
    | 2, _ => exact ⟨by rw [y3]; rfl, f3⟩
    | 3, _ => exact ⟨by rw [y4]; rfl, f4⟩
    | 4, _ => exact ⟨by rw [y5]; rfl, f5⟩
    | 5, _ => exact ⟨by rw [y6]; rfl, f6⟩
  clear x7 x8 x9 x10 x11 y1 y2 y3 y4 y5 y6 y7 y8 y9 y10 f1 f2 f3 f4 f5 f6 f7 f8 f9 f10
  obtain ⟨wa, HWa⟩ : ∃ x, Hid (x = w1.setCells V 1 (pcC pr pk pn pi pb (.slice (some ⟨g6, 0, none⟩) m m)).toList) := ⟨_, rfl⟩
  have Va : Hid (Row wa V 76 #[.string r, .string pr, .int .i64 pk, .int .i64 pn, .int .i64 pi, .string pb, .slice (some ⟨g6, 0, none⟩) m m, .bool false, .bool false, .bool false, .bool false, .slice none 0 0, .slice none 0 0]) := by show Row _ _ _ _; rw [HWa.out]; exact ((((((V1.set 1 _).set 2 _).set 3 _).set 4 _).set 5 _).set 6 _)
  have Aa : Hid (Row wa A 141 (slC ⟨r, ⟨pr, pk, pn, pi, pb, m, S⟩, fh, fe, fd, fo, ze, zr⟩ (.slice a6 m c6) (.slice a11 le c11) (.slice a12 lr c12))) := by show Row _ _ _ _; rw [HWa.out]; exact ((((((A1.other 1 _ hVD.out.2.1).other 2 _ hVD.out.2.1).other 3 _ hVD.out.2.1).other 4 _ hVD.out.2.1).other 5 _ hVD.out.2.1).other 6 _ hVD.out.2.1)
  have Da : Hid (Row wa D 76 #[.string ⟨#[]⟩, .string ⟨#[]⟩, .int .i64 0, .int .i64 0, .int .i64 0, .string ⟨#[]⟩, .slice none 0 0, .bool false, .bool false, .bool false, .bool false, .slice none 0 0, .slice none 0 0]) := by show Row _ _ _ _; rw [HWa.out]; exact ((((((D1.out.other 1 _ (Ne.symm hVD.out.1)).other 2 _ (Ne.symm hVD.out.1)).other 3 _ (Ne.symm hVD.out.1)).other 4 _ (Ne.symm hVD.out.1)).other 5 _ (Ne.symm hVD.out.1)).other 6 _ (Ne.symm hVD.out.1))
  have O6a : Hid (OwnT wa w0.heap.size (some ⟨g6, 0, none⟩) m m S) := by show OwnT _ _ _ _ _ _; rw [HWa.out]; exact (OwnT.setFar (OwnT.setFar (OwnT.setFar (OwnT.setFar (OwnT.setFar (OwnT.setFar O6 hVD.out.2.2.2.2.2.1) hVD.out.2.2.2.2.2.1) hVD.out.2.2.2.2.2.1) hVD.out.2.2.2.2.2.1) hVD.out.2.2.2.2.2.1) hVD.out.2.2.2.2.2.1)
  have Ba : Hid (Below w.heap.size w wa) := by show Below _ _ _; rw [HWa.out]; exact (Below.setCell (Below.setCell (Below.setCell (Below.setCell (Below.setCell (Below.setCell (below2 KB0.out b1) hVD.out.2.2.2.2.1 _) hVD.out.2.2.2.2.1 _) hVD.out.2.2.2.2.1 _) hVD.out.2.2.2.2.1 _) hVD.out.2.2.2.2.1 _) hVD.out.2.2.2.2.1 _)
  have sza : Hid (w1.heap.size = wa.heap.size) := by show _ = _; rw [HWa.out]; exact (World.size_setCells _ _ _ _).symm
  have x7 := Aa.out.cell 7
  have x8 := Aa.out.cell 8
  have x9 := Aa.out.cell 9
  have x10 := Aa.out.cell 10
  have x11 := Aa.out.cell 11
  have y7 := Va.out.cell 7
  have y8 := Va.out.cell 8
  have y9 := Va.out.cell 9
  have y10 := Va.out.cell 10
  have f7 := Va.out.free 7
  have f8 := Va.out.free 8
  have f9 := Va.out.free 9
  have f10 := Va.out.free 10
  simp at x7 x8 x9 x10 x11 y7 y8 y9 y10
  obtain ⟨w2, HW2⟩ : ∃ x, Hid (x = ((((wa.setCell ⟨V, 7, none⟩ (.bool fh)).setCell ⟨V, 8, none⟩ (.bool fe)).setCell ⟨V, 9, none⟩ (.bool fd)).setCell ⟨V, 10, none⟩ (.bool fo))) := ⟨_, rfl⟩
  have V2 : Hid (Row w2 V 76 #[.string r, .string pr, .int .i64 pk, .int .i64 pn, .int .i64 pi, .string pb, .slice (some ⟨g6, 0, none⟩) m m, .bool fh, .bool fe, .bool fd, .bool fo, .slice none 0 0, .slice none 0 0]) := by show Row _ _ _ _; rw [HW2.out]; exact ((((Va.out.set 7 _).set 8 _).set 9 _).set 10 _)
  have A2 : Hid (Row w2 A 141 (slC ⟨r, ⟨pr, pk, pn, pi, pb, m, S⟩, fh, fe, fd, fo, ze, zr⟩ (.slice a6 m c6) (.slice a11 le c11) (.slice a12 lr c12))) := by show Row _ _ _ _; rw [HW2.out]; exact ((((Aa.out.other 7 _ hVD.out.2.1).other 8 _ hVD.out.2.1).other 9 _ hVD.out.2.1).other 10 _ hVD.out.2.1)
  have D2 : Hid (Row w2 D 76 #[.string ⟨#[]⟩, .string ⟨#[]⟩, .int .i64 0, .int .i64 0, .int .i64 0, .string ⟨#[]⟩, .slice none 0 0, .bool false, .bool false, .bool false, .bool false, .slice none 0 0, .slice none 0 0]) := by show Row _ _ _ _; rw [HW2.out]; exact ((((Da.out.other 7 _ (Ne.symm hVD.out.1)).other 8 _ (Ne.symm hVD.out.1)).other 9 _ (Ne.symm hVD.out.1)).other 10 _ (Ne.symm hVD.out.1))
  have O62 : Hid (OwnT w2 w0.heap.size (some ⟨g6, 0, none⟩) m m S) := by show OwnT _ _ _ _ _ _; rw [HW2.out]; exact (OwnT.setFar (OwnT.setFar (OwnT.setFar (OwnT.setFar O6a.out hVD.out.2.2.2.2.2.1) hVD.out.2.2.2.2.2.1) hVD.out.2.2.2.2.2.1) hVD.out.2.2.2.2.2.1)
  have BW2 : Hid (Below w.heap.size w w2) := by show Below _ _ _; rw [HW2.out]; exact (Below.setCell (Below.setCell (Below.setCell (Below.setCell Ba.out hVD.out.2.2.2.2.1 _) hVD.out.2.2.2.2.1 _) hVD.out.2.2.2.2.1 _) hVD.out.2.2.2.2.1 _)
  have KE2 : Hid (Calls Tryz.prog 20 #[.slice a11 le c11] w2 fun e w' => e = .returned (.slice (some ⟨w2.heap.size, 0, none⟩) le le) ∧ w'.ownsRow w2.heap.size 3 1 (.slice (some ⟨w2.heap.size, 0, none⟩) le le) le (ze.map (Value.int .i64)) ∧ Below w2.heap.size w2 w') := KEW.out w2 BW2.out
  have sz2 : Hid (w1.heap.size = w2.heap.size) := by show _ = _; rw [sza.out, HW2.out]; simp
  clear A1 V1 b1 O6 D1
  go_wp2_with (refine wpList_store_mid (by rfl) 49 _ _ (by rfl) V 1 (pcC pr pk pn pi pb (.slice (some ⟨g6, 0, none⟩) m m)) (by rfl) (by rfl) ?_ Tryz.infoPc (by simp [Value.oneCell']) ?_; exact TH.out; rw [← HWa.out])
  rw [← HW2.out]
  clear x7 x8 x9 x10 x11 y7 y8 y9 y10 f7 f8 f9 f10
  refine Calls.mono KE2.out ?_
  obtain ⟨g11, HG11⟩ : ∃ x, Hid (x = w2.heap.size) := ⟨_, rfl⟩
  rw [← HG11.out]
  rintro e w3 ⟨rfl, O11, b3⟩
  rw [HG11.out] at b3
  have A3 := A2.out.below b3 A2.out.lt
  have D3 : Hid (Row w3 D 76 #[.string ⟨#[]⟩, .string ⟨#[]⟩, .int .i64 0, .int .i64 0, .int .i64 0, .string ⟨#[]⟩, .slice none 0 0, .bool false, .bool false, .bool false, .bool false, .slice none 0 0, .slice none 0 0]) := D2.out.below b3 D2.out.lt
  have V3 := V2.out.below b3 V2.out.lt
  have x12 := A3.cell 12
  have y11 := V3.cell 11
  have f11 := V3.free 11
  simp at x12 y11
  obtain ⟨w4, HW4⟩ : ∃ x, Hid (x = w3.setCell ⟨V, 11, none⟩ (.slice (some ⟨g11, 0, none⟩) le le)) := ⟨_, rfl⟩
  have V4 : Hid (Row w4 V 76 #[.string r, .string pr, .int .i64 pk, .int .i64 pn, .int .i64 pi, .string pb, .slice (some ⟨g6, 0, none⟩) m m, .bool fh, .bool fe, .bool fd, .bool fo, .slice (some ⟨g11, 0, none⟩) le le, .slice none 0 0]) := by show Row _ _ _ _; rw [HW4.out]; exact V3.set 11 _
  have D4 : Hid (Row w4 D 76 #[.string ⟨#[]⟩, .string ⟨#[]⟩, .int .i64 0, .int .i64 0, .int .i64 0, .string ⟨#[]⟩, .slice none 0 0, .bool false, .bool false, .bool false, .bool false, .slice none 0 0, .slice none 0 0]) := by show Row _ _ _ _; rw [HW4.out]; exact D3.out.other 11 _ (Ne.symm hVD.out.1)
  have hV2 : V < w2.heap.size := V2.out.lt
  have O64 : Hid (OwnT w4 w0.heap.size (some ⟨g6, 0, none⟩) m m S) := by show OwnT _ _ _ _ _ _; rw [HW4.out]; exact OwnT.setFar (OwnT.below O62.out b3) hVD.out.2.2.2.2.2.1
  have O114 : Hid (w4.ownsRow w2.heap.size 3 1 (.slice (some ⟨g11, 0, none⟩) le le) le (ze.map (Value.int .i64))) := by
    show World.ownsRow _ _ _ _ _ _ _
    rw [HW4.out]
    rw [HG11.out] at O11 ⊢
    exact own_kept O11 (grown_set _ _ _ _) (fun x e => by cases e; show w2.heap.size ≠ V; omega)
  have B4 : Hid (Below w.heap.size w w4) := by show Below _ _ _; rw [HW4.out]; exact Below.setCell (below2 BW2.out b3) hVD.out.2.2.2.2.1 _
  have sz4 : Hid (w2.heap.size < w4.heap.size) := by
    show _ < _
    have := (World.ownsRow.lt O114.out g11 rfl)
    have e := HG11.out
    omega
  have KZ4 : Hid (Calls Tryz.prog 20 #[.slice a12 lr c12] w4 fun e w' => e = .returned (.slice (some ⟨w4.heap.size, 0, none⟩) lr lr) ∧ w'.ownsRow w4.heap.size 3 1 (.slice (some ⟨w4.heap.size, 0, none⟩) lr lr) lr (zr.map (Value.int .i64)) ∧ Below w4.heap.size w4 w') := KZW.out w4 B4.out
  clear A3 V3 b3 O11 D3 A2 V2 D2
  go_wp2_with fail
  rw [← HW4.out]
  clear x12 y11 f11
  refine Calls.mono KZ4.out ?_
  obtain ⟨g12, HG12⟩ : ∃ x, Hid (x = w4.heap.size) := ⟨_, rfl⟩
  rw [← HG12.out]
  rintro e w5 ⟨rfl, O12, b5⟩
  rw [HG12.out] at b5
  have D5 : Hid (Row w5 D 76 #[.string ⟨#[]⟩, .string ⟨#[]⟩, .int .i64 0, .int .i64 0, .int .i64 0, .string ⟨#[]⟩, .slice none 0 0, .bool false, .bool false, .bool false, .bool false, .slice none 0 0, .slice none 0 0]) := D4.out.below b5 D4.out.lt
  have V5 := V4.out.below b5 V4.out.lt
  have y12 := V5.cell 12
  have f12 := V5.free 12
  simp at y12
  obtain ⟨w6, HW6⟩ : ∃ x, Hid (x = w5.setCell ⟨V, 12, none⟩ (.slice (some ⟨g12, 0, none⟩) lr lr)) := ⟨_, rfl⟩
  have V6 : Hid (Row w6 V 76 #[.string r, .string pr, .int .i64 pk, .int .i64 pn, .int .i64 pi, .string pb, .slice (some ⟨g6, 0, none⟩) m m, .bool fh, .bool fe, .bool fd, .bool fo, .slice (some ⟨g11, 0, none⟩) le le, .slice (some ⟨g12, 0, none⟩) lr lr]) := by show Row _ _ _ _; rw [HW6.out]; exact V5.set 12 _
  have D6 : Hid (Row w6 D 76 #[.string ⟨#[]⟩, .string ⟨#[]⟩, .int .i64 0, .int .i64 0, .int .i64 0, .string ⟨#[]⟩, .slice none 0 0, .bool false, .bool false, .bool false, .bool false, .slice none 0 0, .slice none 0 0]) := by show Row _ _ _ _; rw [HW6.out]; exact D5.out.other 12 _ (Ne.symm hVD.out.1)
  have hV4 : V < w4.heap.size := V4.out.lt
  have O66 : Hid (OwnT w6 w0.heap.size (some ⟨g6, 0, none⟩) m m S) := by show OwnT _ _ _ _ _ _; rw [HW6.out]; exact OwnT.setFar (OwnT.below O64.out b5) hVD.out.2.2.2.2.2.1
  have O116 : Hid (w6.ownsRow w2.heap.size 3 1 (.slice (some ⟨g11, 0, none⟩) le le) le (ze.map (Value.int .i64))) := by
    show World.ownsRow _ _ _ _ _ _ _
    rw [HW6.out]
    exact own_kept (ownsRow_below O114.out b5) (grown_set _ _ _ _) (fun x e => by cases e; show g11 ≠ V; rw [HG11.out]; omega)
  have O126 : Hid (w6.ownsRow w4.heap.size 3 1 (.slice (some ⟨g12, 0, none⟩) lr lr) lr (zr.map (Value.int .i64))) := by
    show World.ownsRow _ _ _ _ _ _ _
    rw [HW6.out]
    rw [HG12.out] at O12 ⊢
    exact own_kept O12 (grown_set _ _ _ _) (fun x e => by cases e; show w4.heap.size ≠ V; omega)
  have B6 : Hid (Below w.heap.size w w6) := by show Below _ _ _; rw [HW6.out]; exact Below.setCell (below2 B4.out b5) hVD.out.2.2.2.2.1 _
  clear V5 b5 O12 D5 V4 D4
  obtain ⟨w7, HW7⟩ : ∃ x, Hid (x = w6.setRow D #[.string r, .string pr, .int .i64 pk, .int .i64 pn, .int .i64 pi, .string pb, .slice (some ⟨g6, 0, none⟩) m m, .bool fh, .bool fe, .bool fd, .bool fo, .slice (some ⟨g11, 0, none⟩) le le, .slice (some ⟨g12, 0, none⟩) lr lr]) := ⟨_, rfl⟩
  have ZR : Hid (Row w7 D 76 #[.string r, .string pr, .int .i64 pk, .int .i64 pn, .int .i64 pi, .string pb, .slice (some ⟨g6, 0, none⟩) m m, .bool fh, .bool fe, .bool fd, .bool fo, .slice (some ⟨g11, 0, none⟩) le le, .slice (some ⟨g12, 0, none⟩) lr lr]) := by show Row _ _ _ _; rw [HW7.out]; exact D6.out.row
  have ZB : Hid (Below w.heap.size w w7) := by show Below _ _ _; rw [HW7.out]; exact belowSetRow B6.out hVD.out.2.2.2.1 _
  have far6 : ∀ x, (some ⟨g6, 0, none⟩ : Option Addr) = some x → x.block ≠ D := fun x e => by cases e; have h1 := S6.out.1; have h2 := hVD.out.2.2.2.2.2.2; show g6 ≠ D; omega
  have hD2 : D < w2.heap.size := by have h1 := sz2.out; have h2 := S6.out; have h3 := hVD.out.2.2.2.2.2.2; omega
  have far11 : ∀ x, (some ⟨g11, 0, none⟩ : Option Addr) = some x → x.block ≠ D := fun x e => by cases e; show g11 ≠ D; rw [HG11.out]; omega
  have far12 : ∀ x, (some ⟨g12, 0, none⟩ : Option Addr) = some x → x.block ≠ D := fun x e => by cases e; show g12 ≠ D; rw [HG12.out]; have := sz4.out; omega
  have Z6 : Hid (OwnT w7 w0.heap.size (some ⟨g6, 0, none⟩) m m S) := by show OwnT _ _ _ _ _ _; rw [HW7.out]; exact own_kept O66.out (grown_row _ _ _) far6
  have Z11 : Hid (World.ownsRow w7 w2.heap.size 3 1 (.slice (some ⟨g11, 0, none⟩) le le) le (ze.map (Value.int .i64))) := by show World.ownsRow _ _ _ _ _ _ _; rw [HW7.out]; exact own_kept O116.out (grown_row _ _ _) far11
  have Z12 : Hid (World.ownsRow w7 w4.heap.size 3 1 (.slice (some ⟨g12, 0, none⟩) lr lr) lr (zr.map (Value.int .i64))) := by show World.ownsRow _ _ _ _ _ _ _; rw [HW7.out]; exact own_kept O126.out (grown_row _ _ _) far12
  have l12 := (World.ownsRow.lt Z12.out g12 rfl).2
  go_wp2_with (first | (rw [← HW6.out]; refine wpList_load_row (by rfl) 76 _ (by rfl) V (by rfl) 76 _ (0, 0) _ V6.out Tryz.underlying76 (by rfl) Tryz.infoSl ?_; clear y12 f12) | (refine wpList_store_row (by rfl) 76 _ _ (by rfl) D #[.string r, .string pr, .int .i64 pk, .int .i64 pn, .int .i64 pi, .string pb, .slice (some ⟨g6, 0, none⟩) m m, .bool fh, .bool fe, .bool fd, .bool fo, .slice (some ⟨g11, 0, none⟩) le le, .slice (some ⟨g12, 0, none⟩) lr lr] (by rfl) (by rfl) 76 #[.string ⟨#[]⟩, .string ⟨#[]⟩, .int .i64 0, .int .i64 0, .int .i64 0, .string ⟨#[]⟩, .slice none 0 0, .bool false, .bool false, .bool false, .bool false, .slice none 0 0, .slice none 0 0] ?_ Tryz.infoSl rfl (by simp [Value.oneCell']) ?_; exact D6.out; rw [← HW7.out]))
  refine bodyPost_ret (v := .agg #[.string r, .string pr, .int .i64 pk, .int .i64 pn, .int .i64 pi, .string pb, .slice (some ⟨g6, 0, none⟩) m m, .bool fh, .bool fe, .bool fd, .bool fo, .slice (some ⟨g11, 0, none⟩) le le, .slice (some ⟨g12, 0, none⟩) lr lr]) (results_cell_row Tryz.results94 _ _ D 76 _ (0, 0) _ (by rfl) ZR.out Tryz.underlying76 (by rfl) Tryz.infoSl) rfl ⟨g6, g11, g12, rfl, ?_, ?_, ?_, l12, ?_, ?_, ?_, ZB.out⟩
  · have h1 := S6.out.1; have h2 := KB0.out.size; omega
  · have h1 := S6.out.2; have h2 := sz2.out; have h3 := HG11.out; omega
  · have h1 := HG11.out; have h2 := HG12.out; have h3 := sz4.out; omega
  · exact ow_txt (OwnT.base Z6.out KB0.out.size) (fun x e => by cases e; rfl)
  · exact OI.out _ _ _ (own_base Z11.out BW2.out.size)
  · exact OZ.out _ _ _ (own_base Z12.out B4.out.size)
end Go.Proofs.YtodpgbmpfflkoaaGreatDoor
/- Lists of numbers, copied: slices.Clone, and the model's way. Condition: at most 2^20 numbers. -/
namespace Go.Proofs.YtodpgbmpfflkoaaGreatDoor
set_option maxRecDepth 2000
open Go.ChangeShapes Go.WideShapes Go.ChangeAt Go.RowKit

/-- The cells of a list that is read, as append asks for them. -/
theorem ints_news {w : World} {b off n : Nat} {zs : List Int} (h : IntsAt w (some ⟨b, off, none⟩) n zs) : ∀ (j : Nat) (u : Value), (zs.map (Value.int .i64))[j]? = some u → w.cell? ((⟨b, off, none⟩ : Addr).add j) = some u := fun j u hu => by
  have hj : j < zs.length := by
    have := (List.getElem?_eq_some_iff.1 hu).1
    simpa using this
  obtain ⟨b', off', e, hc⟩ := h.2 j (by rw [← h.1]; exact hj)
  cases e
  have ea : (⟨b, off, none⟩ : Addr).add j = ⟨b, off + j, none⟩ := by unfold Addr.add; split <;> simp_all
  rw [ea, hc, ← hu]
  simp [hj]
theorem ints_spot {w : World} {a : Addr} {n : Nat} {zs : List Int} (h : IntsAt w (some a) n zs) (hn : 0 < n) : a = ⟨a.block, a.off, none⟩ := by
  obtain ⟨b, off, e, _⟩ := h.2 0 hn
  cases e
  rfl
theorem slice_none (n c : Nat) (w : World) : Sem.run Tryz.prog (binOp BinOp.eql 23 (.slice none n c) (.slice none 0 0)) w = .ok (.bool true) w := by rfl
theorem slice_some (x : Addr) (n c : Nat) (w : World) : Sem.run Tryz.prog (binOp BinOp.eql 23 (.slice (some x) n c) (.slice none 0 0)) w = .ok (.bool false) w := by rfl
set_option maxHeartbeats 1000000 in
theorem cloneI_any (a : Option Addr) (cap : Nat) (zs : List Int) (w : World) (h : IntsAt w a zs.length zs) (hn : zs.length ≤ 1048576) :
    Calls Tryz.prog 118 #[.slice a zs.length cap] w fun e w' => ∃ a' c', e = .returned (.slice a' zs.length c') ∧ Ow w' w.heap.size (inD zs) (.slice a' zs.length c') (rng w.heap.size w'.heap.size) ∧ Below w.heap.size w w' := by
  obtain ⟨i0, hi, hz0, hz1, hz2⟩ : ∃ i0, Tryz.prog.info? 3 = some i0 ∧ i0.zero = some (.int .i64 0) ∧ i0.size = 1 ∧ i0.bytes = 8 := ⟨_, rfl, rfl, rfl, rfl⟩
  obtain ⟨n, HN⟩ : ∃ x, Hid (zs.length = x) := ⟨_, rfl⟩
  rw [HN.out] at h hn ⊢
  match a, h with
  | none, h =>
    have e0 : n = 0 := by
      by_cases h0 : n = 0
      · exact h0
      · obtain ⟨b, off, e, _⟩ := h.2 0 (by omega)
        cases e
    subst e0
    have ez : zs = [] := List.length_eq_zero_iff.1 HN.out
    subst ez
    have hsn := slice_none
    go_enter Tryz.func118, Tryz.ntmps118
    go_wp2
    go_ret
    exact ⟨none, 0, rfl, ow_ints (zs := []) (World.ownsRow_nil _ _ _ _) (fun x e => by cases e), Below.refl _ _⟩
  | some ad, h =>
    obtain ⟨b, off, sp⟩ := ad
    have HNW : Hid (∀ (j : Nat) (u : Value), (zs.map (Value.int .i64))[j]? = some u → w.cell? ((⟨b, off, sp⟩ : Addr).add j) = some u) := fun j u hu => by
      have hj : 0 < n := by
        have := (List.getElem?_eq_some_iff.1 hu).1
        have := HN.out
        simp at *
        omega
      have e := ints_spot h hj
      simp at e
      subst e
      exact ints_news h j u hu
    have HLL : Hid ((zs.map (Value.int .i64)).length = n * 1) := by show _ = _; simp [HN.out]
    have HO : Hid ((w.alloc (.cells #[] 3)).ownsRow w.heap.size 3 1 (.slice (some ⟨w.heap.size, 0, none⟩) 0 0) 0 []) := by
      have := World.ownsRow_lit (e := 3) (size := 1) (base := w.heap.size) w #[] 0 (by simp) (by unfold maxLen; omega) (by simp)
      exact this
    have HNA : Hid (∀ (j : Nat) (u : Value), (zs.map (Value.int .i64))[j]? = some u → (w.alloc (.cells #[] 3)).cell? ((⟨b, off, sp⟩ : Addr).add j) = some u) := fun j u hu => by
      have := HNW.out j u hu
      rw [((Below.refl w.heap.size w).alloc (Nat.le_refl _) _).cell (block_lt_of_cell this)]
      exact this
    have HB0 : Hid (Below w.heap.size w (w.alloc (.cells #[] 3))) := (Below.refl _ _).alloc (Nat.le_refl _) _
    clear h
    have hss := slice_some
    go_enter Tryz.func118, Tryz.ntmps118
    go_wp2_with (at_builtin; refine wpList_append_all _ (by rfl) _ _ 23 (by rfl) w.heap.size 3 i0 (.int .i64 0) 1 8 Tryz.underlying23 hi hz0 hz1 hz2 rfl (by decide) w.heap.size 0 0 [] (by rfl) ?_ ⟨b, off, sp⟩ n cap (zs.map (Value.int .i64)) (by rfl) ?_ ?_ (by simp [Value.oneCell']) (by unfold maxLen; omega) (by omega) (by simp) ?_; exact HO.out; exact HLL.out; exact HNA.out; intro g3 cap3 w3 hown3 hgrow3)
    have HB3 : Hid (Below w.heap.size w w3) := HB0.out.grown hgrow3 (by simp) (fun x hx => by cases hx; exact Nat.le_refl _)
    have HO3 : Hid (w3.ownsRow w.heap.size 3 1 (.slice (some ⟨g3, 0, none⟩) zs.length cap3) zs.length (zs.map (Value.int .i64))) := by
      show World.ownsRow _ _ _ _ _ _ _
      rw [HN.out]
      simpa using hown3
    have lg := World.ownsRow.lt HO3.out g3 rfl
    clear hown3 hgrow3
    go_wp2
    go_ret
    refine ⟨some ⟨g3, 0, none⟩, cap3, by simp, ?_, HB3.out⟩
    have := ow_ints HO3.out (F := rng w.heap.size w3.heap.size) (fun x e => by cases e; exact lg)
    rw [HN.out] at this
    exact this
end Go.Proofs.YtodpgbmpfflkoaaGreatDoor
/- Marks over lists of numbers and texts, with wide bounds. Conditions: lists of at most 2^20. -/
namespace Go.Proofs.YtodpgbmpfflkoaaGreatDoor
set_option maxRecDepth 2000
open Go.ChangeShapes Go.WideShapes Go.ChangeAt Go.RowKit

end Go.Proofs.YtodpgbmpfflkoaaGreatDoor
/- Marks laid into lists of sayings, and asked for, with wide bounds. Written by mkmarkn.py. -/
namespace Go.Proofs.YtodpgbmpfflkoaaGreatDoor
set_option maxRecDepth 2000
open Go.ChangeShapes Go.WideShapes Go.ChangeAt Go.RowKit

end Go.Proofs.YtodpgbmpfflkoaaGreatDoor
