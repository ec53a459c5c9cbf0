/- Entries of an archive: by plain values, read, counted, copied and compared; lists of them that are handed in. Conditions: lists of at most 2^20. -/
import Derived.Test.YtkcnpkkihbpnmaaDoorD25
import Derived.Test.YtkcnpkkihbpnmaaDoorD30
namespace Go.Proofs.YtkcnpkkihbpnmaaDoor
set_option maxRecDepth 2000
open Go.ChangeShapes Go.WideShapes Go.ChangeAt Go.RowKit

/-- An entry by plain values. -/
structure En where
  nm : ByteArray
  rt : ByteArray
  sz : Int
def enD (d : En) : Nat → Dt
  | 0 => .val (.string d.nm)
  | 1 => .val (.string d.rt)
  | _ => .val (.int .i64 d.sz)
def ensD (n : Nat) (E : Nat → En) : Dt := .lst 48 3 n fun i => enD (E i)
def enZ : En := ⟨ByteArray.empty, ByteArray.empty, 0⟩
structure EnB (d : En) : Prop where
  n : d.nm.size ≤ maxLen
  r : d.rt.size ≤ maxLen
  z : (Lit.int .i64 d.sz).wf = true
theorem entry_at {w : World} {m : Nat} {E : Nat → En} {a : Option Addr} {cap : Nat} (h : Rd w (ensD m E) (.slice a m cap)) {c : Nat} (hc : c < m) :
    ∃ (b off : Nat), a = some ⟨b, off, none⟩ ∧ (w.cell? ⟨b, off + c * 3, none⟩ = some (.string (E c).nm) ∧ w.cell? ⟨b, off + c * 3 + 1, none⟩ = some (.string (E c).rt) ∧ w.cell? ⟨b, off + c * 3 + 2, none⟩ = some (.int .i64 (E c).sz)) ∧ w.rangeAt b (off + c * 3) [.string (E c).nm, .string (E c).rt, .int .i64 (E c).sz] := by
  obtain ⟨b, off, y, ea, hy, hr⟩ := h.row hc
  have g0 := hr 0 (by omega)
  have g1 := hr 1 (by omega)
  have g2 := hr 2 (by omega)
  simp only [Rd, enD] at g0 g1 g2
  have c0 := hy 0 (by omega)
  have c1 := hy 1 (by omega)
  have c2 := hy 2 (by omega)
  rw [g0, ← Nat.add_assoc] at c0
  rw [g1, ← Nat.add_assoc] at c1
  rw [g2, ← Nat.add_assoc] at c2
  refine ⟨b, off, ea, ⟨c0, c1, c2⟩, fun j v hv => ?_⟩
  have hj : j < 3 := (List.getElem?_eq_some_iff.1 hv).1
  match j, hj with
  | 0, _ => rw [← hv]; exact c0
  | 1, _ => rw [← hv]; exact c1
  | 2, _ => rw [← hv]; exact c2
theorem list3' {α : Type} (l : List α) (h : l.length = 3) : ∃ c0 c1 c2, l = [c0, c1, c2] := by
  match l, h with
  | [c0, c1, c2], _ => exact ⟨c0, c1, c2, rfl⟩
theorem open_entry {H : Type} {enc : TypeId × Value → H} {w : World} {base : Nat} {spare : Nat → Bool} {held : Bool} {fuel : Nat} {cs : List Value} {x : DataW H × List MemPlace} (h : DataW.trod enc Tryd.prog w base spare held fuel 70 cs = some x) :
    ∃ s : En, cs.length = 3 ∧ (∀ q, q < 3 → Rd w (enD s q) (cs.getD q undef)) ∧ EnB s := by
  have c3 : Tryd.prog.cellsOf 70 = 3 := by kernel_rfl
  have ci1 : Tryd.prog.cellsOf 3 = 1 := by kernel_rfl
  have cs1 : Tryd.prog.cellsOf 9 = 1 := by kernel_rfl
  obtain ⟨xs, f, _, _, hl, hlen, hf⟩ := DataW.trod_struct Tryd.underlying70 h
  rw [c3] at hl
  obtain ⟨c0, c1, c2, rfl⟩ := list3' cs hl
  obtain ⟨y0, y1, y2, rfl⟩ := list3' xs hlen
  have g0 := hf 0 _ rfl
  have g1 := hf 1 _ rfl
  have g2 := hf 2 _ rfl
  simp [ci1, cs1] at g0 g1 g2
  obtain ⟨x0, e0, _, h0⟩ := DataW.trod_string Tryd.underlying9 g0
  obtain ⟨x1, e1, _, h1⟩ := DataW.trod_string Tryd.underlying9 g1
  obtain ⟨x2, e2, _, h2⟩ := DataW.trod_int Tryd.underlying3 g2
  simp at e0 e1 e2
  subst e0 e1 e2
  refine ⟨⟨x0, x1, x2⟩, rfl, fun q hq => ?_, ⟨h0, h1, h2⟩⟩
  match q, hq with
  | 0, _ | 1, _ | 2, _ => rfl
theorem open_entries {H : Type} {enc : TypeId × Value → H} {w : World} {base : Nat} {spare : Nat → Bool} {held : Bool} {fuel : Nat} {a : Option Addr} {n c : Nat} {x : DataW H × List MemPlace} (h : DataW.trod enc Tryd.prog w base spare held fuel 27 [.slice a n c] = some x) :
    ∃ E : Nat → En, Rd w (ensD n E) (.slice a n c) ∧ n ≤ maxLen ∧ ∀ i, i < n → EnB (E i) :=
  open_list enZ 48 enD EnB Tryd.underlying27 (by kernel_rfl) (by omega) open_entry h
theorem Tryd.infoEnL : (Tryd.prog.info? 70).map (·.size) = some 3 := by kernel_rfl
theorem Tryd.infoEn : (Tryd.prog.info? 48).map (·.size) = some 3 := by kernel_rfl
def wtE (d : En) : Nat := d.nm.size + d.rt.size
def wtEs (n : Nat) (E : Nat → En) : Nat := n + tot (fun i => wtE (E i)) n
set_option maxHeartbeats 2000000 in
theorem szEn_any (r s : ByteArray) (z : Int) (l : Nat) (w : World) (hr : r.size ≤ maxLen) (hs : s.size ≤ maxLen) (hl : l ≤ 1048576) :
    Calls Tryd.prog 27 #[.agg #[.string r, .string s, .int .i64 z], .int .i64 (l : Int)] w fun e w' => e = .returned (.int .i64 (szN l (r.size + s.size))) ∧ Below w.heap.size w w' := by
  obtain ⟨w0, HW0⟩ : ∃ x, Hid (x = w.alloc (.cells #[.string r, .string s, .int .i64 z] 70)) := ⟨_, rfl⟩
  have KB0 : Hid (Below w.heap.size w w0) := by show Below _ _ _; rw [HW0.out]; exact (Below.refl _ _).alloc (Nat.le_refl _) _
  unfold maxLen at hr hs
  obtain ⟨x, HX⟩ : ∃ x, Hid (r.size = x) := ⟨_, rfl⟩
  obtain ⟨y, HY⟩ : ∃ x, Hid (s.size = x) := ⟨_, rfl⟩
  rw [HX.out] at hr
  rw [HY.out] at hs
  rw [HX.out, HY.out]
  have hsx : (r.size : Int) = (x : Int) := by rw [HX.out]
  have hsy : (s.size : Int) = (y : Int) := by rw [HY.out]
  by_cases h1 : x ≤ l
  case neg =>
    rw [szN_no (by omega)]
    have e1 : IntKind.i64.wrap ((l : Int) - (x : Int)) = (l : Int) - (x : Int) := by rw [IntKind.wrap_i64]; omega
    have h0 : (l : Int) - (x : Int) < 0 := by omega
    go_enter Tryd.func27, Tryd.ntmps27
    go_wp2
    rw [← HW0.out]
    go_ret
    exact ⟨rfl, KB0.out⟩
  obtain ⟨l1, HL1⟩ : ∃ q, Hid (l - x = q) := ⟨_, rfl⟩
  have hl1 := HL1.out
  have e1 : IntKind.i64.wrap ((l : Int) - (x : Int)) = (l1 : Int) := by rw [IntKind.wrap_i64]; omega
  have n1 : ¬ ((l1 : Int) < 0) := by omega
  by_cases h2 : y ≤ l1
  case neg =>
    rw [szN_no (by omega)]
    have e2 : IntKind.i64.wrap ((l1 : Int) - (y : Int)) = (l1 : Int) - (y : Int) := by rw [IntKind.wrap_i64]; omega
    have h0 : (l1 : Int) - (y : Int) < 0 := by omega
    clear hl1
    go_enter Tryd.func27, Tryd.ntmps27
    go_wp2
    rw [← HW0.out]
    go_ret
    exact ⟨rfl, KB0.out⟩
  obtain ⟨l2, HL2⟩ : ∃ q, Hid (l1 - y = q) := ⟨_, rfl⟩
  have hl2 := HL2.out
  have e2 : IntKind.i64.wrap ((l1 : Int) - (y : Int)) = (l2 : Int) := by rw [IntKind.wrap_i64]; omega
  have n2 : ¬ ((l2 : Int) < 0) := by omega
  have HR : Hid (szN l (x + y) = (l2 : Int)) := by show _ = _; rw [szN_yes (by omega)]; congr 1; omega
  rw [HR.out]
  clear hl1 hl2 h1 h2
  go_enter Tryd.func27, Tryd.ntmps27
  go_wp2
  rw [← HW0.out]
  go_ret
  exact ⟨rfl, KB0.out⟩
set_option maxHeartbeats 4000000 in
theorem szEns_any (a : Option Addr) (n cap : Nat) (N : Nat → En) (l : Nat) (w : World) (h : Rd w (ensD n N) (.slice a n cap)) (hl : l ≤ 1048576) (hn : n ≤ maxLen) (hL : ∀ i, i < n → EnB (N i)) :
    Calls Tryd.prog 10 #[.slice a n cap, .int .i64 (l : Int)] w fun e w' => e = .returned (.int .i64 (szN l (wtEs n N))) ∧ Below w.heap.size w w' := by
  unfold maxLen at hn
  by_cases h1 : n ≤ l
  · obtain ⟨d, hd⟩ : ∃ d, l - n = d := ⟨_, rfl⟩
    have hw : IntKind.i64.wrap ((l : Int) - (n : Int)) = (d : Int) := by rw [IntKind.wrap_i64]; omega
    have h0 : ¬ ((d : Int) < 0) := by omega
    have KL : Hid (∀ i, i < n → EnB (N i)) := hL
    have KH : Hid (Rd w (ensD n N) (.slice a n cap)) := h
    clear hL h
    go_enter Tryd.func10, Tryd.ntmps10
    go_wp2
    go_loopw [1, 5] (fun p i wr => ∃ c q : Nat, c ≤ n ∧ q ≤ 1048576 ∧ Hid (tot (fun i => wtE (N i)) c + q = d) ∧ p = .int .i64 (q : Int) ∧ i = .int .i64 (c : Int) ∧ Below w.heap.size w wr) (fun _ i _ => n - (intOf i).toNat)
    case atStart => exact ⟨0, d, Nat.zero_le _, by omega, by show 0 + d = d; omega, rfl, rfl, Below.refl _ _⟩
    case round =>
      obtain ⟨c, q, hc, hq, HT, rfl, rfl, hbel⟩ := hrel
      clear hw h0
      by_cases hlt : c < n
      · obtain ⟨b1, f1, rfl, _, R1'⟩ := entry_at (KH.out.below hbel) hlt
        have hti := tot_le (fun i => wtE (N i)) hlt
        have hlti : (c : Int) < (n : Int) := by omega
        have HT' := HT.out
        obtain ⟨lc, HLC⟩ : ∃ x, Hid (wtE (N c) = x) := ⟨_, rfl⟩
        have KTS : Hid (tot (fun i => wtE (N i)) (c + 1) = tot (fun i => wtE (N i)) c + lc) := by rw [← HLC.out]; rfl
        have hti' : tot (fun i => wtE (N i)) c + lc ≤ tot (fun i => wtE (N i)) n := by rw [← HLC.out]; exact hti
        have KZ : Hid (Calls Tryd.prog 27 #[.agg #[.string (N c).nm, .string (N c).rt, .int .i64 (N c).sz], .int .i64 (q : Int)] wr fun e w' => e = .returned (.int .i64 (szN q lc)) ∧ Below wr.heap.size wr w') := by
          rw [← HLC.out]
          exact szEn_any (N c).nm (N c).rt (N c).sz q wr (KL.out c hlt).n (KL.out c hlt).r hq
        have R1 : Hid (wr.rangeAt b1 (f1 + c * 3) [.string (N c).nm, .string (N c).rt, .int .i64 (N c).sz]) := R1'
        have KB : Hid (Below w.heap.size w wr) := hbel
        clear hti R1' hbel
        by_cases h2 : lc ≤ q
        · obtain ⟨q', hq'⟩ : ∃ q', q - lc = q' := ⟨_, rfl⟩
          have h3 : ¬ ((q' : Int) < 0) := by omega
          have HT2 : Hid (tot (fun i => wtE (N i)) (c + 1) + q' = d) := by show _ = _; rw [KTS.out]; omega
          have hq2 : q' ≤ 1048576 := by omega
          rw [szN_yes h2, hq'] at KZ
          clear HT HT' hti' KTS
          go_wp2_with (refine wpList_load_mid (by rfl) 70 _ (by rfl) b1 (f1 + c * 3) (by rfl) [.string (N c).nm, .string (N c).rt, .int .i64 (N c).sz] _ ?_ Tryd.underlying70 (by rfl) Tryd.infoEnL ?_; exact R1.out)
          refine Calls.mono KZ.out ?_
          rintro e w1 ⟨rfl, bb⟩
          have KB1 : Hid (Below w.heap.size w w1) := below2 KB.out bb
          clear bb KZ R1
          go_wp2
          go_roundw
          case rel => exact ⟨c + 1, q', by omega, hq2, HT2, rfl, by go_num, KB1.out⟩
          case measure => simp [intOf] <;> omega
        · have HR : Hid (szN l (wtEs n N) = -1) := szN_no (by unfold wtEs; omega)
          rw [szN_no h2] at KZ
          clear HT HT' hti' KTS
          go_wp2_with (refine wpList_load_mid (by rfl) 70 _ (by rfl) b1 (f1 + c * 3) (by rfl) [.string (N c).nm, .string (N c).rt, .int .i64 (N c).sz] _ ?_ Tryd.underlying70 (by rfl) Tryd.infoEnL ?_; exact R1.out)
          refine Calls.mono KZ.out ?_
          rintro e w1 ⟨rfl, bb⟩
          have KB1 : Hid (Below w.heap.size w w1) := below2 KB.out bb
          clear bb KZ R1
          go_wp2
          go_ret
          exact ⟨ret_int HR.out.symm, KB1.out⟩
      · obtain rfl : c = n := by omega
        have HR : Hid (szN l (wtEs c N) = (q : Int)) := by
          have := HT.out
          have e : l - (c + tot (fun i => wtE (N i)) c) = q := by omega
          exact (szN_yes (by unfold wtEs; omega)).trans (by unfold wtEs; rw [e])
        clear KH
        go_wp2
        go_ret
        exact ⟨ret_int HR.out.symm, hbel⟩
  · have h0 : (l : Int) - (n : Int) < 0 := by omega
    have hw : IntKind.i64.wrap ((l : Int) - (n : Int)) = (l : Int) - (n : Int) := by rw [IntKind.wrap_i64]; omega
    have HR : Hid (szN l (wtEs n N) = -1) := szN_no (by unfold wtEs; omega)
    clear h hL
    go_enter Tryd.func10, Tryd.ntmps10
    go_wp2
    go_ret
    exact ⟨ret_int HR.out.symm, Below.refl _ _⟩
set_option maxHeartbeats 1000000 in
theorem toEn_any (x0 x1 : ByteArray) (x2 : Int) (w : World) :
    Calls Tryd.prog 31 #[.agg #[.string x0, .string x1, .int .i64 x2]] w fun e w' => e = .returned (.agg #[.string x0, .string x1, .int .i64 x2]) ∧ Below w.heap.size w w' := by
  go_enter Tryd.func31, Tryd.ntmps31
  go_wp2
  refine bodyPost_ret (v := .agg #[.string x0, .string x1, .int .i64 x2]) (by simp [results, Tryd.results31, go_sem]) rfl ?_
  exact ⟨rfl, by repeat (first | exact Below.refl _ _ | refine Below.alloc ?_ (by simp <;> omega) _ | refine Below.setCell ?_ (by simp <;> omega) _)⟩
set_option maxHeartbeats 1000000 in
theorem eqEn_same (x0 x1 : ByteArray) (x2 : Int) (w : World) :
    Calls Tryd.prog 38 #[.agg #[.string x0, .string x1, .int .i64 x2], .agg #[.string x0, .string x1, .int .i64 x2]] w fun e w' => e = .returned (.bool true) ∧ Below w.heap.size w w' := by
  have k0 : (x0.toList != x0.toList) = false := by simp
  have k1 : (x1.toList != x1.toList) = false := by simp
  have k2 : (x2 != x2) = false := by simp
  go_enter Tryd.func38, Tryd.ntmps38
  go_wp2
  go_ret
  exact ⟨rfl, by repeat (first | exact Below.refl _ _ | refine Below.alloc ?_ (by simp <;> omega) _ | refine Below.setCell ?_ (by simp <;> omega) _)⟩
set_option maxHeartbeats 4000000 in
theorem eqEns_same (a b : Option Addr) (n ca cb : Nat) (M : Nat → En) (w : World) (ha : Rd w (ensD n M) (.slice a n ca)) (hb : Rd w (ensD n M) (.slice b n cb)) (hn : n ≤ 1048576) :
    Calls Tryd.prog 22 #[.slice a n ca, .slice b n cb] w fun e w' => e = .returned (.bool true) ∧ Below w.heap.size w w' := by
  have KH : Hid (Rd w (ensD n M) (.slice a n ca) ∧ Rd w (ensD n M) (.slice b n cb)) := ⟨ha, hb⟩
  have hnn : ((n : Int) != (n : Int)) = false := by simp
  clear ha hb
  go_enter Tryd.func22, Tryd.ntmps22
  go_wp2
  go_loopw [5] (fun vi wr => ∃ c : Nat, c ≤ n ∧ vi = .int .i64 (c : Int) ∧ Below w.heap.size w wr) (fun vi _ => n - (intOf vi).toNat)
  case atStart => exact ⟨0, Nat.zero_le _, rfl, Below.refl _ _⟩
  case round =>
    obtain ⟨c, hcn, rfl, hbel⟩ := hrel
    by_cases hlt : c < n
    · have hki : (c : Int) < (n : Int) := by omega
      obtain ⟨b1, f1, rfl, ⟨x0, x1, x2⟩, _⟩ := entry_at (KH.out.1.below hbel) hlt
      obtain ⟨b2, f2, rfl, ⟨y0, y1, y2⟩, _⟩ := entry_at (KH.out.2.below hbel) hlt
      obtain ⟨⟨z0, z1, z2⟩, HM⟩ : ∃ z, Hid (M c = z) := ⟨_, rfl⟩
      simp only [HM.out] at x0 x1 x2 y0 y1 y2
      have KT : Hid (∀ W, Calls Tryd.prog 38 #[.agg #[.string z0, .string z1, .int .i64 z2], .agg #[.string z0, .string z1, .int .i64 z2]] W fun e w' => e = .returned (.bool true) ∧ Below W.heap.size W w') := fun W => eqEn_same z0 z1 z2 W
      have KS : Hid (∀ W, Below wr.heap.size wr W → W.cell? ⟨b1, f1 + c * 3, none⟩ = some (.string z0) ∧ W.cell? ⟨b1, f1 + c * 3 + 1, none⟩ = some (.string z1) ∧ W.cell? ⟨b1, f1 + c * 3 + 2, none⟩ = some (.int .i64 z2) ∧ W.cell? ⟨b2, f2 + c * 3, none⟩ = some (.string z0) ∧ W.cell? ⟨b2, f2 + c * 3 + 1, none⟩ = some (.string z1) ∧ W.cell? ⟨b2, f2 + c * 3 + 2, none⟩ = some (.int .i64 z2)) := fun W hW => ⟨(hW.cell (block_lt_of_cell x0)).trans x0, (hW.cell (block_lt_of_cell x1)).trans x1, (hW.cell (block_lt_of_cell x2)).trans x2, (hW.cell (block_lt_of_cell y0)).trans y0, (hW.cell (block_lt_of_cell y1)).trans y1, (hW.cell (block_lt_of_cell y2)).trans y2⟩
      have KB : Hid (Below w.heap.size w wr) := hbel
      have hdr := below_drew wr
      clear hbel x0 x1 x2 y0 y1 y2
      go_wp2_with fail
      go_region_held3 (fun w' => w'.cell? ⟨b1, f1 + c * 3, none⟩ = some (.string z0) ∧ w'.cell? ⟨b1, f1 + c * 3 + 1, none⟩ = some (.string z1) ∧ w'.cell? ⟨b1, f1 + c * 3 + 2, none⟩ = some (.int .i64 z2) ∧ w'.cell? ⟨b2, f2 + c * 3, none⟩ = some (.string z0) ∧ w'.cell? ⟨b2, f2 + c * 3 + 1, none⟩ = some (.string z1) ∧ w'.cell? ⟨b2, f2 + c * 3 + 2, none⟩ = some (.int .i64 z2)) (exact KS.out _ (by assumption)) ((go_at_call 38; refine Calls.mono (KT.out _) ?_; rintro e w7 ⟨rfl, b7'⟩; have b7 := below_of_drew b7'; clear b7'))
      all_goals
        have HB7 : Hid (Below w.heap.size w w7) := below2 KB.out b7
        clear b7
        go_wp2
        go_roundw
        case rel => exact ⟨c + 1, by omega, by go_num, HB7.out⟩
        case measure => simp [intOf]; omega
    · go_wp2
      go_ret
      exact ⟨rfl, hbel⟩
def zcEn : List Value := [.string ByteArray.empty, .string ByteArray.empty, .int .i64 0]
theorem Tryd.infoEnZ : (Tryd.prog.info? 48).map (fun i => (i.zero, i.size, i.bytes)) = some (some (.agg zcEn.toArray), 3, 40) := by kernel_rfl
theorem ow_enZ (w : World) (B q : Nat) (hq : q < 3) : Ow w B (enD enZ q) (zcEn.getD q undef) (fun _ => False) := by
  match q, hq with
  | 0, _ | 1, _ | 2, _ => rfl
theorem ow_entry (w : World) (B : Nat) (x0 x1 : ByteArray) (x2 : Int) (q : Nat) (hq : q < 3) : Ow w B (enD ⟨x0, x1, x2⟩ q) ([Value.string x0, .string x1, .int .i64 x2].getD q undef) (fun _ => False) := by
  match q, hq with
  | 0, _ | 1, _ | 2, _ => rfl
set_option maxHeartbeats 4000000 in
theorem toEns_any (a : Option Addr) (n cap : Nat) (M : Nat → En) (w : World) (h : Rd w (ensD n M) (.slice a n cap)) (hn : n ≤ 1048576) :
    Calls Tryd.prog 15 #[.slice a n cap] w fun e w' => ∃ g, e = .returned (.slice (some ⟨g, 0, none⟩) n n) ∧ Ow w' w.heap.size (ensD n M) (.slice (some ⟨g, 0, none⟩) n n) (rng w.heap.size w'.heap.size) ∧ Below w.heap.size w w' := by
  obtain ⟨i0, hi, hz0, hz1, hz2⟩ := info_parts Tryd.infoEnZ
  have KH : Hid (Rd w (ensD n M) (.slice a n cap)) := h
  clear h
  go_enter Tryd.func15, Tryd.ntmps15
  go_wp2_with (at_make; refine wpList_make_full _ rfl _ _ 37 rfl w.heap.size 48 i0 (.agg zcEn.toArray) 3 Tryd.underlying37 hi hz0 hz1 .i64 .i64 _ _ n rfl rfl rfl rfl (by rw [hz2]; omega) (by unfold maxLen; omega) (Nat.le_refl _) ?_; intro w1 hown hgrow)
  have hb1 : Below w.heap.size w w1 := (Below.refl _ _).grown hgrow (Nat.le_refl _) (by simp)
  obtain ⟨g, HG⟩ : ∃ x, Hid (x = w.heap.size) := ⟨_, rfl⟩
  have ho1 : Ow w1 w.heap.size (.lst 48 3 n (fun i => if i < 0 then enD (M i) else enD enZ)) (.slice (some ⟨g, 0, none⟩) n n) (rng w.heap.size w1.heap.size) := by
    have e : (madeCells (Value.agg zcEn.toArray).cells (n * 3)).toList = cL 3 (fun _ q => zcEn.getD q undef) n := made_cL (zs := zcEn) (by simp [zcEn])
    rw [e] at hown
    rw [HG.out]
    have := ow_made (F := rng w.heap.size w1.heap.size) hown (fun q hq => ow_enZ w1 w.heap.size q hq) ⟨Nat.le_refl _, (World.ownsRow.lt hown _ rfl).2⟩
    exact this.congr (fun i q _ _ => by simp)
  have gB : g = w.heap.size := HG.out
  rw [← HG.out]
  have HB : Hid (w.heap.size ≤ g) := by show _ ≤ _; omega
  clear hown hgrow gB
  go_loopw [4] (fun i wr => ∃ k : Nat, k ≤ n ∧ i = .int .i64 k ∧ Ow wr w.heap.size (.lst 48 3 n (fun i => if i < k then enD (M i) else enD enZ)) (.slice (some ⟨g, 0, none⟩) n n) (rng w.heap.size wr.heap.size) ∧ Below w.heap.size w wr) (fun i _ => n - (intOf i).toNat)
  case atStart => exact ⟨0, Nat.zero_le _, rfl, ho1, hb1⟩
  case round =>
    obtain ⟨c, hc, rfl, hown, hbel⟩ := hrel
    clear ho1 hb1
    by_cases hlt : c < n
    · have hlti : (c : Int) < (n : Int) := by omega
      obtain ⟨b1, f1, rfl, _, R1'⟩ := entry_at (KH.out.below hbel) hlt
      have KO : Hid (Ow wr w.heap.size (.lst 48 3 n (fun i => if i < c then enD (M i) else enD enZ)) (.slice (some ⟨g, 0, none⟩) n n) (rng w.heap.size wr.heap.size) ∧ Below w.heap.size w wr) := ⟨hown, hbel⟩
      obtain ⟨⟨z0, z1, z2⟩, HZ⟩ : ∃ z, Hid (M c = z) := ⟨_, rfl⟩
      rw [HZ.out] at R1'
      have KT : Hid _ := toEn_any z0 z1 z2 wr
      have R1 : Hid (wr.rangeAt b1 (f1 + c * 3) [.string z0, .string z1, .int .i64 z2]) := R1'
      have lg : g < wr.heap.size := by
        obtain ⟨a', cap', c', G', e', ho', _⟩ := hown
        cases e'
        exact (World.ownsRow.lt ho' g rfl).2
      clear R1' hbel hown
      go_wp2_with (refine wpList_load_mid (by rfl) 70 _ (by rfl) b1 (f1 + c * 3) (by rfl) [.string z0, .string z1, .int .i64 z2] _ ?_ Tryd.underlying70 (by rfl) Tryd.infoEnL ?_; exact R1.out)
      refine Calls.mono KT.out ?_
      rintro e w2 ⟨rfl, b2⟩
      have O2 := KO.out.1.below b2
      have TH : Hid (w2.there g (c * 3) 3) := by
        obtain ⟨a', cap', c', G', e', ho', _⟩ := O2
        cases e'
        intro j hj
        refine ⟨?_, World.ownsRow.frozenAt ho' _⟩
        rw [World.ownsRow.cellAt ho' _ (mid_lt hlt hj), cL_get _ _ _ _ _ hlt hj]
        rfl
      have hsz := KO.out.2.size
      have HO : Hid (Ow (w2.setCells g (c * 3) [Value.string z0, .string z1, .int .i64 z2]) w.heap.size (.lst 48 3 n (fun i => if i < c + 1 then enD (M i) else enD enZ)) (.slice (some ⟨g, 0, none⟩) n n) (rng w.heap.size (w2.setCells g (c * 3) [Value.string z0, .string z1, .int .i64 z2]).heap.size)) := by
        rw [size_setCells]
        refine Ow.congr (Ow.store (d := enD ⟨z0, z1, z2⟩) (H := fun _ _ => False) O2 hlt rfl (fun q hq => ow_entry _ _ _ _ _ q hq) ?_ ?_ ?_ ?_) ?_
        · intro q x _ hx hf
          exact hx.elim
        · intro q q' x _ _ hx hx'
          exact hx.elim
        · intro x hx
          have := b2.size
          exact ⟨hx.1, by have := hx.2; omega⟩
        · intro q x _ hx
          exact hx.elim
        · intro i q _ _
          by_cases e : i = c
          · subst e; simp [HZ.out]
          · by_cases e2 : i < c
            · simp [e, e2, show i < c + 1 by omega]
            · simp [e, e2, show ¬ i < c + 1 by omega]
      have HBe : Hid (Below w.heap.size w (w2.setCells g (c * 3) [Value.string z0, .string z1, .int .i64 z2])) := below_setCells (below2 KO.out.2 b2) HB.out _ _
      clear O2 b2 KT R1 KO
      go_wp2_with (refine wpList_store_mid (by rfl) 48 _ _ (by rfl) g (c * 3) ([Value.string z0, .string z1, .int .i64 z2]).toArray (by rfl) (by rfl) ?_ Tryd.infoEn (by simp [Value.oneCell']) ?_; exact TH.out)
      go_roundw
      case rel => exact ⟨c + 1, by omega, by go_num, HO.out, HBe.out⟩
      case measure => simp [intOf]; omega
    · obtain rfl : c = n := by omega
      have HO : Hid (Ow wr w.heap.size (ensD c M) (.slice (some ⟨g, 0, none⟩) c c) (rng w.heap.size wr.heap.size)) := hown.congr (fun i q hi _ => by simp [hi])
      clear hown
      go_wp2
      go_ret
      exact ⟨g, rfl, HO.out, hbel⟩
end Go.Proofs.YtkcnpkkihbpnmaaDoor
