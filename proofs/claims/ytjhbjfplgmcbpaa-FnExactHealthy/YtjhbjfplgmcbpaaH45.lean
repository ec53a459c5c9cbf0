/- Which nodes that are no liars are done with a root (NetDone), in the model. Conditions: lists of at most 2^20. -/
import Derived.Test.YtjhbjfplgmcbpaaH44
namespace Go.Proofs.Ytjhbjfplgmcbpaa
set_option maxRecDepth 2000
open Go.ChangeShapes Go.WideShapes Go.ChangeAt Go.RowKit

set_option maxHeartbeats 1000000 in
theorem sHas_any (l : Option Addr) (d : Nat) (zs : List Int) (x : Int) (w : World) (h : IntsAt w l zs.length zs) (hn : zs.length ≤ 1048576) :
    Calls Try.prog 33 #[.slice l zs.length d, .int .i64 x] w fun e w' => e = .returned (.bool (decide (x ∈ zs))) ∧ w' = w := by
  have KH : Hid (IntsAt w l zs.length zs) := h
  clear h
  obtain ⟨bb, HBB⟩ : ∃ v, Hid (decide (x ∈ zs) = v) := ⟨_, rfl⟩
  rw [HBB.out]
  obtain ⟨n, HN⟩ : ∃ v, Hid (zs.length = v) := ⟨_, rfl⟩
  rw [HN.out] at hn ⊢
  go_enter Try.func33, Try.ntmps33
  go_wp2
  go_loopw [5] (fun vi wr => ∃ k : Nat, k ≤ n ∧ vi = .int .i64 (k : Int) ∧ wr = w ∧ Hid (∀ i, i < k → zs.getD i 0 ≠ x)) (fun vi _ => n - (intOf vi).toNat)
  case atStart => exact ⟨0, Nat.zero_le _, rfl, rfl, fun i hi => absurd hi (Nat.not_lt_zero _)⟩
  case round =>
    obtain ⟨k, hk, rfl, hw, HP⟩ := hrel
    obtain rfl := hw.symm
    clear hw
    by_cases hlt : k < n
    · have hki : (k : Int) < (n : Int) := by omega
      obtain ⟨bl, off, e1, hc⟩ := KH.out.some (by rw [HN.out]; omega)
      subst e1
      have x1 := hc k (by rw [HN.out]; exact hlt)
      clear hc
      obtain ⟨v, HV⟩ : ∃ y, Hid (zs.getD k 0 = y) := ⟨_, rfl⟩
      rw [HV.out] at x1
      by_cases hv : v = x
      · have HI : Hid (bb = true) := by
          rw [← HBB.out]
          refine decide_eq_true ?_
          rw [← hv, ← HV.out, List.getD_eq_getElem?_getD, List.getElem?_eq_getElem (by rw [HN.out]; exact hlt)]
          exact List.getElem_mem _
        have hb : (v == x) = true := by simp [hv]
        go_wp2
        go_ret
        exact ⟨by rw [HI.out]; rfl, rfl⟩
      · have HP2 : Hid (∀ i, i < k + 1 → zs.getD i 0 ≠ x) := fun i hi => by
          by_cases e : i = k
          · rw [e, HV.out]; exact hv
          · exact HP.out i (by omega)
        have hb : (v == x) = false := by simp [hv]
        clear HP
        go_wp2
        go_roundw
        case rel => exact ⟨k + 1, by omega, by go_num, trivial, HP2⟩
        case measure => simp [intOf]; omega
    · obtain rfl : k = n := by omega
      have HI : Hid (bb = false) := by
        rw [← HBB.out]
        refine decide_eq_false fun hx => ?_
        obtain ⟨i, hi, e⟩ := List.getElem_of_mem hx
        refine HP.out i (by rw [← HN.out]; exact hi) ?_
        rw [List.getD_eq_getElem?_getD, List.getElem?_eq_getElem hi]
        exact e
      go_wp2
      go_ret
      exact ⟨by rw [HI.out]; rfl, rfl⟩
/-- What stands when k nodes are looked at. -/
structure DnS (w : World) (A : Nat) (f : Int) (a : Option Addr) (n c : Nat) (l : Option Addr) (zl d : Nat) (v3 : Value) (L : List Int) (gg len cc : Nat) (wr : World) : Prop where
  ro : wr.ownsRow (A + 1) 3 1 (.slice (some ⟨gg, 0, none⟩) len cc) len (L.map (Value.int .i64))
  ra : Row wr A 31 #[.int .i64 f, .slice a n c, .slice l zl d, v3]
  ln : L.length = len
  bw : Below w.heap.size w wr
  wA : w.heap.size ≤ A
section
variable {w wr w' : World} {A : Nat} {f : Int} {a : Option Addr} {n c : Nat} {l : Option Addr} {zl d : Nat} {v3 : Value} {L : List Int} {gg len cc : Nat}
theorem DnS.below (h : DnS w A f a n c l zl d v3 L gg len cc wr) (hb : Below wr.heap.size wr w') : DnS w A f a n c l zl d v3 L gg len cc w' := ⟨ownsRow_below h.ro hb, h.ra.below hb h.ra.lt, h.ln, below2 h.bw hb, h.wA⟩
end
end Go.Proofs.Ytjhbjfplgmcbpaa
/- Whether every node that is no liar has its piece and is done (Healthy), in the program and in the model. Conditions: lists of at most 2^20. -/
namespace Go.Proofs.Ytjhbjfplgmcbpaa
set_option maxRecDepth 2000
open Go.ChangeShapes Go.WideShapes Go.ChangeAt Go.RowKit

/-- Whether a node has its piece and is done with it; whether all of a list are. -/
def heB (N : Nat → Nd) (root : ByteArray) (i : Nat) : Bool := (soS (N i).S root (N i).n).h && (soS (N i).S root (N i).n).o
def hlB (N : Nat → Nd) (root : ByteArray) (l : List Nat) : Bool := l.all (heB N root)
theorem hlB_snoc (N : Nat → Nd) (root : ByteArray) (l : List Nat) (x : Nat) : hlB N root (l ++ [x]) = (hlB N root l && heB N root x) := by
  unfold hlB
  rw [List.all_append]
  simp
theorem hlB_no {N : Nat → Nd} {root : ByteArray} {l : List Nat} {t : Nat} (ht : t < l.length) (h : heB N root (l.getD t 0) = false) : hlB N root l = false := by
  unfold hlB
  rw [List.all_eq_false]
  refine ⟨l.getD t 0, ?_, by simpa using h⟩
  rw [List.getD_eq_getElem?_getD, List.getElem?_eq_getElem ht]
  exact List.getElem_mem ht
set_option maxHeartbeats 4000000 in
theorem healthy_any (f : Int) (a : Option Addr) (n c : Nat) (l : Option Addr) (d : Nat) (zs : List Int) (v3 : Value) (N : Nat → Nd) (root : ByteArray) (w : World) (h : Rd w (ndsD n N) (.slice a n c)) (hl : IntsAt w l zs.length zs) (hn : n ≤ 1048576) (hz : zs.length ≤ 1048576) (hQ : ∀ i, i < n → NdQ (N i)) :
    Calls Try.prog 13 #[ntV f (.slice a n c) (.slice l zs.length d) v3, .string root] w fun e w' => e = .returned (.bool (hlB N root (kl (lyP zs) n))) ∧ Below w.heap.size w w' := by
  obtain ⟨A, HA⟩ : ∃ x, Hid (x = w.heap.size) := ⟨_, rfl⟩
  obtain ⟨w0, HW0⟩ : ∃ x, Hid (x = w.alloc (.cells #[.int .i64 f, .slice a n c, .slice l zs.length d, v3] 31)) := ⟨_, rfl⟩
  have RA : Hid (Row w0 A 31 #[.int .i64 f, .slice a n c, .slice l zs.length d, v3]) := by show Row _ _ _ _; rw [HW0.out, HA.out]; exact Row.new w _ _
  have b0 : Below w.heap.size w w0 := by rw [HW0.out]; exact (Below.refl _ _).alloc (Nat.le_refl _) _
  have KH : Hid _ := honest_any f a n c l d zs v3 N w w0 b0 h (hl.below b0) hn hz
  obtain ⟨m, HM⟩ : ∃ x, Hid ((kl (lyP zs) n).length = x) := ⟨_, rfl⟩
  have hmn : m ≤ n := by rw [← HM.out]; exact kl_le _ _
  rw [HM.out] at KH
  have KB0 : Hid (Below w.heap.size w w0) := b0
  have hin : ∀ t, t < m → (kl (lyP zs) n).getD t 0 < n := fun t ht => by
    rw [← HM.out] at ht
    rw [List.getD_eq_getElem?_getD, List.getElem?_eq_getElem ht]
    exact List.mem_range.1 (List.mem_filter.1 (List.getElem_mem ht)).1
  have KQ : Hid (∀ t, t < m → (kl (lyP zs) n).getD t 0 < n ∧ NdQ (N ((kl (lyP zs) n).getD t 0))) := fun t ht => ⟨hin t ht, hQ _ (hin t ht)⟩
  obtain ⟨bb, HBB⟩ : ∃ x, Hid (x = hlB N root (kl (lyP zs) n)) := ⟨_, rfl⟩
  rw [← HBB.out]
  clear h hl b0 hQ hin
  go_enter Try.func13, Try.ntmps13
  go_wp2_with (rw [← HW0.out, ← HA.out]; refine wpList_load_row (by rfl) 31 _ (by rfl) A (by rfl) 31 #[.int .i64 f, .slice a n c, .slice l zs.length d, v3] (0, 0) _ ?_ Try.underlying31 (by rfl) Try.infoNt ?_; exact RA.out)
  refine Calls.mono KH.out ?_
  rintro e w1 ⟨g, z, rfl, ho, hr, b1⟩
  have H1 : Hid (w1.ownsRow w.heap.size 69 5 (.slice (some ⟨g, 0, none⟩) n n) n (cL 5 z n) ∧ Below w.heap.size w w1) := ⟨own_base ho KB0.out.size, below2 KB0.out b1⟩
  have KR : Hid (∀ t, t < m → ∀ q, q < 5 → Rd w (stD (N ((kl (lyP zs) n).getD t 0)) ((kl (lyP zs) n).getD t 0) f q) (z t q)) := hr
  clear ho hr b1 KH
  go_wp2
  go_loopw [12] (fun vi wr => ∃ (t : Nat), t ≤ m ∧ Hid (hlB N root ((kl (lyP zs) n).take t) = true) ∧ Hid (wr.ownsRow w.heap.size 69 5 (.slice (some ⟨g, 0, none⟩) n n) n (cL 5 z n) ∧ Below w.heap.size w wr) ∧ vi = .int .i64 (t : Int)) (fun vi _ => m - (intOf vi).toNat)
  case atStart => exact ⟨0, Nat.zero_le _, (show hlB N root ((kl (lyP zs) n).take 0) = true by simp [hlB]), H1, rfl⟩
  case round =>
    obtain ⟨t, ht, HLL, HD, rfl⟩ := hrel
    clear H1
    by_cases hlt : t < m
    · have hti : (t : Int) < (m : Int) := by omega
      obtain ⟨an, cn, e0, e1, e2, e3, e4, hrd⟩ := st_cells (KR.out t hlt)
      obtain ⟨hxn, hq⟩ := KQ.out t hlt
      have HTK : Hid ((kl (lyP zs) n).take (t + 1) = (kl (lyP zs) n).take t ++ [(kl (lyP zs) n).getD t 0]) := take_one (by rw [HM.out]; exact hlt)
      have HNO : Hid (heB N root ((kl (lyP zs) n).getD t 0) = false → bb = false) := fun k => by rw [HBB.out]; exact hlB_no (by rw [HM.out]; exact hlt) k
      have R1' := row_range HD.out.1 (show t < n by omega)
      obtain ⟨x, HX⟩ : ∃ v, Hid ((kl (lyP zs) n).getD t 0 = v) := ⟨_, rfl⟩
      rw [HX.out] at e0 e1 e2 e3 hrd hq hxn HTK HNO
      obtain ⟨nd, HND⟩ : ∃ v, Hid (N x = v) := ⟨_, rfl⟩
      obtain ⟨T, HT⟩ : ∃ v, Hid (soS nd.S root nd.n = v) := ⟨_, rfl⟩
      obtain ⟨okv, HOK⟩ : ∃ v, Hid (soB nd.S root nd.n = v) := ⟨_, rfl⟩
      rw [HND.out] at e0 e1 e2 hrd hq
      rw [e0, e1, e2, e3, e4] at R1'
      have R1 : Hid (wr.rangeAt g (t * 5) [.int .i64 nd.i, .int .i64 nd.f, .slice an nd.n cn, .int .i64 (x : Int), .int .i64 f]) := R1'
      obtain ⟨V, HV⟩ : ∃ v, Hid (v = wr.heap.size) := ⟨_, rfl⟩
      obtain ⟨w2, HW2⟩ : ∃ v, Hid (v = wr.alloc (.cells #[.int .i64 nd.i, .int .i64 nd.f, .slice an nd.n cn, .int .i64 (x : Int), .int .i64 f] 69)) := ⟨_, rfl⟩
      have b2 : Below wr.heap.size wr w2 := by rw [HW2.out]; exact (Below.refl _ _).alloc (Nat.le_refl _) _
      have HD2 : Hid (w2.ownsRow w.heap.size 69 5 (.slice (some ⟨g, 0, none⟩) n n) n (cL 5 z n) ∧ Below w.heap.size w w2) := ⟨ownsRow_below HD.out.1 b2, below2 HD.out.2 b2⟩
      have KC : Hid (Calls Try.prog 35 #[ndV nd.i nd.f (.slice an nd.n cn), .string root] w2 fun e w' => ∃ (a6 a11 a12 : Option Addr) (c6 c11 c12 : Nat) (F6 F11 F12 : Nat → Prop), e = .returned (.tuple #[slV T (.slice a6 T.p.m c6) (.slice a11 T.ze.length c11) (.slice a12 T.zr.length c12), .bool okv]) ∧ SlO w' w2.heap.size T (.slice a6 T.p.m c6) (.slice a11 T.ze.length c11) (.slice a12 T.zr.length c12) F6 F11 F12 ∧ Below w2.heap.size w2 w') := by
        have := slotOf_any nd.i nd.f an nd.n cn nd.S root w2 (hrd.below HD2.out.2) hq.n hq.k
        rw [HT.out, HOK.out] at this
        exact this
      have HSN : Hid (hlB N root ((kl (lyP zs) n).take (t + 1)) = (T.h && T.o)) := by
        show _ = _
        rw [HTK.out, hlB_snoc, HLL.out]
        unfold heB
        rw [HND.out, HT.out]
        simp
      have HNB : Hid ((T.h && T.o) = false → bb = false) := fun k => HNO.out (by unfold heB; rw [HND.out, HT.out]; exact k)
      clear e0 e1 e2 e3 e4 hrd hxn hq R1' b2 HTK HX HND HT HOK HLL HD HNO
      obtain ⟨th, HTH⟩ : ∃ v, Hid (T.h = v) := ⟨_, rfl⟩
      obtain ⟨tb, HTO⟩ : ∃ v, Hid (T.o = v) := ⟨_, rfl⟩
      rw [HTH.out, HTO.out] at HSN HNB
      go_wp2_with (refine wpList_load_mid (by rfl) 69 _ (by rfl) g (t * 5) (by rfl) [.int .i64 nd.i, .int .i64 nd.f, .slice an nd.n cn, .int .i64 (x : Int), .int .i64 f] _ ?_ Try.underlying69 (by rfl) Try.infoSt ?_; exact R1.out)
      rw [← HW2.out, ← HV.out]
      refine Calls.mono KC.out ?_
      rintro e w3 ⟨a6, a11, a12, c6, c11, c12, F6, F11, F12, rfl, _, b3⟩
      obtain ⟨G, HG⟩ : ∃ v, Hid (v = w3.heap.size) := ⟨_, rfl⟩
      obtain ⟨w4, HW4⟩ : ∃ v, Hid (v = w3.alloc (.cells (slC T (.slice a6 T.p.m c6) (.slice a11 T.ze.length c11) (.slice a12 T.zr.length c12)) 60)) := ⟨_, rfl⟩
      have b4 : Below w3.heap.size w3 w4 := by rw [HW4.out]; exact (Below.refl _ _).alloc (Nat.le_refl _) _
      have RG : Hid (Row w4 G 60 (slC T (.slice a6 T.p.m c6) (.slice a11 T.ze.length c11) (.slice a12 T.zr.length c12))) := by show Row _ _ _ _; rw [HW4.out, HG.out]; exact Row.new w3 _ _
      have HD4 : Hid (w4.ownsRow w.heap.size 69 5 (.slice (some ⟨g, 0, none⟩) n n) n (cL 5 z n) ∧ Below w.heap.size w w4) := ⟨ownsRow_below HD2.out.1 (below2 b3 b4), below2 HD2.out.2 (below2 b3 b4)⟩
      have y7 := RG.out.cell 7
      have y10 := RG.out.cell 10
      simp at y7 y10
      rw [HTH.out] at y7
      rw [HTO.out] at y10
      clear b3 b4 KC R1 HD2
      go_upto_region 5 with fail
      rw [← HW4.out, ← HG.out]
      cases th with
      | false =>
        have HBF : Hid (bb = false) := HNB.out rfl
        go_wp2
        go_ret
        exact ⟨by rw [HBF.out]; rfl, HD4.out.2⟩
      | true =>
        cases tb with
        | false =>
          have HBF : Hid (bb = false) := HNB.out rfl
          go_wp2
          go_ret
          exact ⟨by rw [HBF.out]; rfl, HD4.out.2⟩
        | true =>
          go_wp2
          go_roundw
          case rel => exact ⟨t + 1, by omega, HSN, HD4, by go_num⟩
          case measure => simp [intOf]; omega
    · obtain rfl : t = m := by omega
      have HBT : Hid (bb = true) := by
        show bb = true
        rw [HBB.out, ← HLL.out, ← HM.out, List.take_length]
      have HB : Hid (Below w.heap.size w wr) := HD.out.2
      clear HD
      go_wp2
      go_ret
      exact ⟨by rw [HBT.out]; rfl, HB.out⟩
theorem hlB_kl {N : Nat → Nd} {root : ByteArray} {p : Nat → Bool} {k n : Nat} (h : hlB N root (kl p (k + 1)) = false) (hk : k < n) : hlB N root (kl p n) = false := by
  induction n with
  | zero => omega
  | succ n ih =>
    by_cases e : k = n
    · subst e; exact h
    · have h1 := ih (by omega)
      rw [kl_succ]
      split
      · exact h1
      · rw [hlB_snoc, h1]; rfl
set_option maxHeartbeats 4000000 in
theorem sHealthy_any (f : Int) (a : Option Addr) (n c : Nat) (l : Option Addr) (d : Nat) (zs : List Int) (v3 : Value) (N : Nat → Nd) (root : ByteArray) (w : World) (h : Rd w (ndsD n N) (.slice a n c)) (hl : IntsAt w l zs.length zs) (hn : n ≤ 1048576) (hz : zs.length ≤ 1048576) (hQ : ∀ i, i < n → NdQ (N i)) :
    Calls Try.prog 12 #[ntV f (.slice a n c) (.slice l zs.length d) v3, .string root] w fun e w' => e = .returned (.bool (hlB N root (kl (lyP zs) n))) ∧ Below w.heap.size w w' := by
  obtain ⟨zl, HZL⟩ : ∃ x, Hid (zs.length = x) := ⟨_, rfl⟩
  have KL : Hid (∀ (k : Nat) W, Below w.heap.size w W → Calls Try.prog 33 #[.slice l zl d, .int .i64 (k : Int)] W fun e w' => e = .returned (.bool (lyP zs k)) ∧ w' = W) := fun k W hW => by rw [← HZL.out]; exact sHas_any l d zs k W (hl.below hW) hz
  rw [HZL.out]
  obtain ⟨A, HA⟩ : ∃ x, Hid (x = w.heap.size) := ⟨_, rfl⟩
  obtain ⟨w0, HW0⟩ : ∃ x, Hid (x = w.alloc (.cells #[.int .i64 f, .slice a n c, .slice l zl d, v3] 31)) := ⟨_, rfl⟩
  have RA : Row w0 A 31 #[.int .i64 f, .slice a n c, .slice l zl d, v3] := by rw [HW0.out, HA.out]; exact Row.new w _ _
  have b0 : Below w.heap.size w w0 := by rw [HW0.out]; exact (Below.refl _ _).alloc (Nat.le_refl _) _
  have H1 : Hid (Row w0 A 31 #[.int .i64 f, .slice a n c, .slice l zl d, v3] ∧ Below w.heap.size w w0) := ⟨RA, b0⟩
  have KN : Hid (Rd w (ndsD n N) (.slice a n c)) := h
  have KQ : Hid (∀ i, i < n → NdQ (N i)) := hQ
  obtain ⟨bb, HBB⟩ : ∃ x, Hid (x = hlB N root (kl (lyP zs) n)) := ⟨_, rfl⟩
  rw [← HBB.out]
  clear h hl b0 hQ RA
  go_enter Try.func12, Try.ntmps12
  go_wp2
  rw [← HW0.out, ← HA.out]
  go_loopw [5] (fun vi wr => ∃ (k : Nat), k ≤ n ∧ Hid (hlB N root (kl (lyP zs) k) = true) ∧ Hid (Row wr A 31 #[.int .i64 f, .slice a n c, .slice l zl d, v3] ∧ Below w.heap.size w wr) ∧ vi = .int .i64 (k : Int)) (fun vi _ => n - (intOf vi).toNat)
  case atStart => exact ⟨0, Nat.zero_le _, (show hlB N root (kl (lyP zs) 0) = true by simp [hlB, kl]), H1, rfl⟩
  case round =>
    obtain ⟨k, hk, HLL, HD, rfl⟩ := hrel
    clear H1
    have x1 := HD.out.1.cell 1
    simp at x1
    by_cases hlt : k < n
    · have hki : (k : Int) < (n : Int) := by omega
      obtain ⟨b1, f1, an, cn, e1, _, R0, hrd⟩ := node_at KN.out hlt
      subst e1
      have hq := KQ.out k hlt
      obtain ⟨nd, HND⟩ : ∃ v, Hid (N k = v) := ⟨_, rfl⟩
      rw [HND.out] at R0 hrd hq
      obtain ⟨T, HT⟩ : ∃ v, Hid (soS nd.S root nd.n = v) := ⟨_, rfl⟩
      obtain ⟨okv, HOK⟩ : ∃ v, Hid (soB nd.S root nd.n = v) := ⟨_, rfl⟩
      have R1 : Hid (wr.rangeAt b1 (f1 + k * 3) [.int .i64 nd.i, .int .i64 nd.f, .slice an nd.n cn]) := fun j v hv => (HD.out.2.cell (block_lt_of_cell (R0 j v hv))).trans (R0 j v hv)
      have KC : Hid (Calls Try.prog 32 #[ndV nd.i nd.f (.slice an nd.n cn), .string root] wr fun e w' => ∃ (a6 a11 a12 : Option Addr) (c6 c11 c12 : Nat) (F6 F11 F12 : Nat → Prop), e = .returned (.tuple #[slV T (.slice a6 T.p.m c6) (.slice a11 T.ze.length c11) (.slice a12 T.zr.length c12), .bool okv]) ∧ SlO w' wr.heap.size T (.slice a6 T.p.m c6) (.slice a11 T.ze.length c11) (.slice a12 T.zr.length c12) F6 F11 F12 ∧ Below wr.heap.size wr w') := by
        have := sSlotOf_any nd.i nd.f an nd.n cn nd.S root wr (hrd.below HD.out.2) hq.n hq.s
        rw [HT.out, HOK.out] at this
        exact this
      obtain ⟨ly, HLY⟩ : ∃ v, Hid (lyP zs k = v) := ⟨_, rfl⟩
      have HSN : Hid (hlB N root (kl (lyP zs) (k + 1)) = (ly || (T.h && T.o))) := by
        show _ = _
        rw [kl_succ]
        by_cases hy : lyP zs k = true
        · rw [if_pos hy, HLL.out, ← HLY.out, hy]; rfl
        · rw [if_neg hy, hlB_snoc, HLL.out, ← HLY.out]
          unfold heB
          rw [HND.out, HT.out]
          simp [hy]
      have HNB : Hid (hlB N root (kl (lyP zs) (k + 1)) = false → bb = false) := fun e => by rw [HBB.out]; exact hlB_kl e hlt
      replace KL : Hid (∀ W, Below w.heap.size w W → Calls Try.prog 33 #[.slice l zl d, .int .i64 (k : Int)] W fun e w' => e = .returned (.bool ly) ∧ w' = W) := fun W hW => by rw [← HLY.out]; exact KL.out k W hW
      rw [HSN.out] at HNB
      clear hrd hq R0 HND HT HOK HLL HLY
      obtain ⟨th, HTH⟩ : ∃ v, Hid (T.h = v) := ⟨_, rfl⟩
      obtain ⟨tb, HTO⟩ : ∃ v, Hid (T.o = v) := ⟨_, rfl⟩
      rw [HTH.out, HTO.out] at HSN HNB
      go_wp2_with (refine wpList_load_mid (by rfl) 46 _ (by rfl) b1 (f1 + k * 3) (by rfl) [.int .i64 nd.i, .int .i64 nd.f, .slice an nd.n cn] _ ?_ Try.underlying46 (by rfl) Try.infoNd ?_; exact R1.out)
      refine Calls.mono KC.out ?_
      rintro e w3 ⟨a6, a11, a12, c6, c11, c12, F6, F11, F12, rfl, _, b3⟩
      obtain ⟨G, HG⟩ : ∃ v, Hid (v = w3.heap.size) := ⟨_, rfl⟩
      obtain ⟨w4, HW4⟩ : ∃ v, Hid (v = w3.alloc (.cells (slC T (.slice a6 T.p.m c6) (.slice a11 T.ze.length c11) (.slice a12 T.zr.length c12)) 60)) := ⟨_, rfl⟩
      have b4 : Below w3.heap.size w3 w4 := by rw [HW4.out]; exact (Below.refl _ _).alloc (Nat.le_refl _) _
      have RG : Hid (Row w4 G 60 (slC T (.slice a6 T.p.m c6) (.slice a11 T.ze.length c11) (.slice a12 T.zr.length c12))) := by show Row _ _ _ _; rw [HW4.out, HG.out]; exact Row.new w3 _ _
      have HD4 : Hid (Row w4 A 31 #[.int .i64 f, .slice (some ⟨b1, f1, none⟩) n c, .slice l zl d, v3] ∧ Below w.heap.size w w4) := ⟨HD.out.1.below (below2 b3 b4) HD.out.1.lt, below2 HD.out.2 (below2 b3 b4)⟩
      have y7 := RG.out.cell 7
      have y10 := RG.out.cell 10
      simp at y7 y10
      rw [HTH.out] at y7
      rw [HTO.out] at y10
      have z2 := HD4.out.1.cell 2
      simp at z2
      have KHl : Hid _ := KL.out w4 HD4.out.2
      clear b3 b4 KC R1 HD x1
      go_upto_region 5 with fail
      rw [← HW4.out, ← HG.out]
      go_wp2_with fail
      refine Calls.mono KHl.out ?_
      rintro e w' ⟨rfl, hw⟩
      obtain rfl := hw.symm
      clear hw
      cases ly with
      | true =>
        go_wp2
        go_roundw
        case rel => exact ⟨k + 1, by omega, HSN, HD4, by go_num⟩
        case measure => simp [intOf]; omega
      | false =>
        cases th with
        | false =>
          have HBF : Hid (bb = false) := HNB.out rfl
          go_wp2
          go_ret
          exact ⟨by rw [HBF.out]; rfl, HD4.out.2⟩
        | true =>
          cases tb with
          | false =>
            have HBF : Hid (bb = false) := HNB.out rfl
            go_wp2
            go_ret
            exact ⟨by rw [HBF.out]; rfl, HD4.out.2⟩
          | true =>
            go_wp2
            go_roundw
            case rel => exact ⟨k + 1, by omega, HSN, HD4, by go_num⟩
            case measure => simp [intOf]; omega
    · obtain rfl : k = n := by omega
      have HBT : Hid (bb = true) := by
        show bb = true
        rw [HBB.out, ← HLL.out]
      have HB : Hid (Below w.heap.size w wr) := HD.out.2
      clear HD
      go_wp2
      go_ret
      exact ⟨by rw [HBT.out]; rfl, HB.out⟩
end Go.Proofs.Ytjhbjfplgmcbpaa
