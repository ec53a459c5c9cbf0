/- Which nodes that are no liars are done with a root (NetDone), in the model. Conditions: lists of at most 2^20. -/
import Derived.Test.YtggmcgcmpgofcaaJ43
import Derived.Test.YtggmcgcmpgofcaaJ37
namespace Go.Proofs.Ytggmcgcmpgofcaa
set_option maxRecDepth 2000
open Go.ChangeShapes Go.WideShapes Go.ChangeAt Go.RowKit

set_option maxHeartbeats 1000000 in
theorem sHas_any (l : Option Addr) (d : Nat) (zs : List Int) (x : Int) (w : World) (h : IntsAt w l zs.length zs) (hn : zs.length ≤ 1048576) :
    Calls Try.prog 51 #[.slice l zs.length d, .int .i64 x] w fun e w' => e = .returned (.bool (decide (x ∈ zs))) ∧ w' = w := by
  have KH : Hid (IntsAt w l zs.length zs) := h
  clear h
  obtain ⟨bb, HBB⟩ : ∃ v, Hid (decide (x ∈ zs) = v) := ⟨_, rfl⟩
  rw [HBB.out]
  obtain ⟨n, HN⟩ : ∃ v, Hid (zs.length = v) := ⟨_, rfl⟩
  rw [HN.out] at hn ⊢
  go_enter Try.func51, Try.ntmps51
  go_wp2
  go_loopw [5] (fun vi wr => ∃ k : Nat, k ≤ n ∧ vi = .int .i64 (k : Int) ∧ wr = w ∧ Hid (∀ i, i < k → zs.getD i 0 ≠ x)) (fun vi _ => n - (intOf vi).toNat)
  case atStart => exact ⟨0, Nat.zero_le _, rfl, rfl, fun i hi => absurd hi (Nat.not_lt_zero _)⟩
  case round =>
    obtain ⟨k, hk, rfl, hw, HP⟩ := hrel
    obtain rfl := hw.symm
    clear hw
    by_cases hlt : k < n
    · have hki : (k : Int) < (n : Int) := by omega
      obtain ⟨bl, off, e1, hc⟩ := KH.out.some (by rw [HN.out]; omega)
      subst e1
      have x1 := hc k (by rw [HN.out]; exact hlt)
      clear hc
      obtain ⟨v, HV⟩ : ∃ y, Hid (zs.getD k 0 = y) := ⟨_, rfl⟩
      rw [HV.out] at x1
      by_cases hv : v = x
      · have HI : Hid (bb = true) := by
          rw [← HBB.out]
          refine decide_eq_true ?_
          rw [← hv, ← HV.out, List.getD_eq_getElem?_getD, List.getElem?_eq_getElem (by rw [HN.out]; exact hlt)]
          exact List.getElem_mem _
        have hb : (v == x) = true := by simp [hv]
        go_wp2
        go_ret
        exact ⟨by rw [HI.out]; rfl, rfl⟩
      · have HP2 : Hid (∀ i, i < k + 1 → zs.getD i 0 ≠ x) := fun i hi => by
          by_cases e : i = k
          · rw [e, HV.out]; exact hv
          · exact HP.out i (by omega)
        have hb : (v == x) = false := by simp [hv]
        clear HP
        go_wp2
        go_roundw
        case rel => exact ⟨k + 1, by omega, by go_num, trivial, HP2⟩
        case measure => simp [intOf]; omega
    · obtain rfl : k = n := by omega
      have HI : Hid (bb = false) := by
        rw [← HBB.out]
        refine decide_eq_false fun hx => ?_
        obtain ⟨i, hi, e⟩ := List.getElem_of_mem hx
        refine HP.out i (by rw [← HN.out]; exact hi) ?_
        rw [List.getD_eq_getElem?_getD, List.getElem?_eq_getElem hi]
        exact e
      go_wp2
      go_ret
      exact ⟨by rw [HI.out]; rfl, rfl⟩
/-- What stands when k nodes are looked at. -/
structure DnS (w : World) (A : Nat) (f : Int) (a : Option Addr) (n c : Nat) (l : Option Addr) (zl d : Nat) (v3 : Value) (L : List Int) (gg len cc : Nat) (wr : World) : Prop where
  ro : wr.ownsRow (A + 1) 3 1 (.slice (some ⟨gg, 0, none⟩) len cc) len (L.map (Value.int .i64))
  ra : Row wr A 36 #[.int .i64 f, .slice a n c, .slice l zl d, v3]
  ln : L.length = len
  bw : Below w.heap.size w wr
  wA : w.heap.size ≤ A
section
variable {w wr w' : World} {A : Nat} {f : Int} {a : Option Addr} {n c : Nat} {l : Option Addr} {zl d : Nat} {v3 : Value} {L : List Int} {gg len cc : Nat}
theorem DnS.below (h : DnS w A f a n c l zl d v3 L gg len cc wr) (hb : Below wr.heap.size wr w') : DnS w A f a n c l zl d v3 L gg len cc w' := ⟨ownsRow_below h.ro hb, h.ra.below hb h.ra.lt, h.ln, below2 h.bw hb, h.wA⟩
theorem DnS.grow {g3 c3 : Nat} {x : Int} (h : DnS w A f a n c l zl d v3 L gg len cc wr) (ho : w'.ownsRow (A + 1) 3 1 (.slice (some ⟨g3, 0, none⟩) (len + 1) c3) (len + 1) (L.map (Value.int .i64) ++ [.int .i64 x])) (hg : wr.grownBy w' (some gg)) : DnS w A f a n c l zl d v3 (L ++ [x]) g3 (len + 1) c3 w' := by
  have lg := (World.ownsRow.lt h.ro gg rfl).1
  have hA := h.wA
  exact ⟨by rw [List.map_append]; exact ho, (hg.block A h.ra.lt (fun e => by cases e; omega)).trans h.ra, by rw [List.length_append, h.ln]; rfl, h.bw.grown hg h.bw.size (fun k e => by cases e; omega), h.wA⟩
end
set_option maxHeartbeats 4000000 in
theorem sNetDone_any (f : Int) (a : Option Addr) (n c : Nat) (l : Option Addr) (d : Nat) (zs : List Int) (v3 : Value) (N : Nat → Nd) (root : ByteArray) (w : World) (h : Rd w (ndsD n N) (.slice a n c)) (hl : IntsAt w l zs.length zs) (hn : n ≤ 1048576) (hz : zs.length ≤ 1048576) (hQ : ∀ i, i < n → NdQ (N i)) :
    Calls Try.prog 23 #[ntV f (.slice a n c) (.slice l zs.length d) v3, .string root] w fun e w' => ∃ v, e = .returned v ∧ OwnI w' w.heap.size v (dnL N root (kl (lyP zs) n)) ∧ Below w.heap.size w w' := by
  obtain ⟨i0, hi, hz0, hz1, hz2⟩ : ∃ i0, Try.prog.info? 3 = some i0 ∧ i0.zero = some (.int .i64 0) ∧ i0.size = 1 ∧ i0.bytes = 8 := ⟨_, rfl, rfl, rfl, rfl⟩
  obtain ⟨zl, HZL⟩ : ∃ x, Hid (zs.length = x) := ⟨_, rfl⟩
  have KL : Hid (∀ (k : Nat) W, Below w.heap.size w W → Calls Try.prog 51 #[.slice l zl d, .int .i64 (k : Int)] W fun e w' => e = .returned (.bool (lyP zs k)) ∧ w' = W) := fun k W hW => by rw [← HZL.out]; exact sHas_any l d zs k W (hl.below hW) hz
  rw [HZL.out]
  obtain ⟨A, HA⟩ : ∃ x, Hid (x = w.heap.size) := ⟨_, rfl⟩
  obtain ⟨g0, HG0⟩ : ∃ x, Hid (x = w.heap.size + 1) := ⟨_, rfl⟩
  obtain ⟨w0, HW0⟩ : ∃ x, Hid (x = (w.alloc (.cells #[.int .i64 f, .slice a n c, .slice l zl d, v3] 36)).alloc (.cells #[] 3)) := ⟨_, rfl⟩
  have RA : Row w0 A 36 #[.int .i64 f, .slice a n c, .slice l zl d, v3] := by rw [HW0.out, HA.out]; exact Row.alloc (Row.new w _ _) _
  have b0 : Below w.heap.size w w0 := by rw [HW0.out]; exact ((Below.refl _ _).alloc (Nat.le_refl _) _).alloc (by simp) _
  have HO0 : w0.ownsRow (A + 1) 3 1 (.slice (some ⟨g0, 0, none⟩) 0 0) 0 [] := by
    have := World.ownsRow_lit (e := 3) (size := 1) (base := A + 1) (w.alloc (.cells #[.int .i64 f, .slice a n c, .slice l zl d, v3] 36)) #[] 0 (by rw [HA.out]; simp) (by unfold maxLen; omega) (by simp)
    rw [HW0.out, HG0.out]
    simpa using this
  have H1 : Hid (DnS w A f a n c l zl d v3 [] g0 0 0 w0) := ⟨HO0, RA, rfl, b0, by rw [HA.out]; exact Nat.le_refl _⟩
  have KN : Hid (Rd w (ndsD n N) (.slice a n c)) := h
  have KQ : Hid (∀ i, i < n → NdQ (N i)) := hQ
  clear h hl b0 hQ RA HO0
  go_enter Try.func23, Try.ntmps23
  go_wp2
  rw [← HW0.out, ← HG0.out, ← HA.out]
  go_loopw [5, 6] (fun v vi wr => ∃ (k gg len cc : Nat) (L : List Int), k ≤ n ∧ len ≤ k ∧ Hid (L = dnL N root (kl (lyP zs) k)) ∧ Hid (DnS w A f a n c l zl d v3 L gg len cc wr) ∧ v = .slice (some ⟨gg, 0, none⟩) len cc ∧ vi = .int .i64 (k : Int)) (fun _ vi _ => n - (intOf vi).toNat)
  case atStart => exact ⟨0, g0, 0, 0, [], Nat.zero_le _, Nat.le_refl _, (show [] = dnL N root (kl (lyP zs) 0) by simp [dnL, kl]), H1, rfl, rfl⟩
  case round =>
    obtain ⟨k, gg, len, cc, L, hk, hlk, HLL, HD, rfl, rfl⟩ := hrel
    clear H1
    have x1 := HD.out.ra.cell 1
    simp at x1
    by_cases hlt : k < n
    · have hki : (k : Int) < (n : Int) := by omega
      obtain ⟨b1, f1, an, cn, e1, _, R0, hrd⟩ := node_at KN.out hlt
      subst e1
      have hq := KQ.out k hlt
      obtain ⟨nd, HND⟩ : ∃ v, Hid (N k = v) := ⟨_, rfl⟩
      rw [HND.out] at R0 hrd hq
      obtain ⟨T, HT⟩ : ∃ v, Hid (soS nd.S root nd.n = v) := ⟨_, rfl⟩
      obtain ⟨okv, HOK⟩ : ∃ v, Hid (soB nd.S root nd.n = v) := ⟨_, rfl⟩
      have R1 : Hid (wr.rangeAt b1 (f1 + k * 3) [.int .i64 nd.i, .int .i64 nd.f, .slice an nd.n cn]) := fun j v hv => (HD.out.bw.cell (block_lt_of_cell (R0 j v hv))).trans (R0 j v hv)
      have KC : Hid (Calls Try.prog 50 #[ndV nd.i nd.f (.slice an nd.n cn), .string root] wr fun e w' => ∃ (a6 a11 a12 : Option Addr) (c6 c11 c12 : Nat) (F6 F11 F12 : Nat → Prop), e = .returned (.tuple #[slV T (.slice a6 T.p.m c6) (.slice a11 T.ze.length c11) (.slice a12 T.zr.length c12), .bool okv]) ∧ SlO w' wr.heap.size T (.slice a6 T.p.m c6) (.slice a11 T.ze.length c11) (.slice a12 T.zr.length c12) F6 F11 F12 ∧ Below wr.heap.size wr w') := by
        have := sSlotOf_any nd.i nd.f an nd.n cn nd.S root wr (hrd.below HD.out.bw) hq.n hq.s
        rw [HT.out, HOK.out] at this
        exact this
      have HSN : Hid (dnL N root (kl (lyP zs) (k + 1)) = if lyP zs k = true then L else if (okv && T.o) = true then L ++ [(k : Int)] else L) := by
        show _ = _
        rw [kl_succ]
        by_cases hy : lyP zs k = true
        · rw [if_pos hy, if_pos hy]; exact HLL.out.symm
        · rw [if_neg hy, if_neg hy, dnL_snoc, ← HLL.out]
          unfold dnB
          rw [HND.out, HT.out, HOK.out]
      replace KL : Hid (∀ W, Below w.heap.size w W → Calls Try.prog 51 #[.slice l zl d, .int .i64 (k : Int)] W fun e w' => e = .returned (.bool (lyP zs k)) ∧ w' = W) := fun W hW => KL.out k W hW
      clear hrd hq R0 HND HT HOK HLL
      cases hok : okv with
      | false =>
        rw [hok] at KC HSN
        have HS2 : Hid (L = dnL N root (kl (lyP zs) (k + 1))) := by show _ = _; rw [HSN.out]; simp
        clear hok HSN
        go_wp2_with (refine wpList_load_mid (by rfl) 65 _ (by rfl) b1 (f1 + k * 3) (by rfl) [.int .i64 nd.i, .int .i64 nd.f, .slice an nd.n cn] _ ?_ Try.underlying65 (by rfl) Try.infoNd ?_; exact R1.out)
        refine Calls.mono KC.out ?_
        rintro e w3 ⟨a6, a11, a12, c6, c11, c12, F6, F11, F12, rfl, _, b3⟩
        obtain ⟨G, HG⟩ : ∃ v, Hid (v = w3.heap.size) := ⟨_, rfl⟩
        obtain ⟨w4, HW4⟩ : ∃ v, Hid (v = w3.alloc (.cells (slC T (.slice a6 T.p.m c6) (.slice a11 T.ze.length c11) (.slice a12 T.zr.length c12)) 79)) := ⟨_, rfl⟩
        have b4 : Below w3.heap.size w3 w4 := by rw [HW4.out]; exact (Below.refl _ _).alloc (Nat.le_refl _) _
        have RG : Hid (Row w4 G 79 (slC T (.slice a6 T.p.m c6) (.slice a11 T.ze.length c11) (.slice a12 T.zr.length c12))) := by show Row _ _ _ _; rw [HW4.out, HG.out]; exact Row.new w3 _ _
        have HD4 : Hid (DnS w A f (some ⟨b1, f1, none⟩) n c l zl d v3 L gg len cc w4) := HD.out.below (below2 b3 b4)
        have y10 := RG.out.cell 10
        simp at y10
        have z2 := HD4.out.ra.cell 2
        simp at z2
        clear b3 b4 KC R1 HD x1

        go_wp2
        rw [← HW4.out]
        go_roundw
        case rel => exact ⟨k + 1, gg, len, cc, L, by omega, by omega, HS2, HD4, rfl, by go_num⟩
        case measure => simp [intOf]; omega

      | true =>
        rw [hok] at KC HSN
        cases hto : T.o with
        | false =>
          rw [hto] at HSN
          have HTO : Hid (T.o = false) := hto
          have HS2 : Hid (L = dnL N root (kl (lyP zs) (k + 1))) := by show _ = _; rw [HSN.out]; simp
          clear hok HSN hto
          go_wp2_with (refine wpList_load_mid (by rfl) 65 _ (by rfl) b1 (f1 + k * 3) (by rfl) [.int .i64 nd.i, .int .i64 nd.f, .slice an nd.n cn] _ ?_ Try.underlying65 (by rfl) Try.infoNd ?_; exact R1.out)
          refine Calls.mono KC.out ?_
          rintro e w3 ⟨a6, a11, a12, c6, c11, c12, F6, F11, F12, rfl, _, b3⟩
          obtain ⟨G, HG⟩ : ∃ v, Hid (v = w3.heap.size) := ⟨_, rfl⟩
          obtain ⟨w4, HW4⟩ : ∃ v, Hid (v = w3.alloc (.cells (slC T (.slice a6 T.p.m c6) (.slice a11 T.ze.length c11) (.slice a12 T.zr.length c12)) 79)) := ⟨_, rfl⟩
          have b4 : Below w3.heap.size w3 w4 := by rw [HW4.out]; exact (Below.refl _ _).alloc (Nat.le_refl _) _
          have RG : Hid (Row w4 G 79 (slC T (.slice a6 T.p.m c6) (.slice a11 T.ze.length c11) (.slice a12 T.zr.length c12))) := by show Row _ _ _ _; rw [HW4.out, HG.out]; exact Row.new w3 _ _
          have HD4 : Hid (DnS w A f (some ⟨b1, f1, none⟩) n c l zl d v3 L gg len cc w4) := HD.out.below (below2 b3 b4)
          have y10 := RG.out.cell 10
          simp at y10
          have z2 := HD4.out.ra.cell 2
          simp at z2
          clear b3 b4 KC R1 HD x1

          rw [HTO.out] at y10
          go_upto_region 6 with fail
          rw [← HW4.out, ← HG.out]
          go_wp2
          go_roundw
          case rel => exact ⟨k + 1, gg, len, cc, L, by omega, by omega, HS2, HD4, rfl, by go_num⟩
          case measure => simp [intOf]; omega

        | true =>
          rw [hto] at HSN
          have HTO : Hid (T.o = true) := hto
          cases hly : lyP zs k with
          | true =>
            rw [hly] at HSN
            have HS2 : Hid (L = dnL N root (kl (lyP zs) (k + 1))) := by show _ = _; rw [HSN.out]; simp
            clear hok HSN hto
            go_wp2_with (refine wpList_load_mid (by rfl) 65 _ (by rfl) b1 (f1 + k * 3) (by rfl) [.int .i64 nd.i, .int .i64 nd.f, .slice an nd.n cn] _ ?_ Try.underlying65 (by rfl) Try.infoNd ?_; exact R1.out)
            refine Calls.mono KC.out ?_
            rintro e w3 ⟨a6, a11, a12, c6, c11, c12, F6, F11, F12, rfl, _, b3⟩
            obtain ⟨G, HG⟩ : ∃ v, Hid (v = w3.heap.size) := ⟨_, rfl⟩
            obtain ⟨w4, HW4⟩ : ∃ v, Hid (v = w3.alloc (.cells (slC T (.slice a6 T.p.m c6) (.slice a11 T.ze.length c11) (.slice a12 T.zr.length c12)) 79)) := ⟨_, rfl⟩
            have b4 : Below w3.heap.size w3 w4 := by rw [HW4.out]; exact (Below.refl _ _).alloc (Nat.le_refl _) _
            have RG : Hid (Row w4 G 79 (slC T (.slice a6 T.p.m c6) (.slice a11 T.ze.length c11) (.slice a12 T.zr.length c12))) := by show Row _ _ _ _; rw [HW4.out, HG.out]; exact Row.new w3 _ _
            have HD4 : Hid (DnS w A f (some ⟨b1, f1, none⟩) n c l zl d v3 L gg len cc w4) := HD.out.below (below2 b3 b4)
            have y10 := RG.out.cell 10
            simp at y10
            have z2 := HD4.out.ra.cell 2
            simp at z2
            clear b3 b4 KC R1 HD x1

            rw [HTO.out] at y10
            have KHl : Hid _ := KL.out w4 HD4.out.bw
            rw [hly] at KHl
            go_upto_region 6 with fail
            rw [← HW4.out, ← HG.out]
            go_wp2_with fail
            refine Calls.mono KHl.out ?_
            rintro e w' ⟨rfl, hw⟩
            obtain rfl := hw.symm
            clear hw
            go_wp2
            go_roundw
            case rel => exact ⟨k + 1, gg, len, cc, L, by omega, by omega, HS2, HD4, rfl, by go_num⟩
            case measure => simp [intOf]; omega

          | false =>
            rw [hly] at HSN
            have HS2 : Hid (L ++ [(k : Int)] = dnL N root (kl (lyP zs) (k + 1))) := by show _ = _; rw [HSN.out]; simp
            clear hok HSN hto
            go_wp2_with (refine wpList_load_mid (by rfl) 65 _ (by rfl) b1 (f1 + k * 3) (by rfl) [.int .i64 nd.i, .int .i64 nd.f, .slice an nd.n cn] _ ?_ Try.underlying65 (by rfl) Try.infoNd ?_; exact R1.out)
            refine Calls.mono KC.out ?_
            rintro e w3 ⟨a6, a11, a12, c6, c11, c12, F6, F11, F12, rfl, _, b3⟩
            obtain ⟨G, HG⟩ : ∃ v, Hid (v = w3.heap.size) := ⟨_, rfl⟩
            obtain ⟨w4, HW4⟩ : ∃ v, Hid (v = w3.alloc (.cells (slC T (.slice a6 T.p.m c6) (.slice a11 T.ze.length c11) (.slice a12 T.zr.length c12)) 79)) := ⟨_, rfl⟩
            have b4 : Below w3.heap.size w3 w4 := by rw [HW4.out]; exact (Below.refl _ _).alloc (Nat.le_refl _) _
            have RG : Hid (Row w4 G 79 (slC T (.slice a6 T.p.m c6) (.slice a11 T.ze.length c11) (.slice a12 T.zr.length c12))) := by show Row _ _ _ _; rw [HW4.out, HG.out]; exact Row.new w3 _ _
            have HD4 : Hid (DnS w A f (some ⟨b1, f1, none⟩) n c l zl d v3 L gg len cc w4) := HD.out.below (below2 b3 b4)
            have y10 := RG.out.cell 10
            simp at y10
            have z2 := HD4.out.ra.cell 2
            simp at z2
            clear b3 b4 KC R1 HD x1

            rw [HTO.out] at y10
            have KHl : Hid _ := KL.out w4 HD4.out.bw
            rw [hly] at KHl
            have hsz := HD4.out.ra.lt
            have HNE : Hid (∀ j u, ([.int .i64 (k : Int)] : List Value)[j]? = some u → (w4.alloc (.cells #[.int .i64 (k : Int)] 3)).cell? ((⟨w4.heap.size, 0, none⟩ : Addr).add j) = some u) := World.news_of_block (cs := #[.int .i64 (k : Int)]) (t := 3) (fr := (0, 0)) (heap_alloc_new w4 _)
            obtain ⟨w5, HW5⟩ : ∃ v, Hid (v = w4.alloc (.cells #[.int .i64 (k : Int)] 3)) := ⟨_, rfl⟩
            have b5 : Below w4.heap.size w4 w5 := by rw [HW5.out]; exact (Below.refl _ _).alloc (Nat.le_refl _) _
            have HD5 : Hid (DnS w A f (some ⟨b1, f1, none⟩) n c l zl d v3 L gg len cc w5) := HD4.out.below b5
            have s5 := b5.size
            rw [← HW5.out] at HNE
            go_upto_region 6 with fail
            rw [← HW4.out, ← HG.out]
            go_wp2_with fail
            refine Calls.mono KHl.out ?_
            rintro e w' ⟨rfl, hw⟩
            obtain rfl := hw.symm
            clear hw
            go_wp2_with (at_builtin; rw [← HW5.out]; refine wpList_append_all _ (by rfl) _ _ 24 (by rfl) (A + 1) 3 i0 (.int .i64 0) 1 8 Try.underlying24 hi hz0 hz1 hz2 rfl (by decide) gg len cc (L.map (Value.int .i64)) (by rfl) ?_ ⟨w4.heap.size, 0, none⟩ 1 1 [.int .i64 (k : Int)] (by rfl) (by rfl) ?_ (by simp [Value.oneCell']) (by unfold maxLen; omega) (by omega) (by omega) ?_; exact HD5.out.ro; exact HNE.out; intro g3 cap3 w6 hown3 hgrow3)
            have HD6 : Hid (DnS w A f (some ⟨b1, f1, none⟩) n c l zl d v3 (L ++ [(k : Int)]) g3 (len + 1) cap3 w6) := HD5.out.grow hown3 hgrow3
            clear hown3 hgrow3 HNE HD5 b5
            go_wp2
            go_roundw
            case rel => exact ⟨k + 1, g3, len + 1, cap3, L ++ [(k : Int)], by omega, by omega, HS2, HD6, rfl, by go_num⟩
            case measure => simp [intOf]; omega

    · obtain rfl : k = n := by omega
      have HF : Hid (OwnI wr w.heap.size (.slice (some ⟨gg, 0, none⟩) len cc) (dnL N root (kl (lyP zs) k))) := by
        show OwnI _ _ _ _
        unfold OwnI
        rw [← HLL.out, HD.out.ln]
        exact own_base HD.out.ro (by have := HD.out.wA; omega)
      have HB : Hid (Below w.heap.size w wr) := HD.out.bw
      clear HD
      go_wp2
      go_ret
      exact ⟨_, rfl, HF.out, HB.out⟩
end Go.Proofs.Ytggmcgcmpgofcaa
/- What the count of a net tells of it, for the laws over nets. Lemmas. -/
namespace Go.Proofs.Ytggmcgcmpgofcaa
set_option maxRecDepth 2000
open Go.ChangeShapes Go.WideShapes Go.ChangeAt Go.RowKit

theorem tot_mul {g h : Nat → Nat} {c : Nat} (hg : ∀ i, g i ≤ c + 10 * h i) (n : Nat) : tot g n ≤ c * n + 10 * tot h n := by
  induction n with
  | zero => exact Nat.zero_le _
  | succ n ih =>
    show tot g n + g n ≤ c * (n + 1) + 10 * (tot h n + h n)
    have := hg n
    rw [Nat.mul_succ]
    omega
theorem wkN_le (d : Nd) : wkN d ≤ 2 + 10 * wtN d := by
  have h1 := tot_mul (g := fun i => wkS (d.S i)) (h := fun i => wtS (d.S i)) (c := 10) (fun i => by unfold wkS wtS wtP; omega) d.n
  unfold wkN wtN wtL
  omega
theorem ofy_wt (k : Nat) (Y : Nat → Sy) (m : Nat) : ofy k Y m ≤ k + 9 * m + tot (fun i => wtY (Y i)) m := by
  induction m with
  | zero => simp [ofy, tot]
  | succ m ih =>
    show ofy k Y m + 9 + (Y m).p.m ≤ k + 9 * (m + 1) + (tot (fun i => wtY (Y i)) m + wtY (Y m))
    have : (Y m).p.m ≤ wtY (Y m) := by unfold wtY wtP; omega
    omega
theorem wtT_little {n : Nat} {N : Nat → Nd} {zs : List Int} {m : Nat} {Y : Nat → Sy} (h : wtT n N zs m Y ≤ 1048576) : (∀ i, i < n → NdQ (N i)) ∧ NtW n N zs m Y := by
  unfold wtT wtNs wtYs at h
  have hw : ∀ i, i < n → wtL (N i).n (N i).S ≤ 1048576 := fun i hi => by show wtN (N i) ≤ 1048576; have : wtN (N i) ≤ tot (fun i => wtN (N i)) n := tot_ge2 (g := fun i => wtN (N i)) hi; omega
  have hy : ∀ i, i < m → wtY (Y i) ≤ 1048576 := fun i hi => by have : wtY (Y i) ≤ tot (fun i => wtY (Y i)) m := tot_ge2 (g := fun i => wtY (Y i)) hi; omega
  refine ⟨fun i hi => ?_, by omega, fun i hi => ?_, by omega, by omega, fun i hi => ?_, ?_⟩
  · obtain ⟨h1, h2, h3, _⟩ := wtL_little (hw i hi)
    exact ⟨h1, h3, h2⟩
  · obtain ⟨h1, h2, _, _⟩ := wtL_little (hw i hi)
    exact ⟨h1, h2⟩
  · have := hy i hi
    unfold wtY wtP at this
    omega
  · have h1 := tot_mul (g := fun i => wkN (N i)) (h := fun i => wtN (N i)) (c := 2) (fun i => wkN_le (N i)) n
    have h2 := ofy_wt (mq2 n N zs) Y m
    unfold mq3
    unfold mq2 mq1 at h2 ⊢
    omega
theorem Try.infoNtL2 : (Try.prog.info? 46).map (·.size) = some 4 := by kernel_rfl
theorem Trn.turned {w w' : World} {F : Nat → Prop} {b e : Nat} (h : Trn w w' F) (hF : ∀ g, F g → rng b e g) : Trn w w' (rng b e) := h.mono hF
theorem RowI.trnF {w w' : World} {B E : Nat} {a : Option Addr} {n cap : Nat} {zs : List Int} {F : Nat → Prop} (h : RowI w B E a n cap zs) (ht : Trn w w' F) (hd : ∀ g, F g → g < B) : RowI w' B E a n cap zs := by
  have hM : TurnM w w' 0 B := ⟨ht.os, ht.tape, ht.output, ht.size, fun j hj hn => ht.block j hj (fun k => by have := hd j k; omega)⟩
  refine ⟨?_, h.2⟩
  have h1 := h.1
  unfold OwnI at h1 ⊢
  exact own_turn h1 hM (fun x hx => (h.2.2.2 x.block (by subst hx; rfl)).2) (.inr (Nat.le_refl _))
end Go.Proofs.Ytggmcgcmpgofcaa
