/- The pieces that nodes that are no liars have of a root (NetPieces), in the model. Conditions: lists of at most 2^20. -/
import Derived.Test.YtggmcgcmpgofcaaL45
namespace Go.Proofs.Ytggmcgcmpgofcaa
set_option maxRecDepth 2000
open Go.ChangeShapes Go.WideShapes Go.ChangeAt Go.RowKit

set_option maxHeartbeats 4000000 in
theorem sNetPieces_any (f : Int) (a : Option Addr) (n c : Nat) (l : Option Addr) (d : Nat) (zs : List Int) (v3 : Value) (N : Nat → Nd) (root : ByteArray) (w : World) (h : Rd w (ndsD n N) (.slice a n c)) (hl : IntsAt w l zs.length zs) (hn : n ≤ 1048576) (hz : zs.length ≤ 1048576) (hQ : ∀ i, i < n → NdQ (N i)) :
    Calls Try.prog 26 #[ntV f (.slice a n c) (.slice l zs.length d) v3, .string root] w fun e w' => ∃ gg cc F, e = .returned (.slice (some ⟨gg, 0, none⟩) (hsL N root (kl (lyP zs) n)).length cc) ∧ Ow w' w.heap.size (pcsD (hsL N root (kl (lyP zs) n)).length (hsP N root (kl (lyP zs) n))) (.slice (some ⟨gg, 0, none⟩) (hsL N root (kl (lyP zs) n)).length cc) F ∧ Below w.heap.size w w' := by
  obtain ⟨i0, hi, hz0, hz1, hz2⟩ := info_parts Try.infoPcZ
  obtain ⟨zl, HZL⟩ : ∃ x, Hid (zs.length = x) := ⟨_, rfl⟩
  have KL : Hid (∀ (k : Nat) W, Below w.heap.size w W → Calls Try.prog 51 #[.slice l zl d, .int .i64 (k : Int)] W fun e w' => e = .returned (.bool (lyP zs k)) ∧ w' = W) := fun k W hW => by rw [← HZL.out]; exact sHas_any l d zs k W (hl.below hW) hz
  rw [HZL.out]
  obtain ⟨A, HA⟩ : ∃ x, Hid (x = w.heap.size) := ⟨_, rfl⟩
  obtain ⟨g0, HG0⟩ : ∃ x, Hid (x = w.heap.size + 1) := ⟨_, rfl⟩
  obtain ⟨w0, HW0⟩ : ∃ x, Hid (x = (w.alloc (.cells #[.int .i64 f, .slice a n c, .slice l zl d, v3] 36)).alloc (.cells #[] 77)) := ⟨_, rfl⟩
  have RA : Row w0 A 36 #[.int .i64 f, .slice a n c, .slice l zl d, v3] := by rw [HW0.out, HA.out]; exact Row.alloc (Row.new w _ _) _
  have b0 : Below w.heap.size w w0 := by rw [HW0.out]; exact ((Below.refl _ _).alloc (Nat.le_refl _) _).alloc (by simp) _
  have hs0 : w0.heap.size = w.heap.size + 2 := by rw [HW0.out]; simp
  have HK : Hid (∀ aa W W', W'.heap[A]? = W.heap[A]? → Row W A 36 #[.int .i64 f, .slice aa n c, .slice l zl d, v3] → Row W' A 36 #[.int .i64 f, .slice aa n c, .slice l zl d, v3]) := fun _ W W' e h => e.trans h
  have H1 : Hid (PcI w A (fun W => Row W A 36 #[.int .i64 f, .slice a n c, .slice l zl d, v3]) N root (kl (lyP zs) 0) (.slice (some ⟨g0, 0, none⟩) 0 0) 0 w0) := by
    have e : (w.alloc (.cells #[.int .i64 f, .slice a n c, .slice l zl d, v3] 36)).heap.size = g0 := by rw [HG0.out]; simp
    have h1 := ow_pnil (w.alloc (.cells #[.int .i64 f, .slice a n c, .slice l zl d, v3] 36)) w.heap.size (hsP N root (kl (lyP zs) 0)) (by simp) (F := fun x => rng w.heap.size w0.heap.size x ∧ x ≠ A) (by rw [e]; have := HG0.out; have := HA.out; exact ⟨⟨by omega, by omega⟩, by omega⟩)
    rw [e, ← HW0.out] at h1
    exact ⟨h1, RA, RA.lt, rfl, b0⟩
  have KN : Hid (Rd w (ndsD n N) (.slice a n c)) := h
  have KQ : Hid (∀ i, i < n → NdQ (N i)) := hQ
  clear h hl b0 hQ RA hs0
  go_enter Try.func26, Try.ntmps26
  go_wp2
  rw [← HW0.out, ← HG0.out, ← HA.out]
  go_loopw [5, 6] (fun v vi wr => ∃ (k gg len cc : Nat), k ≤ n ∧ len ≤ k ∧ Hid (PcI w A (fun W => Row W A 36 #[.int .i64 f, .slice a n c, .slice l zl d, v3]) N root (kl (lyP zs) k) (.slice (some ⟨gg, 0, none⟩) len cc) len wr) ∧ v = .slice (some ⟨gg, 0, none⟩) len cc ∧ vi = .int .i64 (k : Int)) (fun _ vi _ => n - (intOf vi).toNat)
  case atStart => exact ⟨0, g0, 0, 0, Nat.zero_le _, Nat.le_refl _, H1, rfl, rfl⟩
  case round =>
    obtain ⟨k, gg, len, cc, hk, hlk, HD, rfl, rfl⟩ := hrel
    clear H1
    have x1 := HD.out.rs.cell 1
    simp at x1
    by_cases hlt : k < n
    · have hki : (k : Int) < (n : Int) := by omega
      obtain ⟨b1, f1, an, cn, e1, _, R0, hrd⟩ := node_at KN.out hlt
      subst e1
      have hq := KQ.out k hlt
      obtain ⟨nd, HND⟩ : ∃ v, Hid (N k = v) := ⟨_, rfl⟩
      rw [HND.out] at R0 hrd hq
      obtain ⟨T, HT⟩ : ∃ v, Hid (soS nd.S root nd.n = v) := ⟨_, rfl⟩
      obtain ⟨okv, HOK⟩ : ∃ v, Hid (soB nd.S root nd.n = v) := ⟨_, rfl⟩
      have R1 : Hid (wr.rangeAt b1 (f1 + k * 3) [.int .i64 nd.i, .int .i64 nd.f, .slice an nd.n cn]) := fun j v hv => (HD.out.bw.cell (block_lt_of_cell (R0 j v hv))).trans (R0 j v hv)
      have KC : Hid (Calls Try.prog 50 #[ndV nd.i nd.f (.slice an nd.n cn), .string root] wr fun e w' => ∃ (a6 a11 a12 : Option Addr) (c6 c11 c12 : Nat) (F6 F11 F12 : Nat → Prop), e = .returned (.tuple #[slV T (.slice a6 T.p.m c6) (.slice a11 T.ze.length c11) (.slice a12 T.zr.length c12), .bool okv]) ∧ SlO w' wr.heap.size T (.slice a6 T.p.m c6) (.slice a11 T.ze.length c11) (.slice a12 T.zr.length c12) F6 F11 F12 ∧ Below wr.heap.size wr w') := by
        have := sSlotOf_any nd.i nd.f an nd.n cn nd.S root wr (hrd.below HD.out.bw) hq.n hq.s
        rw [HT.out, HOK.out] at this
        exact this
      have HSk : Hid (∀ W, Below wr.heap.size wr W → ((okv && T.h) = false ∨ lyP zs k = true) → PcI w A (fun W => Row W A 36 #[.int .i64 f, .slice (some ⟨b1, f1, none⟩) n c, .slice l zl d, v3]) N root (kl (lyP zs) (k + 1)) (.slice (some ⟨gg, 0, none⟩) len cc) len W) := fun W hb hf => by
        have h1 := HD.out.below (HK.out _) hb
        rw [kl_succ]
        by_cases hy : lyP zs k = true
        · rw [if_pos hy]; exact h1
        · rw [if_neg hy]
          refine h1.skip ?_
          unfold hsB
          rw [HND.out, HT.out, HOK.out]
          exact hf.resolve_right hy
      have HGr : Hid (∀ W5 W6 g3 cap (H : Nat → Nat → Prop), Below wr.heap.size wr W5 → (okv && T.h) = true → lyP zs k = false → Ow W6 w.heap.size (.lst 77 6 (len + 1) (fun i => if i = len then pcD T.p else pcD (hsP N root (kl (lyP zs) k) i))) (.slice (some ⟨g3, 0, none⟩) (len + 1) cap) (fun y => y < W6.heap.size ∧ (((rng w.heap.size wr.heap.size y ∧ y ≠ A) ∨ ∃ q, q < 6 ∧ H q y) ∨ W5.heap.size ≤ y)) → Below w.heap.size W5 W6 → (∀ y, y < W5.heap.size → ¬ (rng w.heap.size wr.heap.size y ∧ y ≠ A) → W6.heap[y]? = W5.heap[y]?) → (∀ q y, q < 6 → H q y → wr.heap.size ≤ y) → PcI w A (fun W => Row W A 36 #[.int .i64 f, .slice (some ⟨b1, f1, none⟩) n c, .slice l zl d, v3]) N root (kl (lyP zs) (k + 1)) (.slice (some ⟨g3, 0, none⟩) (len + 1) cap) (len + 1) W6) := fun W5 W6 g3 cap H h1 h2 hy h3 h4 h5 h6 => by
        rw [kl_succ, if_neg (by rw [hy]; decide)]
        refine PcI.grow HD.out (HK.out _) h1 ?_ ?_ h3 h4 h5 h6
        · unfold hsB
          rw [HND.out, HT.out, HOK.out]
          exact h2
        · rw [HND.out, HT.out]
      have HOp : Hid (Ow wr w.heap.size (pcsD len (hsP N root (kl (lyP zs) k))) (.slice (some ⟨gg, 0, none⟩) len cc) (fun x => rng w.heap.size wr.heap.size x ∧ x ≠ A)) := HD.out.op
      have HBw : Hid (Below w.heap.size w wr) := HD.out.bw
      have HRA : Hid (Row wr A 36 #[.int .i64 f, .slice (some ⟨b1, f1, none⟩) n c, .slice l zl d, v3]) := HD.out.rs
      replace KL : Hid (∀ W, Below w.heap.size w W → Calls Try.prog 51 #[.slice l zl d, .int .i64 (k : Int)] W fun e w' => e = .returned (.bool (lyP zs k)) ∧ w' = W) := fun W hW => KL.out k W hW
      clear hrd hq R0 HND HT HOK HD
      cases hok : okv with
      | false =>
        rw [hok] at KC HSk
        clear hok HGr HOp
        go_wp2_with (refine wpList_load_mid (by rfl) 65 _ (by rfl) b1 (f1 + k * 3) (by rfl) [.int .i64 nd.i, .int .i64 nd.f, .slice an nd.n cn] _ ?_ Try.underlying65 (by rfl) Try.infoNd ?_; exact R1.out)
        refine Calls.mono KC.out ?_
        rintro e w3 ⟨a6, a11, a12, c6, c11, c12, F6, F11, F12, rfl, SO3, b3⟩
        obtain ⟨G, HG⟩ : ∃ v, Hid (v = w3.heap.size) := ⟨_, rfl⟩
        obtain ⟨w4, HW4⟩ : ∃ v, Hid (v = w3.alloc (.cells (slC T (.slice a6 T.p.m c6) (.slice a11 T.ze.length c11) (.slice a12 T.zr.length c12)) 79)) := ⟨_, rfl⟩
        have b4 : Below w3.heap.size w3 w4 := by rw [HW4.out]; exact (Below.refl _ _).alloc (Nat.le_refl _) _
        have RG : Hid (Row w4 G 79 (slC T (.slice a6 T.p.m c6) (.slice a11 T.ze.length c11) (.slice a12 T.zr.length c12))) := by show Row _ _ _ _; rw [HW4.out, HG.out]; exact Row.new w3 _ _
        have B4 : Hid (Below wr.heap.size wr w4) := below2 b3 b4
        have HSO : Hid (Ow w4 wr.heap.size (txD T.p.m T.p.S) (.slice a6 T.p.m c6) (fun y => F6 y ∧ wr.heap.size ≤ y ∧ y < w3.heap.size)) := SO3.t.cut.below b4
        have RA4 : Row w4 A 36 #[.int .i64 f, .slice (some ⟨b1, f1, none⟩) n c, .slice l zl d, v3] := HRA.out.below B4.out HRA.out.lt
        have y7 := RG.out.cell 7
        simp at y7
        have z2 := RA4.cell 2
        simp at z2
        clear b3 b4 KC R1 SO3 RA4 x1

        have HS2 : Hid _ := HSk.out w4 B4.out (.inl rfl)
        go_wp2
        rw [← HW4.out]
        go_roundw
        case rel => exact ⟨k + 1, gg, len, cc, by omega, by omega, HS2, rfl, by go_num⟩
        case measure => simp [intOf]; omega

      | true =>
        rw [hok] at KC HSk HGr
        clear hok
        cases hto : T.h with
        | false =>
          have HTO : Hid (T.h = false) := hto
          clear hto HGr HOp
          go_wp2_with (refine wpList_load_mid (by rfl) 65 _ (by rfl) b1 (f1 + k * 3) (by rfl) [.int .i64 nd.i, .int .i64 nd.f, .slice an nd.n cn] _ ?_ Try.underlying65 (by rfl) Try.infoNd ?_; exact R1.out)
          refine Calls.mono KC.out ?_
          rintro e w3 ⟨a6, a11, a12, c6, c11, c12, F6, F11, F12, rfl, SO3, b3⟩
          obtain ⟨G, HG⟩ : ∃ v, Hid (v = w3.heap.size) := ⟨_, rfl⟩
          obtain ⟨w4, HW4⟩ : ∃ v, Hid (v = w3.alloc (.cells (slC T (.slice a6 T.p.m c6) (.slice a11 T.ze.length c11) (.slice a12 T.zr.length c12)) 79)) := ⟨_, rfl⟩
          have b4 : Below w3.heap.size w3 w4 := by rw [HW4.out]; exact (Below.refl _ _).alloc (Nat.le_refl _) _
          have RG : Hid (Row w4 G 79 (slC T (.slice a6 T.p.m c6) (.slice a11 T.ze.length c11) (.slice a12 T.zr.length c12))) := by show Row _ _ _ _; rw [HW4.out, HG.out]; exact Row.new w3 _ _
          have B4 : Hid (Below wr.heap.size wr w4) := below2 b3 b4
          have HSO : Hid (Ow w4 wr.heap.size (txD T.p.m T.p.S) (.slice a6 T.p.m c6) (fun y => F6 y ∧ wr.heap.size ≤ y ∧ y < w3.heap.size)) := SO3.t.cut.below b4
          have RA4 : Row w4 A 36 #[.int .i64 f, .slice (some ⟨b1, f1, none⟩) n c, .slice l zl d, v3] := HRA.out.below B4.out HRA.out.lt
          have y7 := RG.out.cell 7
          simp at y7
          have z2 := RA4.cell 2
          simp at z2
          clear b3 b4 KC R1 SO3 RA4 x1

          have HS2 : Hid _ := HSk.out w4 B4.out (.inl (by rw [HTO.out]; rfl))
          rw [HTO.out] at y7
          go_upto_region 6 with fail
          rw [← HW4.out, ← HG.out]
          go_wp2
          go_roundw
          case rel => exact ⟨k + 1, gg, len, cc, by omega, by omega, HS2, rfl, by go_num⟩
          case measure => simp [intOf]; omega

        | true =>
          have HTO : Hid (T.h = true) := hto
          clear hto
          cases hly : lyP zs k with
          | true =>
            clear HGr HOp
            go_wp2_with (refine wpList_load_mid (by rfl) 65 _ (by rfl) b1 (f1 + k * 3) (by rfl) [.int .i64 nd.i, .int .i64 nd.f, .slice an nd.n cn] _ ?_ Try.underlying65 (by rfl) Try.infoNd ?_; exact R1.out)
            refine Calls.mono KC.out ?_
            rintro e w3 ⟨a6, a11, a12, c6, c11, c12, F6, F11, F12, rfl, SO3, b3⟩
            obtain ⟨G, HG⟩ : ∃ v, Hid (v = w3.heap.size) := ⟨_, rfl⟩
            obtain ⟨w4, HW4⟩ : ∃ v, Hid (v = w3.alloc (.cells (slC T (.slice a6 T.p.m c6) (.slice a11 T.ze.length c11) (.slice a12 T.zr.length c12)) 79)) := ⟨_, rfl⟩
            have b4 : Below w3.heap.size w3 w4 := by rw [HW4.out]; exact (Below.refl _ _).alloc (Nat.le_refl _) _
            have RG : Hid (Row w4 G 79 (slC T (.slice a6 T.p.m c6) (.slice a11 T.ze.length c11) (.slice a12 T.zr.length c12))) := by show Row _ _ _ _; rw [HW4.out, HG.out]; exact Row.new w3 _ _
            have B4 : Hid (Below wr.heap.size wr w4) := below2 b3 b4
            have HSO : Hid (Ow w4 wr.heap.size (txD T.p.m T.p.S) (.slice a6 T.p.m c6) (fun y => F6 y ∧ wr.heap.size ≤ y ∧ y < w3.heap.size)) := SO3.t.cut.below b4
            have RA4 : Row w4 A 36 #[.int .i64 f, .slice (some ⟨b1, f1, none⟩) n c, .slice l zl d, v3] := HRA.out.below B4.out HRA.out.lt
            have y7 := RG.out.cell 7
            simp at y7
            have z2 := RA4.cell 2
            simp at z2
            clear b3 b4 KC R1 SO3 RA4 x1

            have HS2 : Hid _ := HSk.out w4 B4.out (.inr hly)
            rw [HTO.out] at y7
            have KHl : Hid _ := KL.out w4 (below2 HBw.out B4.out)
            rw [hly] at KHl
            go_upto_region 6 with fail
            rw [← HW4.out, ← HG.out]
            go_wp2_with fail
            refine Calls.mono KHl.out ?_
            rintro e w' ⟨rfl, hw⟩
            obtain rfl := hw.symm
            clear hw
            go_wp2
            go_roundw
            case rel => exact ⟨k + 1, gg, len, cc, by omega, by omega, HS2, rfl, by go_num⟩
            case measure => simp [intOf]; omega

          | false =>
            clear HSk
            go_wp2_with (refine wpList_load_mid (by rfl) 65 _ (by rfl) b1 (f1 + k * 3) (by rfl) [.int .i64 nd.i, .int .i64 nd.f, .slice an nd.n cn] _ ?_ Try.underlying65 (by rfl) Try.infoNd ?_; exact R1.out)
            refine Calls.mono KC.out ?_
            rintro e w3 ⟨a6, a11, a12, c6, c11, c12, F6, F11, F12, rfl, SO3, b3⟩
            obtain ⟨G, HG⟩ : ∃ v, Hid (v = w3.heap.size) := ⟨_, rfl⟩
            obtain ⟨w4, HW4⟩ : ∃ v, Hid (v = w3.alloc (.cells (slC T (.slice a6 T.p.m c6) (.slice a11 T.ze.length c11) (.slice a12 T.zr.length c12)) 79)) := ⟨_, rfl⟩
            have b4 : Below w3.heap.size w3 w4 := by rw [HW4.out]; exact (Below.refl _ _).alloc (Nat.le_refl _) _
            have RG : Hid (Row w4 G 79 (slC T (.slice a6 T.p.m c6) (.slice a11 T.ze.length c11) (.slice a12 T.zr.length c12))) := by show Row _ _ _ _; rw [HW4.out, HG.out]; exact Row.new w3 _ _
            have B4 : Hid (Below wr.heap.size wr w4) := below2 b3 b4
            have HSO : Hid (Ow w4 wr.heap.size (txD T.p.m T.p.S) (.slice a6 T.p.m c6) (fun y => F6 y ∧ wr.heap.size ≤ y ∧ y < w3.heap.size)) := SO3.t.cut.below b4
            have RA4 : Row w4 A 36 #[.int .i64 f, .slice (some ⟨b1, f1, none⟩) n c, .slice l zl d, v3] := HRA.out.below B4.out HRA.out.lt
            have y7 := RG.out.cell 7
            simp at y7
            have z2 := RA4.cell 2
            simp at z2
            clear b3 b4 KC R1 SO3 RA4 x1

            rw [HTO.out] at y7
            have KHl : Hid _ := KL.out w4 (below2 HBw.out B4.out)
            rw [hly] at KHl
            have y1 := RG.out.cell 1
            have y2 := RG.out.cell 2
            have y3 := RG.out.cell 3
            have y4 := RG.out.cell 4
            have y5 := RG.out.cell 5
            have y6 := RG.out.cell 6
            simp at y1 y2 y3 y4 y5 y6
            obtain ⟨w5, HW5⟩ : ∃ v, Hid (v = w4.alloc (.cells #[.string T.p.r, .int .i64 T.p.k, .int .i64 T.p.n, .int .i64 T.p.i, .string T.p.b, .slice a6 T.p.m c6] 77)) := ⟨_, rfl⟩
            have b5 : Below w4.heap.size w4 w5 := by rw [HW5.out]; exact (Below.refl _ _).alloc (Nat.le_refl _) _
            have HNE : Hid (∀ j u, ([.string T.p.r, .int .i64 T.p.k, .int .i64 T.p.n, .int .i64 T.p.i, .string T.p.b, .slice a6 T.p.m c6] : List Value)[j]? = some u → w5.cell? ((⟨w4.heap.size, 0, none⟩ : Addr).add j) = some u) := by rw [HW5.out]; exact World.news_of_block (cs := #[.string T.p.r, .int .i64 T.p.k, .int .i64 T.p.n, .int .i64 T.p.i, .string T.p.b, .slice a6 T.p.m c6]) (t := 77) (fr := (0, 0)) (heap_alloc_new w4 _)
            have B5 : Hid (Below wr.heap.size wr w5) := below2 B4.out b5
            have HO5 : Hid (Ow w5 w.heap.size (pcsD len (hsP N root (kl (lyP zs) k))) (.slice (some ⟨gg, 0, none⟩) len cc) (fun x => rng w.heap.size wr.heap.size x ∧ x ≠ A)) := HOp.out.below B5.out
            have HP5 : Hid (∀ q, q < 6 → Ow w5 w.heap.size (pcD T.p q) (([.string T.p.r, .int .i64 T.p.k, .int .i64 T.p.n, .int .i64 T.p.i, .string T.p.b, .slice a6 T.p.m c6] : List Value).getD q undef) (fun y => q = 5 ∧ (F6 y ∧ wr.heap.size ≤ y ∧ y < w3.heap.size))) := fun q hq => ow_piece ((HSO.out.below b5).base HBw.out.size) q hq
            have HSB : Hid (w.heap.size ≤ w5.heap.size) := (below2 HBw.out B5.out).size
            clear b5
            go_upto_region 6 with fail
            rw [← HW4.out, ← HG.out]
            go_wp2_with fail
            refine Calls.mono KHl.out ?_
            rintro e w' ⟨rfl, hw⟩
            obtain rfl := hw.symm
            clear hw
            go_wp2_with (at_builtin; rw [← HW5.out]; refine (show True → _ from ?_) trivial)
            intro _
            refine wpList_snoc w5 (by rfl) _ _ 51 (by rfl) w.heap.size 77 i0 (.agg #[.string ByteArray.empty, .int .i64 0, .int .i64 0, .int .i64 0, .string ByteArray.empty, .slice none 0 0]) 6 80 Try.underlying51 hi hz0 hz1 hz2 rfl (by decide) (.slice (some ⟨gg, 0, none⟩) len cc) len _ _ (by rfl) HO5.out ⟨w4.heap.size, 0, none⟩ 1 [.string T.p.r, .int .i64 T.p.k, .int .i64 T.p.n, .int .i64 T.p.i, .string T.p.b, .slice a6 T.p.m c6] (by rfl) rfl HNE.out (by simp [Value.oneCell']) (pcD T.p) _ HP5.out ?_ ?_ (by unfold maxLen; omega) (by omega) HSB.out ?_
            · intro q y hq hy hf
              have := hy.2.2.1
              have := hf.1.2
              omega
            · intro q q' y _ _ hy hy'
              exact hy.1.trans hy'.1.symm
            intro g3 cap3 w6 O6 b6 hs6
            have HS2 : Hid _ := HGr.out w5 w6 g3 cap3 _ B5.out (by rw [HTO.out]; rfl) hly O6 b6 hs6 (fun q y hq hy => hy.2.2.1)
            clear O6 b6 hs6
            go_wp2
            go_roundw
            case rel => exact ⟨k + 1, g3, len + 1, cap3, by omega, by omega, HS2, rfl, by go_num⟩
            case measure => simp [intOf]; omega

    · obtain rfl : k = n := by omega
      have HF : Hid ((hsL N root (kl (lyP zs) k)).length = len ∧ Ow wr w.heap.size (pcsD len (hsP N root (kl (lyP zs) k))) (.slice (some ⟨gg, 0, none⟩) len cc) (fun x => rng w.heap.size wr.heap.size x ∧ x ≠ A) ∧ Below w.heap.size w wr) := ⟨HD.out.ln, HD.out.op, HD.out.bw⟩
      clear HD
      go_wp2
      go_ret
      refine ⟨gg, cc, (fun x => rng w.heap.size wr.heap.size x ∧ x ≠ A), ?_, ?_, HF.out.2.2⟩
      · rw [HF.out.1]; rfl
      · rw [HF.out.1]; exact HF.out.2.1
end Go.Proofs.Ytggmcgcmpgofcaa
/- What the count of a net tells of the pieces that are got of it. Lemmas. -/
namespace Go.Proofs.Ytggmcgcmpgofcaa
set_option maxRecDepth 2000
open Go.ChangeShapes Go.WideShapes Go.ChangeAt Go.RowKit

theorem tot_list (f : Nat → Nat) (l : List Nat) : ∀ c, c ≤ l.length → tot (fun i => f (l.getD i 0)) c = ((l.take c).map f).sum := by
  intro c
  induction c with
  | zero => intro _; simp [tot]
  | succ c ih =>
    intro hc
    show tot (fun i => f (l.getD i 0)) c + f (l.getD c 0) = _
    rw [ih (by omega), take_one (by omega), List.map_append, List.sum_append]
    simp
theorem sum_filter (f : Nat → Nat) (p : Nat → Bool) (l : List Nat) : ((l.filter p).map f).sum ≤ (l.map f).sum := by
  induction l with
  | nil => simp
  | cons a r ih =>
    by_cases h : p a = true
    · rw [List.filter_cons_of_pos h]; simp; omega
    · rw [List.filter_cons_of_neg h]; simp; omega
theorem sum_range (f : Nat → Nat) (n : Nat) : ((List.range n).map f).sum = tot f n := by
  induction n with
  | zero => rfl
  | succ n ih =>
    rw [List.range_succ, List.map_append, List.sum_append, ih]
    show tot f n + _ = tot f n + f n
    simp
theorem so_wt (S : Nat → Sl) (root : ByteArray) (n : Nat) : wtP (soS S root n).p ≤ wtL n S := by
  unfold soS
  cases e : plc S root n with
  | none => simp [slZ, wtP, tot]
  | some x =>
    obtain ⟨_, h2, _, _⟩ := plF_some e
    have h3 : wtS (S x) ≤ tot (fun i => wtS (S i)) n := tot_ge2 (g := fun i => wtS (S i)) (by omega)
    have h4 : wtP (S x).p ≤ wtS (S x) := by unfold wtS; omega
    unfold wtL
    show wtP (S x).p ≤ _
    omega
theorem tot_mono2 {g h : Nat → Nat} (hg : ∀ i, g i ≤ h i) (n : Nat) : tot g n ≤ tot h n := by
  induction n with
  | zero => exact Nat.le_refl _
  | succ n ih =>
    show tot g n + g n ≤ tot h n + h n
    have := hg n
    omega
theorem ofs_w (k : Nat) (P : Nat → Pc) (n : Nat) : ofs k P n ≤ k + 5 * n + tot (fun i => wtP (P i)) n := by
  induction n with
  | zero => simp [ofs, tot]
  | succ n ih =>
    show ofs k P n + 5 + (P n).m ≤ k + 5 * (n + 1) + (tot (fun i => wtP (P i)) n + wtP (P n))
    have : (P n).m ≤ wtP (P n) := by unfold wtP; omega
    omega
theorem pcs_little {n : Nat} {N : Nat → Nd} {zs : List Int} {m : Nat} {Y : Nat → Sy} (root : ByteArray) (h : wtT n N zs m Y ≤ 1048576) : (hsL N root (kl (lyP zs) n)).length ≤ 1048576 ∧ (∀ i, i < (hsL N root (kl (lyP zs) n)).length → (hsP N root (kl (lyP zs) n) i).m ≤ 1048576) ∧ ofs 1 (hsP N root (kl (lyP zs) n)) (hsL N root (kl (lyP zs) n)).length ≤ 20000000 := by
  unfold wtT wtNs at h
  have h1 : (hsL N root (kl (lyP zs) n)).length ≤ n := Nat.le_trans (hsL_le _ _ _) (kl_le _ _)
  have h2 : tot (fun i => wtP (hsP N root (kl (lyP zs) n) i)) (hsL N root (kl (lyP zs) n)).length ≤ tot (fun i => wtN (N i)) n := by
    have e := tot_list (fun x => wtP (soS (N x).S root (N x).n).p) (hsL N root (kl (lyP zs) n)) _ (Nat.le_refl _)
    rw [List.take_length] at e
    have e1 : tot (fun i => wtP (hsP N root (kl (lyP zs) n) i)) (hsL N root (kl (lyP zs) n)).length = ((hsL N root (kl (lyP zs) n)).map (fun x => wtP (soS (N x).S root (N x).n).p)).sum := e
    rw [e1]
    refine Nat.le_trans (sum_filter _ _ _) (Nat.le_trans (sum_filter _ _ _) ?_)
    rw [sum_range]
    exact tot_mono2 (fun i => so_wt _ _ _) n
  refine ⟨by omega, fun i hi => ?_, ?_⟩
  · have h3 : wtP (hsP N root (kl (lyP zs) n) i) ≤ tot (fun i => wtP (hsP N root (kl (lyP zs) n) i)) (hsL N root (kl (lyP zs) n)).length := tot_ge2 (g := fun i => wtP (hsP N root (kl (lyP zs) n) i)) hi
    have h4 : (hsP N root (kl (lyP zs) n) i).m ≤ wtP (hsP N root (kl (lyP zs) n) i) := by unfold wtP; omega
    omega
  · have := ofs_w 1 (hsP N root (kl (lyP zs) n)) (hsL N root (kl (lyP zs) n)).length
    omega
end Go.Proofs.Ytggmcgcmpgofcaa
