import Derived.Test.YtmhcdkbgjjibeaaGreatDoorG28
import Derived.Test.YtmhcdkbgjjibeaaGreatDoorG19
import Derived.Test.YtmhcdkbgjjibeaaGreatDoorG24
import Derived.Test.YtmhcdkbgjjibeaaGreatDoorG22
import Derived.Test.YtmhcdkbgjjibeaaGreatDoorG21
import Derived.Deep.CutRange
set_option maxHeartbeats 8000000
set_option maxRecDepth 2000
open Go.ChangeShapes Go.WideShapes Go.ChangeAt Go.RowKit
namespace Go.Proofs.YtmhcdkbgjjibeaaGreatDoor
theorem sNetPieces_any (f : Int) (a : Option Addr) (n c : Nat) (l : Option Addr) (d : Nat) (zs : List Int) (v3 : Value) (N : Nat → Nd) (root : ByteArray) (w : World) (h : Rd w (ndsD n N) (.slice a n c)) (hl : IntsAt w l zs.length zs) (hn : n ≤ 1048576) (hz : zs.length ≤ 1048576) (hQ : ∀ i, i < n → NdQ (N i)) :
  Calls Tryz.prog 18 #[ntV f (.slice a n c) (.slice l zs.length d) v3, .string root] w fun e w' => ∃ gg cc F, e = .returned (.slice (some ⟨gg, 0, none⟩) (hsL N root (kl (lyP zs) n)).length cc) ∧ Ow w' w.heap.size (pcsD (hsL N root (kl (lyP zs) n)).length (hsP N root (kl (lyP zs) n))) (.slice (some ⟨gg, 0, none⟩) (hsL N root (kl (lyP zs) n)).length cc) F ∧ Below w.heap.size w w' := by
 obtain ⟨i0, hi, hz0, hz1, hz2⟩ := info_parts Tryz.infoPcZ
 obtain ⟨zl, HZL⟩ : ∃ x, Hid (zs.length = x) := ⟨_, rfl⟩
 have KL : Hid (∀ (k : Nat) W, Below w.heap.size w W → Calls Tryz.prog 38 #[.slice l zl d, .int .i64 (k : Int)] W fun e w' => e = .returned (.bool (lyP zs k)) ∧ w' = W) := fun k W hW => by rw [← HZL.out]; exact sHas_any l d zs k W (hl.below hW) hz
 rw [HZL.out]
 obtain ⟨A, HA⟩ : ∃ x, Hid (x = w.heap.size) := ⟨_, rfl⟩
 obtain ⟨g0, HG0⟩ : ∃ x, Hid (x = w.heap.size + 1) := ⟨_, rfl⟩
 obtain ⟨w0, HW0⟩ : ∃ x, Hid (x = (w.alloc (.cells #[.int .i64 f, .slice a n c, .slice l zl d, v3] 35)).alloc (.cells #[] 49)) := ⟨_, rfl⟩
 have RA : Row w0 A 35 #[.int .i64 f, .slice a n c, .slice l zl d, v3] := by rw [HW0.out, HA.out]; exact Row.alloc (Row.new w _ _) _
 have b0 : Below w.heap.size w w0 := by rw [HW0.out]; exact ((Below.refl _ _).alloc (Nat.le_refl _) _).alloc (by simp) _
 have hs0 : w0.heap.size = w.heap.size + 2 := by rw [HW0.out]; simp
 have HK : Hid (∀ aa W W', W'.heap[A]? = W.heap[A]? → Row W A 35 #[.int .i64 f, .slice aa n c, .slice l zl d, v3] → Row W' A 35 #[.int .i64 f, .slice aa n c, .slice l zl d, v3]) := fun _ W W' e h => e.trans h
 have H1 : Hid (PcI w A (fun W => Row W A 35 #[.int .i64 f, .slice a n c, .slice l zl d, v3]) N root (kl (lyP zs) 0) (.slice (some ⟨g0, 0, none⟩) 0 0) 0 w0) := by
  have e : (w.alloc (.cells #[.int .i64 f, .slice a n c, .slice l zl d, v3] 35)).heap.size = g0 := by rw [HG0.out]; simp
  have h1 := ow_pnil (w.alloc (.cells #[.int .i64 f, .slice a n c, .slice l zl d, v3] 35)) w.heap.size (hsP N root (kl (lyP zs) 0)) (by simp) (F := fun x => rng w.heap.size w0.heap.size x ∧ x ≠ A) (by rw [e]; have := HG0.out; have := HA.out; exact ⟨⟨by omega, by omega⟩, by omega⟩)
  rw [e, ← HW0.out] at h1
  exact ⟨h1, RA, RA.lt, rfl, b0⟩
 have KN : Hid (Rd w (ndsD n N) (.slice a n c)) := h
 have KQ : Hid (∀ i, i < n → NdQ (N i)) := hQ
 clear h hl b0 hQ RA hs0
 go_enter Tryz.func18, Tryz.ntmps18
 go_wp2
 rw [← HW0.out, ← HG0.out, ← HA.out]
 go_loopw [5, 6] (fun v vi wr => ∃ (k gg len cc : Nat), k ≤ n ∧ len ≤ k ∧ Hid (PcI w A (fun W => Row W A 35 #[.int .i64 f, .slice a n c, .slice l zl d, v3]) N root (kl (lyP zs) k) (.slice (some ⟨gg, 0, none⟩) len cc) len wr) ∧ v = .slice (some ⟨gg, 0, none⟩) len cc ∧ vi = .int .i64 (k : Int)) (fun _ vi _ => n - (intOf vi).toNat)
 case atStart => exact ⟨0, g0, 0, 0, Nat.zero_le _, Nat.le_refl _, H1, rfl, rfl⟩
 case round =>
  obtain ⟨k, gg, len, cc, hk, hlk, HD, rfl, rfl⟩ := hrel
  clear H1
  have x1 := HD.out.rs.cell 1
  simp at x1
  by_cases hlt : k < n
  ·have hki : (k : Int) < (n : Int) := by omega
   obtain ⟨b1, f1, an, cn, e1, _, R0, hrd⟩ := node_at KN.out hlt
   subst e1
   have hq := KQ.out k hlt
   obtain ⟨nd, HND⟩ : ∃ v, Hid (N k = v) := ⟨_, rfl⟩
   rw [HND.out] at R0 hrd hq
   obtain ⟨T, HT⟩ : ∃ v, Hid (soS nd.S root nd.n = v) := ⟨_, rfl⟩
   obtain ⟨okv, HOK⟩ : ∃ v, Hid (soB nd.S root nd.n = v) := ⟨_, rfl⟩
   have R1 : Hid (wr.rangeAt b1 (f1 + k * 3) [.int .i64 nd.i, .int .i64 nd.f, .slice an nd.n cn]) := fun j v hv => (HD.out.bw.cell (block_lt_of_cell (R0 j v hv))).trans (R0 j v hv)
   have KC : Hid (Calls Tryz.prog 37 #[ndV nd.i nd.f (.slice an nd.n cn), .string root] wr fun e w' => ∃ (a6 a11 a12 : Option Addr) (c6 c11 c12 : Nat) (F6 F11 F12 : Nat → Prop), e = .returned (.tuple #[slV T (.slice a6 T.p.m c6) (.slice a11 T.ze.length c11) (.slice a12 T.zr.length c12), .bool okv]) ∧ SlO w' wr.heap.size T (.slice a6 T.p.m c6) (.slice a11 T.ze.length c11) (.slice a12 T.zr.length c12) F6 F11 F12 ∧ Below wr.heap.size wr w') := by
    have := sSlotOf_any nd.i nd.f an nd.n cn nd.S root wr (hrd.below HD.out.bw) hq.n hq.s
    rw [HT.out, HOK.out] at this
    exact this
   have HSk : Hid (∀ W, Below wr.heap.size wr W → ((okv && T.h) = false ∨ lyP zs k = true) → PcI w A (fun W => Row W A 35 #[.int .i64 f, .slice (some ⟨b1, f1, none⟩) n c, .slice l zl d, v3]) N root (kl (lyP zs) (k + 1)) (.slice (some ⟨gg, 0, none⟩) len cc) len W) := fun W hb hf => by
    have h1 := HD.out.below (HK.out _) hb
    rw [kl_succ]
    by_cases hy : lyP zs k = true
    ·rw [if_pos hy]; exact h1
    ·rw [if_neg hy]
     refine h1.skip ?_
     unfold hsB
     rw [HND.out, HT.out, HOK.out]
     exact hf.resolve_right hy
   have HGr : Hid (∀ W5 W6 g3 cap (H : Nat → Nat → Prop), Below wr.heap.size wr W5 → (okv && T.h) = true → lyP zs k = false → Ow W6 w.heap.size (.lst 49 6 (len + 1) (fun i => if i = len then pcD T.p else pcD (hsP N root (kl (lyP zs) k) i))) (.slice (some ⟨g3, 0, none⟩) (len + 1) cap) (fun y => y < W6.heap.size ∧ (((rng w.heap.size wr.heap.size y ∧ y ≠ A) ∨ ∃ q, q < 6 ∧ H q y) ∨ W5.heap.size ≤ y)) → Below w.heap.size W5 W6 → (∀ y, y < W5.heap.size → ¬ (rng w.heap.size wr.heap.size y ∧ y ≠ A) → W6.heap[y]? = W5.heap[y]?) → (∀ q y, q < 6 → H q y → wr.heap.size ≤ y) → PcI w A (fun W => Row W A 35 #[.int .i64 f, .slice (some ⟨b1, f1, none⟩) n c, .slice l zl d, v3]) N root (kl (lyP zs) (k + 1)) (.slice (some ⟨g3, 0, none⟩) (len + 1) cap) (len + 1) W6) := fun W5 W6 g3 cap H h1 h2 hy h3 h4 h5 h6 => by
    rw [kl_succ, if_neg (by rw [hy]; decide)]
    refine PcI.grow HD.out (HK.out _) h1 ?_ ?_ h3 h4 h5 h6
    ·unfold hsB
     rw [HND.out, HT.out, HOK.out]
     exact h2
    ·rw [HND.out, HT.out]
   have HOp : Hid (Ow wr w.heap.size (pcsD len (hsP N root (kl (lyP zs) k))) (.slice (some ⟨gg, 0, none⟩) len cc) (fun x => rng w.heap.size wr.heap.size x ∧ x ≠ A)) := HD.out.op
   have HBw : Hid (Below w.heap.size w wr) := HD.out.bw
   have HRA : Hid (Row wr A 35 #[.int .i64 f, .slice (some ⟨b1, f1, none⟩) n c, .slice l zl d, v3]) := HD.out.rs
   replace KL : Hid (∀ W, Below w.heap.size w W → Calls Tryz.prog 38 #[.slice l zl d, .int .i64 (k : Int)] W fun e w' => e = .returned (.bool (lyP zs k)) ∧ w' = W) := fun W hW => KL.out k W hW
   clear hrd hq R0 HND HT HOK HD
   cases hok : okv with
   | false =>
    rw [hok] at KC HSk
    clear hok HGr HOp
    go_wp2_with (refine wpList_load_mid (by rfl) 81 _ (by rfl) b1 (f1 + k * 3) (by rfl) [.int .i64 nd.i, .int .i64 nd.f, .slice an nd.n cn] _ ?_ Tryz.underlying81 (by rfl) Tryz.infoNd ?_; exact R1.out)
    refine Calls.mono KC.out ?_
    rintro e w3 ⟨a6, a11, a12, c6, c11, c12, F6, F11, F12, rfl, SO3, b3⟩
    obtain ⟨G, HG⟩ : ∃ v, Hid (v = w3.heap.size) := ⟨_, rfl⟩
    obtain ⟨w4, HW4⟩ : ∃ v, Hid (v = w3.alloc (.cells (slC T (.slice a6 T.p.m c6) (.slice a11 T.ze.length c11) (.slice a12 T.zr.length c12)) 76)) := ⟨_, rfl⟩
    have b4 : Below w3.heap.size w3 w4 := by rw [HW4.out]; exact (Below.refl _ _).alloc (Nat.le_refl _) _
    have RG : Hid (Row w4 G 76 (slC T (.slice a6 T.p.m c6) (.slice a11 T.ze.length c11) (.slice a12 T.zr.length c12))) := by show Row _ _ _ _; rw [HW4.out, HG.out]; exact Row.new w3 _ _
    have B4 : Hid (Below wr.heap.size wr w4) := below2 b3 b4
    have HSO : Hid (Ow w4 wr.heap.size (txD T.p.m T.p.S) (.slice a6 T.p.m c6) (fun y => F6 y ∧ wr.heap.size ≤ y ∧ y < w3.heap.size)) := SO3.t.cut.below b4
    have RA4 : Row w4 A 35 #[.int .i64 f, .slice (some ⟨b1, f1, none⟩) n c, .slice l zl d, v3] := HRA.out.below B4.out HRA.out.lt
    have y7 := RG.out.cell 7
    simp at y7
    have z2 := RA4.cell 2
    simp at z2
    clear b3 b4 KC R1 SO3 RA4 x1
    have HS2 : Hid _ := HSk.out w4 B4.out (.inl rfl)
    go_wp2
    rw [← HW4.out]
    go_roundw
    case rel => exact ⟨k + 1, gg, len, cc, by omega, by omega, HS2, rfl, by go_num⟩
    case measure => simp [intOf]; omega
   | true =>
    rw [hok] at KC HSk HGr
    clear hok
    cases hto : T.h with
    | false =>
     have HTO : Hid (T.h = false) := hto
     clear hto HGr HOp
     go_wp2_with (refine wpList_load_mid (by rfl) 81 _ (by rfl) b1 (f1 + k * 3) (by rfl) [.int .i64 nd.i, .int .i64 nd.f, .slice an nd.n cn] _ ?_ Tryz.underlying81 (by rfl) Tryz.infoNd ?_; exact R1.out)
     refine Calls.mono KC.out ?_
     rintro e w3 ⟨a6, a11, a12, c6, c11, c12, F6, F11, F12, rfl, SO3, b3⟩
     obtain ⟨G, HG⟩ : ∃ v, Hid (v = w3.heap.size) := ⟨_, rfl⟩
     obtain ⟨w4, HW4⟩ : ∃ v, Hid (v = w3.alloc (.cells (slC T (.slice a6 T.p.m c6) (.slice a11 T.ze.length c11) (.slice a12 T.zr.length c12)) 76)) := ⟨_, rfl⟩
     have b4 : Below w3.heap.size w3 w4 := by rw [HW4.out]; exact (Below.refl _ _).alloc (Nat.le_refl _) _
     have RG : Hid (Row w4 G 76 (slC T (.slice a6 T.p.m c6) (.slice a11 T.ze.length c11) (.slice a12 T.zr.length c12))) := by show Row _ _ _ _; rw [HW4.out, HG.out]; exact Row.new w3 _ _
     have B4 : Hid (Below wr.heap.size wr w4) := below2 b3 b4
     have HSO : Hid (Ow w4 wr.heap.size (txD T.p.m T.p.S) (.slice a6 T.p.m c6) (fun y => F6 y ∧ wr.heap.size ≤ y ∧ y < w3.heap.size)) := SO3.t.cut.below b4
     have RA4 : Row w4 A 35 #[.int .i64 f, .slice (some ⟨b1, f1, none⟩) n c, .slice l zl d, v3] := HRA.out.below B4.out HRA.out.lt
     have y7 := RG.out.cell 7
     simp at y7
     have z2 := RA4.cell 2
     simp at z2
     clear b3 b4 KC R1 SO3 RA4 x1
     have HS2 : Hid _ := HSk.out w4 B4.out (.inl (by rw [HTO.out]; rfl))
     rw [HTO.out] at y7
     go_upto_region 6 with fail
     rw [← HW4.out, ← HG.out]
     go_wp2
     go_roundw
     case rel => exact ⟨k + 1, gg, len, cc, by omega, by omega, HS2, rfl, by go_num⟩
     case measure => simp [intOf]; omega
    | true =>
     have HTO : Hid (T.h = true) := hto
     clear hto
     cases hly : lyP zs k with
     | true =>
      clear HGr HOp
      go_wp2_with (refine wpList_load_mid (by rfl) 81 _ (by rfl) b1 (f1 + k * 3) (by rfl) [.int .i64 nd.i, .int .i64 nd.f, .slice an nd.n cn] _ ?_ Tryz.underlying81 (by rfl) Tryz.infoNd ?_; exact R1.out)
      refine Calls.mono KC.out ?_
      rintro e w3 ⟨a6, a11, a12, c6, c11, c12, F6, F11, F12, rfl, SO3, b3⟩
      obtain ⟨G, HG⟩ : ∃ v, Hid (v = w3.heap.size) := ⟨_, rfl⟩
      obtain ⟨w4, HW4⟩ : ∃ v, Hid (v = w3.alloc (.cells (slC T (.slice a6 T.p.m c6) (.slice a11 T.ze.length c11) (.slice a12 T.zr.length c12)) 76)) := ⟨_, rfl⟩
      have b4 : Below w3.heap.size w3 w4 := by rw [HW4.out]; exact (Below.refl _ _).alloc (Nat.le_refl _) _
      have RG : Hid (Row w4 G 76 (slC T (.slice a6 T.p.m c6) (.slice a11 T.ze.length c11) (.slice a12 T.zr.length c12))) := by show Row _ _ _ _; rw [HW4.out, HG.out]; exact Row.new w3 _ _
      have B4 : Hid (Below wr.heap.size wr w4) := below2 b3 b4
      have HSO : Hid (Ow w4 wr.heap.size (txD T.p.m T.p.S) (.slice a6 T.p.m c6) (fun y => F6 y ∧ wr.heap.size ≤ y ∧ y < w3.heap.size)) := SO3.t.cut.below b4
      have RA4 : Row w4 A 35 #[.int .i64 f, .slice (some ⟨b1, f1, none⟩) n c, .slice l zl d, v3] := HRA.out.below B4.out HRA.out.lt
      have y7 := RG.out.cell 7
      simp at y7
      have z2 := RA4.cell 2
      simp at z2
      clear b3 b4 KC R1 SO3 RA4 x1
      have HS2 : Hid _ := HSk.out w4 B4.out (.inr hly)
      rw [HTO.out] at y7
      have KHl : Hid _ := KL.out w4 (below2 HBw.out B4.out)
      rw [hly] at KHl
      go_upto_region 6 with fail
      rw [← HW4.out, ← HG.out]
      go_wp2_with fail
      refine Calls.mono KHl.out ?_
      rintro e w' ⟨rfl, hw⟩
      obtain rfl := hw.symm
      clear hw
      go_wp2
      go_roundw
      case rel => exact ⟨k + 1, gg, len, cc, by omega, by omega, HS2, rfl, by go_num⟩
      case measure => simp [intOf]; omega
     | false =>
      clear HSk
      go_wp2_with (refine wpList_load_mid (by rfl) 81 _ (by rfl) b1 (f1 + k * 3) (by rfl) [.int .i64 nd.i, .int .i64 nd.f, .slice an nd.n cn] _ ?_ Tryz.underlying81 (by rfl) Tryz.infoNd ?_; exact R1.out)
      refine Calls.mono KC.out ?_
      rintro e w3 ⟨a6, a11, a12, c6, c11, c12, F6, F11, F12, rfl, SO3, b3⟩
      obtain ⟨G, HG⟩ : ∃ v, Hid (v = w3.heap.size) := ⟨_, rfl⟩
      obtain ⟨w4, HW4⟩ : ∃ v, Hid (v = w3.alloc (.cells (slC T (.slice a6 T.p.m c6) (.slice a11 T.ze.length c11) (.slice a12 T.zr.length c12)) 76)) := ⟨_, rfl⟩
      have b4 : Below w3.heap.size w3 w4 := by rw [HW4.out]; exact (Below.refl _ _).alloc (Nat.le_refl _) _
      have RG : Hid (Row w4 G 76 (slC T (.slice a6 T.p.m c6) (.slice a11 T.ze.length c11) (.slice a12 T.zr.length c12))) := by show Row _ _ _ _; rw [HW4.out, HG.out]; exact Row.new w3 _ _
      have B4 : Hid (Below wr.heap.size wr w4) := below2 b3 b4
      have HSO : Hid (Ow w4 wr.heap.size (txD T.p.m T.p.S) (.slice a6 T.p.m c6) (fun y => F6 y ∧ wr.heap.size ≤ y ∧ y < w3.heap.size)) := SO3.t.cut.below b4
      have RA4 : Row w4 A 35 #[.int .i64 f, .slice (some ⟨b1, f1, none⟩) n c, .slice l zl d, v3] := HRA.out.below B4.out HRA.out.lt
      have y7 := RG.out.cell 7
      simp at y7
      have z2 := RA4.cell 2
      simp at z2
      clear b3 b4 KC R1 SO3 RA4 x1
      rw [HTO.out] at y7
      have KHl : Hid _ := KL.out w4 (below2 HBw.out B4.out)
      rw [hly] at KHl
      have y1 := RG.out.cell 1
      have y2 := RG.out.cell 2
      have y3 := RG.out.cell 3
      have y4 := RG.out.cell 4
      have y5 := RG.out.cell 5
      have y6 := RG.out.cell 6
      simp at y1 y2 y3 y4 y5 y6
      obtain ⟨w5, HW5⟩ : ∃ v, Hid (v = w4.alloc (.cells #[.string T.p.r, .int .i64 T.p.k, .int .i64 T.p.n, .int .i64 T.p.i, .string T.p.b, .slice a6 T.p.m c6] 49)) := ⟨_, rfl⟩
      have b5 : Below w4.heap.size w4 w5 := by rw [HW5.out]; exact (Below.refl _ _).alloc (Nat.le_refl _) _
      have HNE : Hid (∀ j u, ([.string T.p.r, .int .i64 T.p.k, .int .i64 T.p.n, .int .i64 T.p.i, .string T.p.b, .slice a6 T.p.m c6] : List Value)[j]? = some u → w5.cell? ((⟨w4.heap.size, 0, none⟩ : Addr).add j) = some u) := by rw [HW5.out]; exact World.news_of_block (cs := #[.string T.p.r, .int .i64 T.p.k, .int .i64 T.p.n, .int .i64 T.p.i, .string T.p.b, .slice a6 T.p.m c6]) (t := 49) (fr := (0, 0)) (heap_alloc_new w4 _)
      have B5 : Hid (Below wr.heap.size wr w5) := below2 B4.out b5
      have HO5 : Hid (Ow w5 w.heap.size (pcsD len (hsP N root (kl (lyP zs) k))) (.slice (some ⟨gg, 0, none⟩) len cc) (fun x => rng w.heap.size wr.heap.size x ∧ x ≠ A)) := HOp.out.below B5.out
      have HP5 : Hid (∀ q, q < 6 → Ow w5 w.heap.size (pcD T.p q) (([.string T.p.r, .int .i64 T.p.k, .int .i64 T.p.n, .int .i64 T.p.i, .string T.p.b, .slice a6 T.p.m c6] : List Value).getD q undef) (fun y => q = 5 ∧ (F6 y ∧ wr.heap.size ≤ y ∧ y < w3.heap.size))) := fun q hq => ow_piece ((HSO.out.below b5).base HBw.out.size) q hq
      have HSB : Hid (w.heap.size ≤ w5.heap.size) := (below2 HBw.out B5.out).size
      clear b5
      go_upto_region 6 with fail
      rw [← HW4.out, ← HG.out]
      go_wp2_with fail
      refine Calls.mono KHl.out ?_
      rintro e w' ⟨rfl, hw⟩
      obtain rfl := hw.symm
      clear hw
      go_wp2_with (at_builtin; rw [← HW5.out]; refine (show True → _ from ?_) trivial)
      intro _
      refine wpList_snoc w5 (by rfl) _ _ 37 (by rfl) w.heap.size 49 i0 (.agg #[.string ByteArray.empty, .int .i64 0, .int .i64 0, .int .i64 0, .string ByteArray.empty, .slice none 0 0]) 6 80 Tryz.underlying37 hi hz0 hz1 hz2 rfl (by decide) (.slice (some ⟨gg, 0, none⟩) len cc) len _ _ (by rfl) HO5.out ⟨w4.heap.size, 0, none⟩ 1 [.string T.p.r, .int .i64 T.p.k, .int .i64 T.p.n, .int .i64 T.p.i, .string T.p.b, .slice a6 T.p.m c6] (by rfl) rfl HNE.out (by simp [Value.oneCell']) (pcD T.p) _ HP5.out ?_ ?_ (by unfold maxLen; omega) (by omega) HSB.out ?_
      ·intro q y hq hy hf
       have := hy.2.2.1
       have := hf.1.2
       omega
      ·intro q q' y _ _ hy hy'
       exact hy.1.trans hy'.1.symm
      intro g3 cap3 w6 O6 b6 hs6
      have HS2 : Hid _ := HGr.out w5 w6 g3 cap3 _ B5.out (by rw [HTO.out]; rfl) hly O6 b6 hs6 (fun q y hq hy => hy.2.2.1)
      clear O6 b6 hs6
      go_wp2
      go_roundw
      case rel => exact ⟨k + 1, g3, len + 1, cap3, by omega, by omega, HS2, rfl, by go_num⟩
      case measure => simp [intOf]; omega
  ·obtain rfl : k = n := by omega
   have HF : Hid ((hsL N root (kl (lyP zs) k)).length = len ∧ Ow wr w.heap.size (pcsD len (hsP N root (kl (lyP zs) k))) (.slice (some ⟨gg, 0, none⟩) len cc) (fun x => rng w.heap.size wr.heap.size x ∧ x ≠ A) ∧ Below w.heap.size w wr) := ⟨HD.out.ln, HD.out.op, HD.out.bw⟩
   clear HD
   go_wp2
   go_ret
   refine ⟨gg, cc, (fun x => rng w.heap.size wr.heap.size x ∧ x ≠ A), ?_, ?_, HF.out.2.2⟩
   ·rw [HF.out.1]; rfl
   ·rw [HF.out.1]; exact HF.out.2.1
theorem tot_list (f : Nat → Nat) (l : List Nat) : ∀ c, c ≤ l.length → tot (fun i => f (l.getD i 0)) c = ((l.take c).map f).sum := by
 intro c
 induction c with
 | zero => intro _; simp [tot]
 | succ c ih =>
  intro hc
  show tot (fun i => f (l.getD i 0)) c + f (l.getD c 0) = _
  rw [ih (by omega), take_one (by omega), List.map_append, List.sum_append]
  simp
theorem sum_filter (f : Nat → Nat) (p : Nat → Bool) (l : List Nat) : ((l.filter p).map f).sum ≤ (l.map f).sum := by
 induction l with
 | nil => simp
 | cons a r ih =>
  by_cases h : p a = true
  ·rw [List.filter_cons_of_pos h]; simp; omega
  ·rw [List.filter_cons_of_neg h]; simp; omega
theorem sum_range (f : Nat → Nat) (n : Nat) : ((List.range n).map f).sum = tot f n := by
 induction n with
 | zero => rfl
 | succ n ih =>
  rw [List.range_succ, List.map_append, List.sum_append, ih]
  show tot f n + _ = tot f n + f n
  simp
theorem so_wt (S : Nat → Sl) (root : ByteArray) (n : Nat) : wtP (soS S root n).p ≤ wtL n S := by
 unfold soS
 cases e : plc S root n with
 | none => simp [slZ, wtP, tot]
 | some x =>
  obtain ⟨_, h2, _, _⟩ := plF_some e
  have h3 : wtS (S x) ≤ tot (fun i => wtS (S i)) n := tot_ge2 (g := fun i => wtS (S i)) (by omega)
  have h4 : wtP (S x).p ≤ wtS (S x) := by unfold wtS; omega
  unfold wtL
  show wtP (S x).p ≤ _
  omega
theorem tot_mono2 {g h : Nat → Nat} (hg : ∀ i, g i ≤ h i) (n : Nat) : tot g n ≤ tot h n := by
 induction n with
 | zero => exact Nat.le_refl _
 | succ n ih =>
  show tot g n + g n ≤ tot h n + h n
  have := hg n
  omega
theorem ofs_w (k : Nat) (P : Nat → Pc) (n : Nat) : ofs k P n ≤ k + 5 * n + tot (fun i => wtP (P i)) n := by
 induction n with
 | zero => simp [ofs, tot]
 | succ n ih =>
  show ofs k P n + 5 + (P n).m ≤ k + 5 * (n + 1) + (tot (fun i => wtP (P i)) n + wtP (P n))
  have : (P n).m ≤ wtP (P n) := by unfold wtP; omega
  omega
theorem pcs_little {n : Nat} {N : Nat → Nd} {zs : List Int} {m : Nat} {Y : Nat → Sy} (root : ByteArray) (h : wtT n N zs m Y ≤ 1048576) : (hsL N root (kl (lyP zs) n)).length ≤ 1048576 ∧ (∀ i, i < (hsL N root (kl (lyP zs) n)).length → (hsP N root (kl (lyP zs) n) i).m ≤ 1048576) ∧ ofs 1 (hsP N root (kl (lyP zs) n)) (hsL N root (kl (lyP zs) n)).length ≤ 20000000 := by
 unfold wtT wtNs at h
 have h1 : (hsL N root (kl (lyP zs) n)).length ≤ n := Nat.le_trans (hsL_le _ _ _) (kl_le _ _)
 have h2 : tot (fun i => wtP (hsP N root (kl (lyP zs) n) i)) (hsL N root (kl (lyP zs) n)).length ≤ tot (fun i => wtN (N i)) n := by
  have e := tot_list (fun x => wtP (soS (N x).S root (N x).n).p) (hsL N root (kl (lyP zs) n)) _ (Nat.le_refl _)
  rw [List.take_length] at e
  have e1 : tot (fun i => wtP (hsP N root (kl (lyP zs) n) i)) (hsL N root (kl (lyP zs) n)).length = ((hsL N root (kl (lyP zs) n)).map (fun x => wtP (soS (N x).S root (N x).n).p)).sum := e
  rw [e1]
  refine Nat.le_trans (sum_filter _ _ _) (Nat.le_trans (sum_filter _ _ _) ?_)
  rw [sum_range]
  exact tot_mono2 (fun i => so_wt _ _ _) n
 refine ⟨by omega, fun i hi => ?_, ?_⟩
 ·have h3 : wtP (hsP N root (kl (lyP zs) n) i) ≤ tot (fun i => wtP (hsP N root (kl (lyP zs) n) i)) (hsL N root (kl (lyP zs) n)).length := tot_ge2 (g := fun i => wtP (hsP N root (kl (lyP zs) n) i)) hi
  have h4 : (hsP N root (kl (lyP zs) n) i).m ≤ wtP (hsP N root (kl (lyP zs) n) i) := by unfold wtP; omega
  omega
 ·have := ofs_w 1 (hsP N root (kl (lyP zs) n)) (hsL N root (kl (lyP zs) n)).length
  omega
def gcN (f : Int) : Int := wrap64 (wrap64 (3 * f) + 1)
def gcK (f : Int) : Int := wrap64 (f + 1)
def gtX (f : Int) (P : Nat → Pc) (i : Nat) : Bool := !(decide ((P i).k = gcK f) && decide ((P i).n = gcN f))
def jnP (l : List Nat) (P : Nat → Pc) (len : Nat) (Q : Nat → Pc) (i : Nat) : Pc := if i < len then P (l.getD i 0) else Q (i - len)
theorem kl_mem {p : Nat → Bool} {n i : Nat} (h : i < (kl p n).length) : (kl p n).getD i 0 < n := by
 rw [List.getD_eq_getElem?_getD, List.getElem?_eq_getElem h]
 exact List.mem_range.1 (List.mem_filter.1 (List.getElem_mem h)).1
def gtC (A : Nat → Option Addr) (C : Nat → Nat) (P : Nat → Pc) (l : List Nat) (i : Nat) : Nat → Value := cel (P (l.getD i 0)) (.slice (A (l.getD i 0)) (P (l.getD i 0)).m (C (l.getD i 0)))
structure GtI (w : World) (B : Nat) (A : Nat → Option Addr) (C : Nat → Nat) (P : Nat → Pc) (l : List Nat) (gg len cc : Nat) (wr : World) : Prop where
 op : OwnC wr B (some ⟨gg, 0, none⟩) len cc (gtC A C P l)
 ln : l.length = len
 hb : w.heap.size ≤ B
 bw : Below w.heap.size w wr
theorem GtI.below {w wr w' : World} {B : Nat} {A : Nat → Option Addr} {C : Nat → Nat} {P : Nat → Pc} {l : List Nat} {gg len cc : Nat} (h : GtI w B A C P l gg len cc wr) (hb : Below wr.heap.size wr w') : GtI w B A C P l gg len cc w' := ⟨h.op.below hb, h.ln, h.hb, below2 h.bw hb⟩
theorem gL_app (c d : Nat → Nat → Value) (n m : Nat) : gL c n ++ gL d m = gL (fun i => if i < n then c i else d (i - n)) (n + m) := by
 apply List.ext_getElem?
 intro j
 by_cases hj : j < (n + m) * 6
 ·have h2 := gL_get (fun i => if i < n then c i else d (i - n)) (n + m) (j / 6) (j % 6) (by omega) (by omega)
  rw [show j / 6 * 6 + j % 6 = j by omega] at h2
  rw [h2]
  by_cases hn : j < n * 6
  ·have h1 := gL_get c n (j / 6) (j % 6) (by omega) (by omega)
   rw [show j / 6 * 6 + j % 6 = j by omega] at h1
   rw [List.getElem?_append_left (by rw [gL_len]; exact hn), h1, if_pos (by omega)]
  ·have h1 := gL_get d m (j / 6 - n) (j % 6) (by omega) (by omega)
   rw [show (j / 6 - n) * 6 + j % 6 = j - n * 6 by omega] at h1
   rw [List.getElem?_append_right (by rw [gL_len]; omega), gL_len, h1, if_neg (by omega)]
 ·rw [List.getElem?_eq_none (by rw [List.length_append, gL_len, gL_len]; omega), List.getElem?_eq_none (by rw [gL_len]; omega)]
theorem GtI.grow {w wr w5 w6 : World} {B : Nat} {A : Nat → Option Addr} {C : Nat → Nat} {P : Nat → Pc} {l : List Nat} {gg len cc g3 cap x : Nat} (h : GtI w B A C P l gg len cc wr) (b5 : Below wr.heap.size wr w5)
  (h6 : w6.ownsRow B 49 6 (.slice (some ⟨g3, 0, none⟩) (len + 1) cap) (len + 1) (gL (gtC A C P l) len ++ [.string (P x).r, .int .i64 (P x).k, .int .i64 (P x).n, .int .i64 (P x).i, .string (P x).b, .slice (A x) (P x).m (C x)])) (hg : w5.grownBy w6 (some gg)) : GtI w B A C P (l ++ [x]) g3 (len + 1) cap w6 := by
 have h5 := h.below b5
 have lg := World.ownsRow.lt h5.op gg rfl
 refine ⟨?_, by rw [List.length_append, h.ln]; rfl, h.hb, h5.bw.grown hg h5.bw.size (fun j hj => by cases hj; exact Nat.le_trans h.hb lg.1)⟩
 show World.ownsRow _ _ _ _ _ _ _
 have e : gL (gtC A C P (l ++ [x])) (len + 1) = gL (gtC A C P l) len ++ [.string (P x).r, .int .i64 (P x).k, .int .i64 (P x).n, .int .i64 (P x).i, .string (P x).b, .slice (A x) (P x).m (C x)] := by
  have e1 : (l ++ [x]).getD len 0 = x := by rw [← h.ln]; simp
  rw [gL_snoc, gL_congr (c' := gtC A C P l) (fun i q hi _ => by
   have e2 : (l ++ [x]).getD i 0 = l.getD i 0 := by rw [List.getD_eq_getElem?_getD, List.getD_eq_getElem?_getD, List.getElem?_append_left (by have := h.ln; omega)]
   unfold gtC
   rw [e2])]
  unfold gtC
  rw [e1]
  rfl
 rw [e]
 exact h6
theorem gL_mem {c : Nat → Nat → Value} {n : Nat} {u : Value} (h : u ∈ gL c n) : ∃ i q, i < n ∧ q < 6 ∧ u = c i q := by
 unfold gL at h
 obtain ⟨j, hj, e⟩ := List.mem_map.1 h
 have := List.mem_range.1 hj
 exact ⟨j / 6, j % 6, by omega, by omega, e.symm⟩
theorem cel_one {p : Pc} {a : Option Addr} {m c q : Nat} (h : q < 6) : (cel p (.slice a m c) q).oneCell' = true := by
 match q, h with
 | 0, _ | 1, _ | 2, _ | 3, _ | 4, _ | 5, _ => rfl
theorem piA_news {w : World} {g n : Nat} {A : Nat → Option Addr} {C : Nat → Nat} {P : Nat → Pc} (h : PiA w (some ⟨g, 0, none⟩) n A C P) (j : Nat) (u : Value) (e : (gL (fun i => cel (P i) (.slice (A i) (P i).m (C i))) n)[j]? = some u) : w.cell? ((⟨g, 0, none⟩ : Addr).add j) = some u := by
 by_cases hj : j < n * 6
 ·obtain ⟨⟨b, off, ea, hc⟩, _⟩ := h (j / 6) (by omega)
  cases ea
  have h1 := gL_get (fun i => cel (P i) (.slice (A i) (P i).m (C i))) n (j / 6) (j % 6) (by omega) (by omega)
  rw [show j / 6 * 6 + j % 6 = j by omega] at h1
  rw [h1] at e
  have h2 := hc (j % 6) (by omega)
  rw [show 0 + (j / 6 * 6 + j % 6) = j by omega] at h2
  injection e with e
  rw [← e]
  have ea : (⟨g, 0, none⟩ : Addr).add j = ⟨g, j, none⟩ := by unfold Addr.add; split <;> simp_all
  rw [ea]
  exact h2
 ·rw [List.getElem?_eq_none (by rw [gL_len]; omega)] at e
  cases e
theorem GtI.join {w wr w1 w2 : World} {B : Nat} {a : Option Addr} {n : Nat} {A A2 : Nat → Option Addr} {C C2 : Nat → Nat} {P Q : Nat → Pc} {l : List Nat} {gg len cc g2 ln c2 g3 cap : Nat} {F : Nat → Prop} (h : GtI w B A C P l gg len cc wr) (hP : PiA w a n A C P) (hl : ∀ i, i < len → l.getD i 0 < n) (b1 : Below wr.heap.size wr w1)
  (hO : Ow w1 wr.heap.size (pcsD ln Q) (.slice (some ⟨g2, 0, none⟩) ln c2) F) (hA : PiA w1 (some ⟨g2, 0, none⟩) ln A2 C2 Q)
  (h2 : w2.ownsRow B 49 6 (.slice (some ⟨g3, 0, none⟩) (len + ln) cap) (len + ln) (gL (gtC A C P l) len ++ gL (fun i => cel (Q i) (.slice (A2 i) (Q i).m (C2 i))) ln)) (hg : w1.grownBy w2 (some gg)) :
  (∃ A3 C3, PiA w2 (some ⟨g3, 0, none⟩) (len + ln) A3 C3 (jnP l P len Q)) ∧ Below w.heap.size w w2 := by
 have h1 := h.below b1
 have lg := World.ownsRow.lt h.op gg rfl
 have b2 : Below w.heap.size w w2 := h1.bw.grown hg h1.bw.size (fun j hj => by cases hj; exact Nat.le_trans h.hb lg.1)
 have hO2 : Ow w2 wr.heap.size (pcsD ln Q) (.slice (some ⟨g2, 0, none⟩) ln c2) (fun x => F x ∧ wr.heap.size ≤ x ∧ x < w1.heap.size) := hO.cut.frame (fun x hx hlt => hg.block x hlt (fun e => by cases e; have := hx.2.1; omega))
 have hQ2 := rd_pcs hO2.rd
 rw [gL_app] at h2
 refine ⟨⟨fun i => if i < len then A (l.getD i 0) else A2 (i - len), fun i => if i < len then C (l.getD i 0) else C2 (i - len), fun i hi => ⟨⟨g3, 0, rfl, fun q hq => ?_⟩, ?_⟩⟩, b2⟩
 ·rw [Nat.zero_add]
  have := OwnC.cell (c := fun i => if i < len then gtC A C P l i else cel (Q (i - len)) (.slice (A2 (i - len)) (Q (i - len)).m (C2 (i - len)))) h2 hi hq
  rw [this]
  by_cases e : i < len
  ·simp only [e, if_true, jnP, gtC]
  ·simp only [e, if_false, jnP]
 ·by_cases e : i < len
  ·simp only [e, if_true, jnP]
   exact (hP _ (hl i e)).2.below b2
  ·simp only [e, if_false, jnP]
   obtain ⟨⟨b, off, eb, hc⟩, _⟩ := hA (i - len) (by omega)
   cases eb
   obtain ⟨b', off', ap, cp, eb', hc', ht'⟩ := hQ2 (i - len) (by omega)
   cases eb'
   have k1 := hc 5 (by omega)
   have k2 := hc' 5 (by omega)
   have hg2 : w2.cell? ⟨g2, 0 + ((i - len) * 6 + 5), none⟩ = w1.cell? ⟨g2, 0 + ((i - len) * 6 + 5), none⟩ := by
    have hb : w2.heap[g2]? = w1.heap[g2]? := by
     obtain ⟨a0, cp0, cc0, G0, ev, hown, _, _⟩ := hO
     cases ev
     have := World.ownsRow.lt hown g2 rfl
     exact hg.block g2 this.2 (fun e => by cases e; omega)
    exact World.cell?_of_block (a := ⟨g2, 0 + ((i - len) * 6 + 5), none⟩) hb
   rw [hg2, k1] at k2
   simp only [cel] at k2
   injection k2 with k2
   injection k2 with k3 _ _
   rw [k3]
   exact ht'
def GtA (f : Int) (n : Nat) (N : Nat → Nd) (zs : List Int) (root : ByteArray) (nl : Nat) (P : Nat → Pc) (e : Ending) : Prop :=
 (40 < nl ∧ e = .returned (.tuple #[.string ⟨#[]⟩, .int .i64 1])) ∨ (nl ≤ 40 ∧ RgA root ((kl (gtX f P) nl).length + (hsL N root (kl (lyP zs) n)).length) (jnP (kl (gtX f P) nl) P (kl (gtX f P) nl).length (hsP N root (kl (lyP zs) n))) e)
theorem gtA_one {f : Int} {n : Nat} {N : Nat → Nd} {zs : List Int} {root : ByteArray} {nl : Nat} {P : Nat → Pc} {e e' : Ending} (h : GtA f n N zs root nl P e) (h' : GtA f n N zs root nl P e') : e = e' := by
 rcases h with ⟨h1, h2⟩ | ⟨h1, h2⟩ <;> rcases h' with ⟨k1, k2⟩ | ⟨k1, k2⟩
 ·rw [h2, k2]
 ·omega
 ·omega
 ·exact rgA_one h2 k2
theorem gtA_is {f : Int} {n : Nat} {N : Nat → Nd} {zs : List Int} {root : ByteArray} {nl : Nat} {P : Nat → Pc} {e : Ending} (h : GtA f n N zs root nl P e) : ∃ (s : ByteArray) (c : Int), e = .returned (.tuple #[.string s, .int .i64 c]) := by
 rcases h with ⟨_, h2⟩ | ⟨_, h2⟩
 ·exact ⟨_, _, h2⟩
 ·exact rgA_is h2
structure GtK (c : Nat) (Q : Nat → Pc) : Prop where
 n : c ≤ 1048576
 m : ∀ i, i < c → (Q i).m ≤ 1048576
 s : ∀ i, i < c → ∀ j, j < (Q i).m → ((Q i).S j).size ≤ maxLen
theorem nodeCountW_any (f : Int) (w : World) : Calls Tryz.prog 24 #[.int .i64 f] w fun e w' => e = .returned (.int .i64 (gcN f)) ∧ w' = w := by
 go_enter Tryz.func24, Tryz.ntmps24
 go_wp2
 go_ret
 exact ⟨rfl, rfl⟩
theorem pieceNeedW_any (f : Int) (w : World) : Calls Tryz.prog 23 #[.int .i64 f] w fun e w' => e = .returned (.int .i64 (gcK f)) ∧ w' = w := by
 go_enter Tryz.func23, Tryz.ntmps23
 go_wp2
 go_ret
 exact ⟨rfl, rfl⟩
theorem gtX_no {f : Int} {P : Nat → Pc} {t : Nat} (h : ¬ ((P t).k = gcK f ∧ (P t).n = gcN f)) : gtX f P t = true := by
 unfold gtX
 by_cases h1 : (P t).k = gcK f <;> by_cases h2 : (P t).n = gcN f <;> simp_all
theorem gtX_yes {f : Int} {P : Nat → Pc} {t : Nat} (h1 : (P t).k = gcK f) (h2 : (P t).n = gcN f) : gtX f P t = false := by
 unfold gtX
 simp [h1, h2]
theorem own_nilP (w : World) (B : Nat) (c : Nat → Nat → Value) (hB : B ≤ w.heap.size) : OwnC (w.alloc (.cells #[] 49)) B (some ⟨w.heap.size, 0, none⟩) 0 0 c := by
 have hown := World.ownsRow_lit (e := 49) (size := 6) (base := B) w #[] 0 hB (by unfold maxLen; omega) rfl
 unfold OwnC
 simpa [gL] using hown
theorem piA_range {w : World} {b off : Nat} {A : Nat → Option Addr} {C : Nat → Nat} {P : Nat → Pc} {t : Nat} (hc : ∀ q, q < 6 → w.cell? ⟨b, off + (t * 6 + q), none⟩ = some (cel (P t) (.slice (A t) (P t).m (C t)) q)) : w.rangeAt b (off + t * 6) [.string (P t).r, .int .i64 (P t).k, .int .i64 (P t).n, .int .i64 (P t).i, .string (P t).b, .slice (A t) (P t).m (C t)] := by
 intro j v hv
 match j with
 | 0 => cases hv; have := hc 0 (by omega); rw [← Nat.add_assoc] at this; exact this
 | 1 => cases hv; have := hc 1 (by omega); rw [← Nat.add_assoc] at this; exact this
 | 2 => cases hv; have := hc 2 (by omega); rw [← Nat.add_assoc] at this; exact this
 | 3 => cases hv; have := hc 3 (by omega); rw [← Nat.add_assoc] at this; exact this
 | 4 => cases hv; have := hc 4 (by omega); rw [← Nat.add_assoc] at this; exact this
 | 5 => cases hv; have := hc 5 (by omega); rw [← Nat.add_assoc] at this; exact this
 | j + 6 => simp at hv
theorem netGet_any (f : Int) (a : Option Addr) (n c : Nat) (l : Option Addr) (d : Nat) (zs : List Int) (v3 : Value) (N : Nat → Nd) (root : ByteArray) (aL : Option Addr) (nl cl : Nat) (A : Nat → Option Addr) (C : Nat → Nat) (P : Nat → Pc) (w : World) (h : Rd w (ndsD n N) (.slice a n c)) (hl : IntsAt w l zs.length zs) (hn : n ≤ 1048576) (hz : zs.length ≤ 1048576) (hQ : ∀ i, i < n → NdQ (N i)) (hP : PiA w aL nl A C P) (hE : ErrT w) (hso : ∀ (P : Nat → Pc) A C, SortOk P A C)
  (hK : nl ≤ 40 → GtK ((kl (gtX f P) nl).length + (hsL N root (kl (lyP zs) n)).length) (jnP (kl (gtX f P) nl) P (kl (gtX f P) nl).length (hsP N root (kl (lyP zs) n)))) :
  Calls Tryz.prog 9 #[ntV f (.slice a n c) (.slice l zs.length d) v3, .string root, .slice aL nl cl] w fun e w' => Below w.heap.size w w' ∧ GtA f n N zs root nl P e := by
 by_cases h40 : nl ≤ 40
 case neg =>
  have h40' : (nl : Int) > 40 := by omega
  have HB : Hid (Below w.heap.size w (w.alloc (.cells #[.int .i64 f, .slice a n c, .slice l zs.length d, v3] 35))) := (Below.refl _ _).alloc (Nat.le_refl _) _
  clear h hl hn hz hQ hP hE hK
  go_enter Tryz.func9, Tryz.ntmps9
  go_wp2
  go_ret2
  exact ⟨HB.out, .inl ⟨by omega, rfl⟩⟩
 have h40' : ¬ ((nl : Int) > 40) := by omega
 replace hK := hK h40
 obtain ⟨i0, hi, hz0, hz1, hz2⟩ := info_parts Tryz.infoPcZ
 obtain ⟨X, HX⟩ : ∃ x, Hid (x = w.heap.size) := ⟨_, rfl⟩
 obtain ⟨g0, HG0⟩ : ∃ x, Hid (x = w.heap.size + 1) := ⟨_, rfl⟩
 obtain ⟨w0, HW0⟩ : ∃ x, Hid (x = (w.alloc (.cells #[.int .i64 f, .slice a n c, .slice l zs.length d, v3] 35)).alloc (.cells #[] 49)) := ⟨_, rfl⟩
 have RX0 : Row w0 X 35 #[.int .i64 f, .slice a n c, .slice l zs.length d, v3] := by rw [HW0.out, HX.out]; exact Row.alloc (Row.new w _ _) _
 have b0 : Below w.heap.size w w0 := by rw [HW0.out]; exact ((Below.refl _ _).alloc (Nat.le_refl _) _).alloc (by simp) _
 have HGX : Hid (g0 = X + 1) := by show g0 = X + 1; rw [HG0.out, HX.out]
 have H1 : Hid (GtI w g0 A C P (kl (gtX f P) 0) g0 0 0 w0 ∧ Row w0 X 35 #[.int .i64 f, .slice a n c, .slice l zs.length d, v3]) := by
  have e : (w.alloc (.cells #[.int .i64 f, .slice a n c, .slice l zs.length d, v3] 35)).heap.size = g0 := by rw [HG0.out]; simp
  have h1 := own_nilP (w.alloc (.cells #[.int .i64 f, .slice a n c, .slice l zs.length d, v3] 35)) g0 (gtC A C P (kl (gtX f P) 0)) (by rw [e]; exact Nat.le_refl _)
  rw [e, ← HW0.out] at h1
  exact ⟨⟨h1, rfl, by rw [HG0.out]; omega, b0⟩, RX0⟩
 have KNP : Hid (∀ W, Below w.heap.size w W → Calls Tryz.prog 26 #[ntV f (.slice a n c) (.slice l zs.length d) v3, .string root] W fun e w' => ∃ gg cc F, e = .returned (.slice (some ⟨gg, 0, none⟩) (hsL N root (kl (lyP zs) n)).length cc) ∧ Ow w' W.heap.size (pcsD (hsL N root (kl (lyP zs) n)).length (hsP N root (kl (lyP zs) n))) (.slice (some ⟨gg, 0, none⟩) (hsL N root (kl (lyP zs) n)).length cc) F ∧ Below W.heap.size W w') := fun W hW => netPieces_any f a n c l d zs v3 N root W (h.below hW) (hl.below hW) hn hz hQ
 have KP : Hid (PiA w aL nl A C P) := hP
 have KE : Hid (ErrT w) := hE
 have KK : Hid (GtK ((kl (gtX f P) nl).length + (hsL N root (kl (lyP zs) n)).length) (jnP (kl (gtX f P) nl) P (kl (gtX f P) nl).length (hsP N root (kl (lyP zs) n)))) := hK
 have KCN : Hid (∀ W, Calls Tryz.prog 24 #[.int .i64 f] W fun e w' => e = .returned (.int .i64 (gcN f)) ∧ w' = W) := fun W => nodeCountW_any f W
 have KCK : Hid (∀ W, Calls Tryz.prog 23 #[.int .i64 f] W fun e w' => e = .returned (.int .i64 (gcK f)) ∧ w' = W) := fun W => pieceNeedW_any f W
 obtain ⟨zl, HZL⟩ : ∃ x, Hid (zs.length = x) := ⟨_, rfl⟩
 rw [HZL.out] at H1 KNP HW0
 rw [HZL.out]
 clear h hl hn hz hQ hP hE hK RX0 b0
 go_enter Tryz.func9, Tryz.ntmps9
 go_wp2
 rw [← HW0.out, ← HG0.out, ← HX.out]
 go_loopw [8, 17] (fun v vi wr => ∃ (t gg len cc : Nat), t ≤ nl ∧ len ≤ t ∧ Hid (GtI w g0 A C P (kl (gtX f P) t) gg len cc wr ∧ Row wr X 35 #[.int .i64 f, .slice a n c, .slice l zl d, v3]) ∧ v = .slice (some ⟨gg, 0, none⟩) len cc ∧ vi = .int .i64 (t : Int)) (fun _ vi _ => nl - (intOf vi).toNat)
 case atStart => exact ⟨0, g0, 0, 0, Nat.zero_le _, Nat.le_refl _, H1, rfl, rfl⟩
 case round =>
  obtain ⟨t, gg, len, cc, ht, hlt', HD, rfl, rfl⟩ := hrel
  clear H1
  by_cases hlt : t < nl
  ·have hti : (t : Int) < (nl : Int) := by omega
   clear KNP KK KE
   obtain ⟨⟨b1, off1, e1, hc0⟩, _⟩ := KP.out t hlt
   subst e1
   have R0 := piA_range (A := A) (C := C) (P := P) (t := t) hc0
   have R1 : Hid (wr.rangeAt b1 (off1 + t * 6) [.string (P t).r, .int .i64 (P t).k, .int .i64 (P t).n, .int .i64 (P t).i, .string (P t).b, .slice (A t) (P t).m (C t)]) := fun j v hv => (HD.out.1.bw.cell (block_lt_of_cell (R0 j v hv))).trans (R0 j v hv)
   have HGr : Hid (∀ W5 W6 g3 cap, Below wr.heap.size wr W5 → gtX f P t = false → W6.ownsRow g0 49 6 (.slice (some ⟨g3, 0, none⟩) (len + 1) cap) (len + 1) (gL (gtC A C P (kl (gtX f P) t)) len ++ [.string (P t).r, .int .i64 (P t).k, .int .i64 (P t).n, .int .i64 (P t).i, .string (P t).b, .slice (A t) (P t).m (C t)]) → W5.grownBy W6 (some gg) → GtI w g0 A C P (kl (gtX f P) (t + 1)) g3 (len + 1) cap W6 ∧ Row W6 X 35 #[.int .i64 f, .slice a n c, .slice l zl d, v3]) := fun W5 W6 g3 cap k1 k2 k3 k4 => by
    rw [kl_succ, if_neg (by rw [k2]; decide)]
    refine ⟨HD.out.1.grow k1 k3 k4, ?_⟩
    have rx := HD.out.2.below k1 HD.out.2.lt
    have lg := (World.ownsRow.lt HD.out.1.op gg rfl).1
    exact (k4.block X rx.lt (fun e => by cases e; have := HGX.out; omega)).trans rx
   have HSk : Hid (∀ W, Below wr.heap.size wr W → gtX f P t = true → GtI w g0 A C P (kl (gtX f P) (t + 1)) gg len cc W ∧ Row W X 35 #[.int .i64 f, .slice a n c, .slice l zl d, v3]) := fun W hb hf => by
    rw [kl_succ, if_pos hf]
    exact ⟨HD.out.1.below hb, HD.out.2.below hb HD.out.2.lt⟩
   have HOW : Hid (∀ W, Below wr.heap.size wr W → OwnC W g0 (some ⟨gg, 0, none⟩) len cc (gtC A C P (kl (gtX f P) t)) ∧ Row W X 35 #[.int .i64 f, .slice a n c, .slice l zl d, v3] ∧ g0 ≤ W.heap.size) := fun W hb => ⟨HD.out.1.op.below hb, HD.out.2.below hb HD.out.2.lt, by have := (HD.out.2.below hb HD.out.2.lt).lt; have := HGX.out; omega⟩
   obtain ⟨V, HV⟩ : ∃ v, Hid (v = wr.heap.size) := ⟨_, rfl⟩
   obtain ⟨p0, HP0⟩ : ∃ v, Hid (P t = v) := ⟨_, rfl⟩
   obtain ⟨ap, HAP⟩ : ∃ v, Hid (A t = v) := ⟨_, rfl⟩
   obtain ⟨cp, HCP⟩ : ∃ v, Hid (C t = v) := ⟨_, rfl⟩
   have HGY : Hid (p0.k = gcK f → p0.n = gcN f → gtX f P t = false) := fun k1 k2 => gtX_yes (by rw [HP0.out]; exact k1) (by rw [HP0.out]; exact k2)
   have HGN : Hid (¬ (p0.k = gcK f ∧ p0.n = gcN f) → gtX f P t = true) := fun k1 => gtX_no (by rw [HP0.out]; exact k1)
   rw [HP0.out, HAP.out, HCP.out] at R1 HGr
   obtain ⟨w2, HW2⟩ : ∃ v, Hid (v = wr.alloc (.cells #[.string p0.r, .int .i64 p0.k, .int .i64 p0.n, .int .i64 p0.i, .string p0.b, .slice ap p0.m cp] 49)) := ⟨_, rfl⟩
   have b2 : Below wr.heap.size wr w2 := by rw [HW2.out]; exact (Below.refl _ _).alloc (Nat.le_refl _) _
   have RV : Hid (Row w2 V 49 #[.string p0.r, .int .i64 p0.k, .int .i64 p0.n, .int .i64 p0.i, .string p0.b, .slice ap p0.m cp]) := by show Row _ _ _ _; rw [HW2.out, HV.out]; exact Row.new wr _ _
   have B2 : Hid (Below wr.heap.size wr w2) := b2
   obtain ⟨_, RX2, _⟩ := HOW.out w2 b2
   have y1 := RV.out.cell 1
   have y2 := RV.out.cell 2
   have x0 := RX2.cell 0
   simp at y1 y2 x0
   clear b2 RX2 R0 hc0 HD HP0 HAP HCP
   obtain ⟨ck, HCK⟩ : ∃ v, Hid (gcK f = v) := ⟨_, rfl⟩
   obtain ⟨cn, HCN⟩ : ∃ v, Hid (gcN f = v) := ⟨_, rfl⟩
   rw [HCK.out] at HGY HGN KCK
   rw [HCN.out] at HGY HGN KCN
   by_cases c1 : p0.k = ck
   case neg =>
    have c1' : (p0.k == ck) = false := by simp [c1]
    have HS2 : Hid _ := HSk.out (w2.drewN 0) (below_drewN B2.out 0) (HGN.out (fun k => c1 k.1))
    have HSN : Hid (∀ m, GtI w g0 A C P (kl (gtX f P) (t + 1)) gg len cc (w2.drewN m) ∧ Row (w2.drewN m) X 35 #[.int .i64 f, .slice a n c, .slice l zl d, v3]) := fun m => HSk.out (w2.drewN m) (below_drewN B2.out m) (HGN.out (fun k => c1 k.1))
    clear HS2 HSk HGr HOW HGY HGN
    go_wp2_with (refine wpList_load_mid (by rfl) 49 _ (by rfl) b1 (off1 + t * 6) (by rfl) [.string p0.r, .int .i64 p0.k, .int .i64 p0.n, .int .i64 p0.i, .string p0.b, .slice ap p0.m cp] _ ?_ Tryz.underlying49 (by rfl) Tryz.infoPc ?_; exact R1.out)
    rw [← HW2.out, ← HV.out]
    go_quiet ((first | (go_at_call 24; exact Calls.quiet_of_same (KCN.out _)) | (go_at_call 23; exact Calls.quiet_of_same (KCK.out _))))
    go_wp2
    go_roundw
    case rel => exact ⟨t + 1, gg, len, cc, by omega, by omega, HSN.out _, rfl, by go_num⟩
    case measure => simp [intOf]; omega
   have c1' : (p0.k == ck) = true := by simp [c1]
   have HC1 : Hid (p0.k = ck) := c1
   clear c1
   by_cases c2 : p0.n = cn
   case neg =>
    have c2' : (p0.n == cn) = false := by simp [c2]
    have HSN : Hid (∀ m, GtI w g0 A C P (kl (gtX f P) (t + 1)) gg len cc (w2.drewN m) ∧ Row (w2.drewN m) X 35 #[.int .i64 f, .slice a n c, .slice l zl d, v3]) := fun m => HSk.out (w2.drewN m) (below_drewN B2.out m) (HGN.out (fun k => c2 k.2))
    clear HSk HGr HOW HGY HGN
    go_wp2_with (refine wpList_load_mid (by rfl) 49 _ (by rfl) b1 (off1 + t * 6) (by rfl) [.string p0.r, .int .i64 p0.k, .int .i64 p0.n, .int .i64 p0.i, .string p0.b, .slice ap p0.m cp] _ ?_ Tryz.underlying49 (by rfl) Tryz.infoPc ?_; exact R1.out)
    rw [← HW2.out, ← HV.out]
    go_quiet ((first | (go_at_call 24; exact Calls.quiet_of_same (KCN.out _)) | (go_at_call 23; exact Calls.quiet_of_same (KCK.out _))))
    go_wp2
    go_roundw
    case rel => exact ⟨t + 1, gg, len, cc, by omega, by omega, HSN.out _, rfl, by go_num⟩
    case measure => simp [intOf]; omega
   have c2' : (p0.n == cn) = true := by simp [c2]
   have HYes : Hid (gtX f P t = false) := HGY.out HC1.out c2
   clear c2 HC1 HSk HGY HGN
   go_wp2_with (refine wpList_load_mid (by rfl) 49 _ (by rfl) b1 (off1 + t * 6) (by rfl) [.string p0.r, .int .i64 p0.k, .int .i64 p0.n, .int .i64 p0.i, .string p0.b, .slice ap p0.m cp] _ ?_ Tryz.underlying49 (by rfl) Tryz.infoPc ?_; exact R1.out)
   rw [← HW2.out, ← HV.out]
   go_quiet ((first | (go_at_call 24; exact Calls.quiet_of_same (KCN.out _)) | (go_at_call 23; exact Calls.quiet_of_same (KCK.out _))))
   obtain ⟨w4, HW4⟩ : ∃ v, Hid (v = w2.drewN nq) := ⟨_, rfl⟩
   have b24 : Below w2.heap.size w2 w4 := by rw [HW4.out]; exact below_drewN (Below.refl _ _) _
   have RV4 : Hid (Row w4 V 49 #[.string p0.r, .int .i64 p0.k, .int .i64 p0.n, .int .i64 p0.i, .string p0.b, .slice ap p0.m cp]) := RV.out.below b24 RV.out.lt
   obtain ⟨w5, HW5⟩ : ∃ v, Hid (v = w4.alloc (.cells #[.string p0.r, .int .i64 p0.k, .int .i64 p0.n, .int .i64 p0.i, .string p0.b, .slice ap p0.m cp] 49)) := ⟨_, rfl⟩
   have b45 : Below w4.heap.size w4 w5 := by rw [HW5.out]; exact (Below.refl _ _).alloc (Nat.le_refl _) _
   have B5 : Hid (Below wr.heap.size wr w5) := below2 B2.out (below2 b24 b45)
   have HNE : Hid (∀ j u, ([.string p0.r, .int .i64 p0.k, .int .i64 p0.n, .int .i64 p0.i, .string p0.b, .slice ap p0.m cp] : List Value)[j]? = some u → w5.cell? ((⟨w4.heap.size, 0, none⟩ : Addr).add j) = some u) := by rw [HW5.out]; exact World.news_of_block (cs := #[.string p0.r, .int .i64 p0.k, .int .i64 p0.n, .int .i64 p0.i, .string p0.b, .slice ap p0.m cp]) (t := 49) (fr := (0, 0)) (heap_alloc_new w4 _)
   have HO5 : Hid (OwnC w5 g0 (some ⟨gg, 0, none⟩) len cc (gtC A C P (kl (gtX f P) t)) ∧ g0 ≤ w5.heap.size) := ⟨(HOW.out _ B5.out).1, (HOW.out _ B5.out).2.2⟩
   rw [← HW4.out]
   clear b24 b45 RV HOW R1 y1 y2 x0
   go_wp2_with (first | (refine wpList_load_row (by rfl) 49 _ (by rfl) V (by rfl) 49 #[.string p0.r, .int .i64 p0.k, .int .i64 p0.n, .int .i64 p0.i, .string p0.b, .slice ap p0.m cp] (0, 0) _ ?_ Tryz.underlying49 (by rfl) Tryz.infoPc ?_; exact RV4.out) | (at_builtin; rw [← HW5.out]; refine (show True → _ from ?_) trivial))
   intro _
   refine wpList_append_all w5 (by rfl) _ _ 37 (by rfl) g0 49 i0 (.agg #[.string ByteArray.empty, .int .i64 0, .int .i64 0, .int .i64 0, .string ByteArray.empty, .slice none 0 0]) 6 80 Tryz.underlying37 hi hz0 hz1 hz2 rfl (by decide) gg len cc _ (by rfl) HO5.out.1 ⟨w4.heap.size, 0, none⟩ 1 1 [.string p0.r, .int .i64 p0.k, .int .i64 p0.n, .int .i64 p0.i, .string p0.b, .slice ap p0.m cp] (by rfl) (by rfl) HNE.out (by simp [Value.oneCell']) (by unfold maxLen; omega) (by omega) HO5.out.2 ?_
   intro g3 cap3 w6 hown6 hgr6
   have HS2 : Hid _ := HGr.out w5 w6 g3 cap3 B5.out HYes.out hown6 hgr6
   clear hown6 hgr6 HGr HO5 HNE
   go_wp2
   go_roundw
   case rel => exact ⟨t + 1, g3, len + 1, cap3, by omega, by omega, HS2, rfl, by go_num⟩
   case measure => simp [intOf]; omega
  ·obtain rfl : t = nl := by omega
   have HLN : (kl (gtX f P) t).length = len := HD.out.1.ln
   have HBW : Hid (Below w.heap.size w wr) := HD.out.1.bw
   have KNQ : Hid _ := KNP.out wr HBW.out
   have RX : Hid (Row wr X 35 #[.int .i64 f, .slice a n c, .slice l zl d, v3]) := HD.out.2
   have HMM : Hid (∀ i, i < len → (kl (gtX f P) t).getD i 0 < t) := fun i hi => kl_mem (by rw [HLN]; exact hi)
   have HI : Hid (GtI w g0 A C P (kl (gtX f P) t) gg len cc wr) := HD.out.1
   have HFin : Hid (∀ e, RgA root (len + (hsL N root (kl (lyP zs) n)).length) (jnP (kl (gtX f P) t) P len (hsP N root (kl (lyP zs) n))) e → GtA f n N zs root t P e) := fun e he => .inr ⟨h40, by rw [HLN]; exact he⟩
   rw [HLN] at KK
   obtain ⟨K, HKL⟩ : ∃ v, Hid (kl (gtX f P) t = v) := ⟨_, rfl⟩
   obtain ⟨ln, HL2⟩ : ∃ v, Hid ((hsL N root (kl (lyP zs) n)).length = v) := ⟨_, rfl⟩
   obtain ⟨Q, HQQ⟩ : ∃ v, Hid (hsP N root (kl (lyP zs) n) = v) := ⟨_, rfl⟩
   rw [HKL.out] at HMM HI HFin KK
   rw [HL2.out, HQQ.out] at HFin KK KNQ
   have hk1 := KK.out.n
   clear HD HLN KNP KCN KCK
   go_wp2_with (refine wpList_load_row (by rfl) 35 _ (by rfl) X (by rfl) 35 #[.int .i64 f, .slice a n c, .slice l zl d, v3] (0, 0) _ ?_ Tryz.underlying35 (by rfl) Tryz.infoNt ?_; exact RX.out)
   refine Calls.mono KNQ.out ?_
   rintro e w1 ⟨g2, c2, F2, rfl, o1, b1⟩
   obtain ⟨A2, C2, hA2⟩ := PiAt.a (rd_pcs o1.rd)
   have HO1 : Hid (Ow w1 wr.heap.size (pcsD ln Q) (.slice (some ⟨g2, 0, none⟩) ln c2) F2) := o1
   have HA2 : Hid (PiA w1 (some ⟨g2, 0, none⟩) ln A2 C2 Q) := hA2
   have HB1 : Hid (Below wr.heap.size wr w1) := b1
   have HOC : Hid (OwnC w1 g0 (some ⟨gg, 0, none⟩) len cc (gtC A C P K) ∧ g0 ≤ w1.heap.size) := ⟨HI.out.op.below b1, by have := RX.out.lt; have := b1.size; have := HGX.out; omega⟩
   clear o1 b1 hA2 KNQ
   go_wp2_with (at_builtin; refine (show True → _ from ?_) trivial)
   intro _
   refine wpList_append_all w1 (by rfl) _ _ 37 (by rfl) g0 49 i0 (.agg #[.string ByteArray.empty, .int .i64 0, .int .i64 0, .int .i64 0, .string ByteArray.empty, .slice none 0 0]) 6 80 Tryz.underlying37 hi hz0 hz1 hz2 rfl (by decide) gg len cc _ (by rfl) HOC.out.1 ⟨g2, 0, none⟩ ln c2 (gL (fun i => cel (Q i) (.slice (A2 i) (Q i).m (C2 i))) ln) (by rfl) (gL_len _ _) (piA_news HA2.out) (fun u hu => by obtain ⟨i, q, _, hq, rfl⟩ := gL_mem hu; exact cel_one hq) (by unfold maxLen; omega) (by omega) HOC.out.2 ?_
   intro g3 cap3 w2 hown2 hgr2
   obtain ⟨⟨A3, C3, hA3⟩, b2⟩ := HI.out.join KP.out HMM.out HB1.out HO1.out HA2.out hown2 hgr2
   have HB2 : Hid (Below w.heap.size w w2) := b2
   have KRG : Hid _ := regain_any root (some ⟨g3, 0, none⟩) (len + ln) cap3 A3 C3 (jnP K P len Q) w2 hA3 (KE.out.below b2) KK.out.n KK.out.m KK.out.s (hso (jnP K P len Q) A3 C3)
   clear hown2 hgr2 hA3 b2 HOC HA2 HO1 HB1
   go_wp2_with fail
   refine Calls.mono KRG.out ?_
   rintro e w9 ⟨b9, h9⟩
   obtain ⟨ts, cs, rfl⟩ := rgA_is h9
   have HF9 : Hid _ := HFin.out _ h9
   have HB9 : Hid (Below w.heap.size w w9) := below2 HB2.out b9
   clear h9 b9 KRG
   go_wp2
   go_ret2
   exact ⟨HB9.out, HF9.out⟩
theorem sAllW_any (f : Int) (w : World) : Calls Tryz.prog 16 #[.int .i64 f] w fun e w' => e = .returned (.int .i64 (gcN f)) ∧ w' = w := by
 go_enter Tryz.func16, Tryz.ntmps16
 go_wp2
 go_ret
 exact ⟨rfl, rfl⟩
theorem sNetGet_any (f : Int) (a : Option Addr) (n c : Nat) (l : Option Addr) (d : Nat) (zs : List Int) (v3 : Value) (N : Nat → Nd) (root : ByteArray) (aL : Option Addr) (nl cl : Nat) (A : Nat → Option Addr) (C : Nat → Nat) (P : Nat → Pc) (w : World) (h : Rd w (ndsD n N) (.slice a n c)) (hl : IntsAt w l zs.length zs) (hn : n ≤ 1048576) (hz : zs.length ≤ 1048576) (hQ : ∀ i, i < n → NdQ (N i)) (hP : PiA w aL nl A C P)
  (hK : nl ≤ 40 → GtK ((kl (gtX f P) nl).length + (hsL N root (kl (lyP zs) n)).length) (jnP (kl (gtX f P) nl) P (kl (gtX f P) nl).length (hsP N root (kl (lyP zs) n)))) :
  Calls Tryz.prog 6 #[ntV f (.slice a n c) (.slice l zs.length d) v3, .string root, .slice aL nl cl] w fun e w' => Below w.heap.size w w' ∧ GtA f n N zs root nl P e := by
 by_cases h40 : nl ≤ 40
 case neg =>
  have h40' : (nl : Int) > 40 := by omega
  have HB : Hid (Below w.heap.size w (w.alloc (.cells #[.int .i64 f, .slice a n c, .slice l zs.length d, v3] 35))) := (Below.refl _ _).alloc (Nat.le_refl _) _
  clear h hl hn hz hQ hP hK
  go_enter Tryz.func6, Tryz.ntmps6
  go_wp2
  go_ret2
  exact ⟨HB.out, .inl ⟨by omega, rfl⟩⟩
 have h40' : ¬ ((nl : Int) > 40) := by omega
 replace hK := hK h40
 obtain ⟨i0, hi, hz0, hz1, hz2⟩ := info_parts Tryz.infoPcZ
 obtain ⟨X, HX⟩ : ∃ x, Hid (x = w.heap.size) := ⟨_, rfl⟩
 obtain ⟨g0, HG0⟩ : ∃ x, Hid (x = w.heap.size + 1) := ⟨_, rfl⟩
 obtain ⟨w0, HW0⟩ : ∃ x, Hid (x = (w.alloc (.cells #[.int .i64 f, .slice a n c, .slice l zs.length d, v3] 35)).alloc (.cells #[] 49)) := ⟨_, rfl⟩
 have RX0 : Row w0 X 35 #[.int .i64 f, .slice a n c, .slice l zs.length d, v3] := by rw [HW0.out, HX.out]; exact Row.alloc (Row.new w _ _) _
 have b0 : Below w.heap.size w w0 := by rw [HW0.out]; exact ((Below.refl _ _).alloc (Nat.le_refl _) _).alloc (by simp) _
 have HGX : Hid (g0 = X + 1) := by show g0 = X + 1; rw [HG0.out, HX.out]
 have H1 : Hid (GtI w g0 A C P (kl (gtX f P) 0) g0 0 0 w0 ∧ Row w0 X 35 #[.int .i64 f, .slice a n c, .slice l zs.length d, v3]) := by
  have e : (w.alloc (.cells #[.int .i64 f, .slice a n c, .slice l zs.length d, v3] 35)).heap.size = g0 := by rw [HG0.out]; simp
  have h1 := own_nilP (w.alloc (.cells #[.int .i64 f, .slice a n c, .slice l zs.length d, v3] 35)) g0 (gtC A C P (kl (gtX f P) 0)) (by rw [e]; exact Nat.le_refl _)
  rw [e, ← HW0.out] at h1
  exact ⟨⟨h1, rfl, by rw [HG0.out]; omega, b0⟩, RX0⟩
 have KNP : Hid (∀ W, Below w.heap.size w W → Calls Tryz.prog 18 #[ntV f (.slice a n c) (.slice l zs.length d) v3, .string root] W fun e w' => ∃ gg cc F, e = .returned (.slice (some ⟨gg, 0, none⟩) (hsL N root (kl (lyP zs) n)).length cc) ∧ Ow w' W.heap.size (pcsD (hsL N root (kl (lyP zs) n)).length (hsP N root (kl (lyP zs) n))) (.slice (some ⟨gg, 0, none⟩) (hsL N root (kl (lyP zs) n)).length cc) F ∧ Below W.heap.size W w') := fun W hW => sNetPieces_any f a n c l d zs v3 N root W (h.below hW) (hl.below hW) hn hz hQ
 have KP : Hid (PiA w aL nl A C P) := hP
 have KK : Hid (GtK ((kl (gtX f P) nl).length + (hsL N root (kl (lyP zs) n)).length) (jnP (kl (gtX f P) nl) P (kl (gtX f P) nl).length (hsP N root (kl (lyP zs) n)))) := hK
 have KCN : Hid (∀ W, Calls Tryz.prog 16 #[.int .i64 f] W fun e w' => e = .returned (.int .i64 (gcN f)) ∧ w' = W) := fun W => sAllW_any f W
 obtain ⟨zl, HZL⟩ : ∃ x, Hid (zs.length = x) := ⟨_, rfl⟩
 rw [HZL.out] at H1 KNP HW0
 rw [HZL.out]
 clear h hl hn hz hQ hP hK RX0 b0
 go_enter Tryz.func6, Tryz.ntmps6
 go_wp2
 rw [← HW0.out, ← HG0.out, ← HX.out]
 go_loopw [8, 9] (fun v vi wr => ∃ (t gg len cc : Nat), t ≤ nl ∧ len ≤ t ∧ Hid (GtI w g0 A C P (kl (gtX f P) t) gg len cc wr ∧ Row wr X 35 #[.int .i64 f, .slice a n c, .slice l zl d, v3]) ∧ v = .slice (some ⟨gg, 0, none⟩) len cc ∧ vi = .int .i64 (t : Int)) (fun _ vi _ => nl - (intOf vi).toNat)
 case atStart => exact ⟨0, g0, 0, 0, Nat.zero_le _, Nat.le_refl _, H1, rfl, rfl⟩
 case round =>
  obtain ⟨t, gg, len, cc, ht, hlt', HD, rfl, rfl⟩ := hrel
  clear H1
  by_cases hlt : t < nl
  ·have hti : (t : Int) < (nl : Int) := by omega
   clear KNP KK
   obtain ⟨⟨b1, off1, e1, hc0⟩, _⟩ := KP.out t hlt
   subst e1
   have R0 := piA_range (A := A) (C := C) (P := P) (t := t) hc0
   have R1 : Hid (wr.rangeAt b1 (off1 + t * 6) [.string (P t).r, .int .i64 (P t).k, .int .i64 (P t).n, .int .i64 (P t).i, .string (P t).b, .slice (A t) (P t).m (C t)]) := fun j v hv => (HD.out.1.bw.cell (block_lt_of_cell (R0 j v hv))).trans (R0 j v hv)
   have HGr : Hid (∀ W5 W6 g3 cap, Below wr.heap.size wr W5 → gtX f P t = false → W6.ownsRow g0 49 6 (.slice (some ⟨g3, 0, none⟩) (len + 1) cap) (len + 1) (gL (gtC A C P (kl (gtX f P) t)) len ++ [.string (P t).r, .int .i64 (P t).k, .int .i64 (P t).n, .int .i64 (P t).i, .string (P t).b, .slice (A t) (P t).m (C t)]) → W5.grownBy W6 (some gg) → GtI w g0 A C P (kl (gtX f P) (t + 1)) g3 (len + 1) cap W6 ∧ Row W6 X 35 #[.int .i64 f, .slice a n c, .slice l zl d, v3]) := fun W5 W6 g3 cap k1 k2 k3 k4 => by
    rw [kl_succ, if_neg (by rw [k2]; decide)]
    refine ⟨HD.out.1.grow k1 k3 k4, ?_⟩
    have rx := HD.out.2.below k1 HD.out.2.lt
    have lg := (World.ownsRow.lt HD.out.1.op gg rfl).1
    exact (k4.block X rx.lt (fun e => by cases e; have := HGX.out; omega)).trans rx
   have HSk : Hid (∀ W, Below wr.heap.size wr W → gtX f P t = true → GtI w g0 A C P (kl (gtX f P) (t + 1)) gg len cc W ∧ Row W X 35 #[.int .i64 f, .slice a n c, .slice l zl d, v3]) := fun W hb hf => by
    rw [kl_succ, if_pos hf]
    exact ⟨HD.out.1.below hb, HD.out.2.below hb HD.out.2.lt⟩
   have HOW : Hid (∀ W, Below wr.heap.size wr W → OwnC W g0 (some ⟨gg, 0, none⟩) len cc (gtC A C P (kl (gtX f P) t)) ∧ Row W X 35 #[.int .i64 f, .slice a n c, .slice l zl d, v3] ∧ g0 ≤ W.heap.size) := fun W hb => ⟨HD.out.1.op.below hb, HD.out.2.below hb HD.out.2.lt, by have := (HD.out.2.below hb HD.out.2.lt).lt; have := HGX.out; omega⟩
   obtain ⟨p0, HP0⟩ : ∃ v, Hid (P t = v) := ⟨_, rfl⟩
   obtain ⟨ap, HAP⟩ : ∃ v, Hid (A t = v) := ⟨_, rfl⟩
   obtain ⟨cp, HCP⟩ : ∃ v, Hid (C t = v) := ⟨_, rfl⟩
   have HGY : Hid (p0.k = gcK f → p0.n = gcN f → gtX f P t = false) := fun k1 k2 => gtX_yes (by rw [HP0.out]; exact k1) (by rw [HP0.out]; exact k2)
   have HGN : Hid (¬ (p0.k = gcK f ∧ p0.n = gcN f) → gtX f P t = true) := fun k1 => gtX_no (by rw [HP0.out]; exact k1)
   rw [HP0.out, HAP.out, HCP.out] at R1 HGr
   have x1 := (R1.out 1 _ rfl)
   have x2 := (R1.out 2 _ rfl)
   obtain ⟨_, RX2, _⟩ := HOW.out wr (Below.refl _ _)
   have x0 := RX2.cell 0
   simp at x0
   clear RX2 R0 hc0 HD HP0 HAP HCP
   obtain ⟨ck, HCK⟩ : ∃ v, Hid (gcK f = v) := ⟨_, rfl⟩
   have eck : wrap64 (f + 1) = ck := HCK.out
   obtain ⟨cn, HCN⟩ : ∃ v, Hid (gcN f = v) := ⟨_, rfl⟩
   rw [HCK.out] at HGY HGN
   rw [HCN.out] at HGY HGN KCN
   by_cases c1 : p0.k = ck
   case neg =>
    have c1' : (p0.k == ck) = false := by simp [c1]
    have HSN : Hid (∀ m, GtI w g0 A C P (kl (gtX f P) (t + 1)) gg len cc (wr.drewN m) ∧ Row (wr.drewN m) X 35 #[.int .i64 f, .slice a n c, .slice l zl d, v3]) := fun m => HSk.out (wr.drewN m) (below_drewN (Below.refl _ _) m) (HGN.out (fun k => c1 k.1))
    clear HSk HGr HOW HGY HGN
    go_wp2_with fail
    go_quiet ((go_at_call 16; exact Calls.quiet_of_same (KCN.out _)))
    go_wp2
    go_roundw
    case rel => exact ⟨t + 1, gg, len, cc, by omega, by omega, HSN.out _, rfl, by go_num⟩
    case measure => simp [intOf]; omega
   have c1' : (p0.k == ck) = true := by simp [c1]
   have HC1 : Hid (p0.k = ck) := c1
   clear c1
   by_cases c2 : p0.n = cn
   case neg =>
    have c2' : (p0.n == cn) = false := by simp [c2]
    have HSN : Hid (∀ m, GtI w g0 A C P (kl (gtX f P) (t + 1)) gg len cc (wr.drewN m) ∧ Row (wr.drewN m) X 35 #[.int .i64 f, .slice a n c, .slice l zl d, v3]) := fun m => HSk.out (wr.drewN m) (below_drewN (Below.refl _ _) m) (HGN.out (fun k => c2 k.2))
    clear HSk HGr HOW HGY HGN
    go_wp2_with fail
    go_quiet ((go_at_call 16; exact Calls.quiet_of_same (KCN.out _)))
    go_wp2
    go_roundw
    case rel => exact ⟨t + 1, gg, len, cc, by omega, by omega, HSN.out _, rfl, by go_num⟩
    case measure => simp [intOf]; omega
   have c2' : (p0.n == cn) = true := by simp [c2]
   have HYes : Hid (gtX f P t = false) := HGY.out HC1.out c2
   clear c2 HC1 HSk HGY HGN
   go_wp2_with fail
   go_quiet ((go_at_call 16; exact Calls.quiet_of_same (KCN.out _)))
   obtain ⟨w4, HW4⟩ : ∃ v, Hid (v = wr.drewN nq) := ⟨_, rfl⟩
   have b24 : Below wr.heap.size wr w4 := by rw [HW4.out]; exact below_drewN (Below.refl _ _) _
   have R4 : Hid (w4.rangeAt b1 (off1 + t * 6) [.string p0.r, .int .i64 p0.k, .int .i64 p0.n, .int .i64 p0.i, .string p0.b, .slice ap p0.m cp]) := fun j v hv => (b24.cell (block_lt_of_cell (R1.out j v hv))).trans (R1.out j v hv)
   obtain ⟨w5, HW5⟩ : ∃ v, Hid (v = w4.alloc (.cells #[.string p0.r, .int .i64 p0.k, .int .i64 p0.n, .int .i64 p0.i, .string p0.b, .slice ap p0.m cp] 49)) := ⟨_, rfl⟩
   have b45 : Below w4.heap.size w4 w5 := by rw [HW5.out]; exact (Below.refl _ _).alloc (Nat.le_refl _) _
   have B5 : Hid (Below wr.heap.size wr w5) := below2 b24 b45
   have HNE : Hid (∀ j u, ([.string p0.r, .int .i64 p0.k, .int .i64 p0.n, .int .i64 p0.i, .string p0.b, .slice ap p0.m cp] : List Value)[j]? = some u → w5.cell? ((⟨w4.heap.size, 0, none⟩ : Addr).add j) = some u) := by rw [HW5.out]; exact World.news_of_block (cs := #[.string p0.r, .int .i64 p0.k, .int .i64 p0.n, .int .i64 p0.i, .string p0.b, .slice ap p0.m cp]) (t := 49) (fr := (0, 0)) (heap_alloc_new w4 _)
   have HO5 : Hid (OwnC w5 g0 (some ⟨gg, 0, none⟩) len cc (gtC A C P (kl (gtX f P) t)) ∧ g0 ≤ w5.heap.size) := ⟨(HOW.out _ B5.out).1, (HOW.out _ B5.out).2.2⟩
   rw [← HW4.out]
   clear b24 b45 HOW R1 x1 x2 x0
   go_wp2_with (first | (refine wpList_load_mid (by rfl) 49 _ (by rfl) b1 (off1 + t * 6) (by rfl) [.string p0.r, .int .i64 p0.k, .int .i64 p0.n, .int .i64 p0.i, .string p0.b, .slice ap p0.m cp] _ ?_ Tryz.underlying49 (by rfl) Tryz.infoPc ?_; exact R4.out) | (at_builtin; rw [← HW5.out]; refine (show True → _ from ?_) trivial))
   intro _
   refine wpList_append_all w5 (by rfl) _ _ 37 (by rfl) g0 49 i0 (.agg #[.string ByteArray.empty, .int .i64 0, .int .i64 0, .int .i64 0, .string ByteArray.empty, .slice none 0 0]) 6 80 Tryz.underlying37 hi hz0 hz1 hz2 rfl (by decide) gg len cc _ (by rfl) HO5.out.1 ⟨w4.heap.size, 0, none⟩ 1 1 [.string p0.r, .int .i64 p0.k, .int .i64 p0.n, .int .i64 p0.i, .string p0.b, .slice ap p0.m cp] (by rfl) (by rfl) HNE.out (by simp [Value.oneCell']) (by unfold maxLen; omega) (by omega) HO5.out.2 ?_
   intro g3 cap3 w6 hown6 hgr6
   have HS2 : Hid _ := HGr.out w5 w6 g3 cap3 B5.out HYes.out hown6 hgr6
   clear hown6 hgr6 HGr HO5 HNE
   go_wp2
   go_roundw
   case rel => exact ⟨t + 1, g3, len + 1, cap3, by omega, by omega, HS2, rfl, by go_num⟩
   case measure => simp [intOf]; omega
  ·obtain rfl : t = nl := by omega
   have HLN : (kl (gtX f P) t).length = len := HD.out.1.ln
   have HBW : Hid (Below w.heap.size w wr) := HD.out.1.bw
   have KNQ : Hid _ := KNP.out wr HBW.out
   have RX : Hid (Row wr X 35 #[.int .i64 f, .slice a n c, .slice l zl d, v3]) := HD.out.2
   have HMM : Hid (∀ i, i < len → (kl (gtX f P) t).getD i 0 < t) := fun i hi => kl_mem (by rw [HLN]; exact hi)
   have HI : Hid (GtI w g0 A C P (kl (gtX f P) t) gg len cc wr) := HD.out.1
   have HFin : Hid (∀ e, RgA root (len + (hsL N root (kl (lyP zs) n)).length) (jnP (kl (gtX f P) t) P len (hsP N root (kl (lyP zs) n))) e → GtA f n N zs root t P e) := fun e he => .inr ⟨h40, by rw [HLN]; exact he⟩
   rw [HLN] at KK
   obtain ⟨K, HKL⟩ : ∃ v, Hid (kl (gtX f P) t = v) := ⟨_, rfl⟩
   obtain ⟨ln, HL2⟩ : ∃ v, Hid ((hsL N root (kl (lyP zs) n)).length = v) := ⟨_, rfl⟩
   obtain ⟨Q, HQQ⟩ : ∃ v, Hid (hsP N root (kl (lyP zs) n) = v) := ⟨_, rfl⟩
   rw [HKL.out] at HMM HI HFin KK
   rw [HL2.out, HQQ.out] at HFin KK KNQ
   have hk1 := KK.out.n
   clear HD HLN KNP KCN
   go_wp2_with (refine wpList_load_row (by rfl) 35 _ (by rfl) X (by rfl) 35 #[.int .i64 f, .slice a n c, .slice l zl d, v3] (0, 0) _ ?_ Tryz.underlying35 (by rfl) Tryz.infoNt ?_; exact RX.out)
   refine Calls.mono KNQ.out ?_
   rintro e w1 ⟨g2, c2, F2, rfl, o1, b1⟩
   obtain ⟨A2, C2, hA2⟩ := PiAt.a (rd_pcs o1.rd)
   have HO1 : Hid (Ow w1 wr.heap.size (pcsD ln Q) (.slice (some ⟨g2, 0, none⟩) ln c2) F2) := o1
   have HA2 : Hid (PiA w1 (some ⟨g2, 0, none⟩) ln A2 C2 Q) := hA2
   have HB1 : Hid (Below wr.heap.size wr w1) := b1
   have HOC : Hid (OwnC w1 g0 (some ⟨gg, 0, none⟩) len cc (gtC A C P K) ∧ g0 ≤ w1.heap.size) := ⟨HI.out.op.below b1, by have := RX.out.lt; have := b1.size; have := HGX.out; omega⟩
   clear o1 b1 hA2 KNQ
   go_wp2_with (at_builtin; refine (show True → _ from ?_) trivial)
   intro _
   refine wpList_append_all w1 (by rfl) _ _ 37 (by rfl) g0 49 i0 (.agg #[.string ByteArray.empty, .int .i64 0, .int .i64 0, .int .i64 0, .string ByteArray.empty, .slice none 0 0]) 6 80 Tryz.underlying37 hi hz0 hz1 hz2 rfl (by decide) gg len cc _ (by rfl) HOC.out.1 ⟨g2, 0, none⟩ ln c2 (gL (fun i => cel (Q i) (.slice (A2 i) (Q i).m (C2 i))) ln) (by rfl) (gL_len _ _) (piA_news HA2.out) (fun u hu => by obtain ⟨i, q, _, hq, rfl⟩ := gL_mem hu; exact cel_one hq) (by unfold maxLen; omega) (by omega) HOC.out.2 ?_
   intro g3 cap3 w2 hown2 hgr2
   obtain ⟨⟨A3, C3, hA3⟩, b2⟩ := HI.out.join KP.out HMM.out HB1.out HO1.out HA2.out hown2 hgr2
   have HB2 : Hid (Below w.heap.size w w2) := b2
   have KRG : Hid _ := sRegain_any root (some ⟨g3, 0, none⟩) (len + ln) cap3 A3 C3 (jnP K P len Q) w2 (fun W hW => chosen_any root (some ⟨g3, 0, none⟩) (len + ln) cap3 A3 C3 (jnP K P len Q) W (hA3.below hW) KK.out.n KK.out.m KK.out.s)
   clear hown2 hgr2 hA3 b2 HOC HA2 HO1 HB1
   go_wp2_with fail
   refine Calls.mono KRG.out ?_
   rintro e w9 ⟨b9, h9'⟩
   have h9 : RgA root (len + ln) (jnP K P len Q) e := by
    rcases h9' with k1 | ⟨k1, L, k2, k3, k4⟩
    ·exact .inl k1
    ·exact .inr ⟨k1, L, k2, k3, rs_rg k4⟩
   clear h9'
   obtain ⟨ts, cs, rfl⟩ := rgA_is h9
   have HF9 : Hid _ := HFin.out _ h9
   have HB9 : Hid (Below w.heap.size w w9) := below2 HB2.out b9
   clear h9 b9 KRG
   go_wp2
   go_ret2
   exact ⟨HB9.out, HF9.out⟩
theorem hs_txt {n : Nat} {N : Nat → Nd} {zs : List Int} (root : ByteArray) (hb : ∀ i, i < n → NdB (N i)) (i : Nat) (hi : i < (hsL N root (kl (lyP zs) n)).length) (j : Nat) (hj : j < (hsP N root (kl (lyP zs) n) i).m) : ((hsP N root (kl (lyP zs) n) i).S j).size ≤ maxLen := by
 have hx : (hsL N root (kl (lyP zs) n)).getD i 0 < n := by
  have h1 : (hsL N root (kl (lyP zs) n)).getD i 0 ∈ hsL N root (kl (lyP zs) n) := by
   rw [List.getD_eq_getElem?_getD, List.getElem?_eq_getElem hi]
   exact List.getElem_mem hi
  exact List.mem_range.1 (List.mem_filter.1 (List.mem_filter.1 h1).1).1
 have hd := hb _ hx
 unfold hsP at hj ⊢
 generalize N ((hsL N root (kl (lyP zs) n)).getD i 0) = nd at hd hj ⊢
 unfold soS at hj ⊢
 cases e : plc nd.S root nd.n with
 | none => rw [e] at hj; exact absurd hj (Nat.not_lt_zero _)
 | some x =>
  rw [e] at hj
  obtain ⟨_, h2, _, _⟩ := plF_some e
  exact (hd.s x (by omega)).tx j hj
theorem gt_little {n : Nat} {N : Nat → Nd} {zs : List Int} {m : Nat} {Y : Nat → Sy} {nl : Nat} {P : Nat → Pc} {k : Nat} (f : Int) (root : ByteArray) (h : wtT n N zs m Y ≤ 1048576) (hb : ∀ i, i < n → NdB (N i)) (hk : 1048576 - wtT n N zs m Y = k) (hP : wtLp nl P ≤ k) (hB : ∀ i, i < nl → PcB (P i)) : GtK ((kl (gtX f P) nl).length + (hsL N root (kl (lyP zs) n)).length) (jnP (kl (gtX f P) nl) P (kl (gtX f P) nl).length (hsP N root (kl (lyP zs) n))) := by
 have h1 : (hsL N root (kl (lyP zs) n)).length ≤ n := Nat.le_trans (hsL_le _ _ _) (kl_le _ _)
 have h2 := kl_le (gtX f P) nl
 have h3 : n ≤ wtT n N zs m Y := by unfold wtT wtNs; omega
 have h4 : nl ≤ wtLp nl P := by unfold wtLp; omega
 have h5 := pcs_little root h
 refine ⟨by omega, fun i hi => ?_, fun i hi j hj => ?_⟩
 ·unfold jnP
  by_cases e : i < (kl (gtX f P) nl).length
  ·rw [if_pos e]
   have hx := kl_mem e
   have k2 := tot_le (fun i => wtP (P i)) hx
   have k3 : (P ((kl (gtX f P) nl).getD i 0)).m ≤ wtP (P ((kl (gtX f P) nl).getD i 0)) := by unfold wtP; omega
   have k4 : tot (fun i => wtP (P i)) ((kl (gtX f P) nl).getD i 0) + wtP (P ((kl (gtX f P) nl).getD i 0)) ≤ tot (fun i => wtP (P i)) nl := k2
   unfold wtLp at hP
   omega
  ·rw [if_neg e]
   exact h5.2.1 _ (by omega)
 ·unfold jnP at hj ⊢
  by_cases e : i < (kl (gtX f P) nl).length
  ·rw [if_pos e] at hj ⊢
   exact (hB _ (kl_mem e)).tx j hj
  ·rw [if_neg e] at hj ⊢
   exact hs_txt root hb _ (by omega) j hj
theorem walk_FnExactNetGet (f : Int) (a : Option Addr) (n c : Nat) (l : Option Addr) (zs : List Int) (d : Nat) (e : Option Addr) (m g : Nat) (N : Nat → Nd) (Y : Nat → Sy) (root : ByteArray) (a2 : Option Addr) (len2 cap2 : Nat) (P2 : Nat → Pc) (w : World) (w0 : NetA w a n c l zs e m g N Y) (_w1 : root.size ≤ maxLen) (w2 : PiAt w a2 len2 P2 ∧ len2 ≤ maxLen ∧ ∀ i, i < len2 → PcB (P2 i)) (hE : ErrT w) :
  Calls Tryz.prog 3 #[.agg #[.int .i64 f, .slice a n c, .slice l zs.length d, .slice e m g], .string root, .slice a2 len2 cap2] w fun e w' => e = .returned (.bool true) ∧ Below w.heap.size w w' := by
 clear _w1
 have hT := w0
 clear w0
 obtain ⟨hP, hn2, hB2⟩ := w2
 have KA : Hid (∀ W, Below w.heap.size w W → NetA W a n c l zs e m g N Y ∧ PiAt W a2 len2 P2 ∧ ErrT W) := fun W hW => ⟨⟨hT.rn.below hW, hT.rl.below hW, hT.ry.below hW, hT.hn, hT.hl, hT.hm, hT.bn, hT.by'⟩, hP.below hW, hE.below hW⟩
 obtain ⟨B, HB⟩ : ∃ x, Hid (x = w.heap.size) := ⟨_, rfl⟩
 obtain ⟨w0, HW0⟩ : ∃ x, Hid (x = w.alloc (.cells #[.int .i64 f, .slice a n c, .slice l zs.length d, .slice e m g] 26)) := ⟨_, rfl⟩
 have HR0 : Hid (Row w0 B 26 #[.int .i64 f, .slice a n c, .slice l zs.length d, .slice e m g]) := by show Row _ _ _ _; rw [HW0.out, HB.out]; exact Row.new w _ _
 have hb0 : Below w.heap.size w w0 := by rw [HW0.out]; exact (Below.refl _ _).alloc (Nat.le_refl _) _
 have KZ : Hid (Calls Tryz.prog 4 #[.agg #[.int .i64 f, .slice a n c, .slice l zs.length d, .slice e m g], .int .i64 ((1048576 : Nat) : Int)] w0 _) := szNt_any f a n c l zs d e m g N Y 1048576 w0 (KA.out _ hb0).1 (by omega)
 have KB0 : Hid (Below w.heap.size w w0) := hb0
 have HBN : Hid (∀ i, i < n → NdB (N i)) := hT.bn
 have HPB : Hid (∀ i, i < len2 → PcB (P2 i)) := hB2
 clear hb0 hT hP hE hB2
 by_cases hr0 : root.size ≤ 1048576
 case neg =>
  have hr1 : (root.size : Int) > 1048576 := by omega
  go_enter Tryz.func3, Tryz.ntmps3
  go_wp2_with fail
  rw [← HW0.out]
  go_ret
  exact ⟨rfl, KB0.out⟩
 have hr1 : ¬ ((root.size : Int) > 1048576) := by omega
 clear hr0
 by_cases h0 : wtT n N zs m Y ≤ 1048576
 case neg =>
  rw [szN_no h0] at KZ
  clear h0
  go_enter Tryz.func3, Tryz.ntmps3
  go_wp2_with (rw [← HW0.out, ← HB.out]; refine wpList_load_row (by rfl) 26 _ (by rfl) B (by rfl) 26 #[.int .i64 f, .slice a n c, .slice l zs.length d, .slice e m g] (0, 0) _ ?_ Tryz.underlying26 (by rfl) Tryz.infoNtL2 ?_; exact HR0.out)
  refine Calls.mono KZ.out ?_
  rintro e' w1 ⟨rfl, b1⟩
  go_wp2
  go_ret
  exact ⟨rfl, below2 KB0.out b1⟩
 obtain ⟨left, hleft⟩ : ∃ q, 1048576 - wtT n N zs m Y = q := ⟨_, rfl⟩
 rw [szN_yes h0, hleft] at KZ
 have neg0 : ¬ ((left : Int) < 0) := by omega
 have hle : left ≤ 1048576 := by omega
 have KZ2 : Hid (∀ W, Below w.heap.size w W → Calls Tryz.prog 5 #[.slice a2 len2 cap2, .int .i64 (left : Int)] W fun e w' => e = .returned (.int .i64 (szN left (wtLp len2 P2))) ∧ Below W.heap.size W w') := fun W hW => szPs_any a2 len2 cap2 P2 left W (KA.out W hW).2.1 hle hn2 HPB.out
 by_cases h1 : wtLp len2 P2 ≤ left
 case neg =>
  rw [szN_no h1] at KZ2
  clear h0 h1 hleft
  go_enter Tryz.func3, Tryz.ntmps3
  go_wp2_with (rw [← HW0.out, ← HB.out]; refine wpList_load_row (by rfl) 26 _ (by rfl) B (by rfl) 26 #[.int .i64 f, .slice a n c, .slice l zs.length d, .slice e m g] (0, 0) _ ?_ Tryz.underlying26 (by rfl) Tryz.infoNtL2 ?_; exact HR0.out)
  refine Calls.mono KZ.out ?_
  rintro e' w1 ⟨rfl, b1⟩
  have KB1 : Hid (Below w.heap.size w w1) := below2 KB0.out b1
  clear b1
  go_wp2_with fail
  refine Calls.mono (KZ2.out _ KB1.out) ?_
  rintro e' w1b ⟨rfl, b1b⟩
  go_wp2
  go_ret
  exact ⟨rfl, below2 KB1.out b1b⟩
 obtain ⟨lf, HLF⟩ : ∃ x, Hid (left - wtLp len2 P2 = x) := ⟨_, rfl⟩
 rw [szN_yes h1, HLF.out] at KZ2
 have hlf : ¬ ((lf : Int) < 0) := by omega
 obtain ⟨hQ, hW⟩ := wtT_little h0
 have hGK := gt_little f root h0 HBN.out hleft h1 HPB.out
 have hnl : len2 ≤ 1048576 := by unfold wtLp at h1; omega
 have HM : Hid (∀ i, i < len2 → (P2 i).m ≤ 1048576) := fun i hi => by
  have h2 := tot_le (fun i => wtP (P2 i)) hi
  have h3 : (P2 i).m ≤ wtP (P2 i) := by unfold wtP; omega
  unfold wtLp at h1
  have h4 : tot (fun i => wtP (P2 i)) i + wtP (P2 i) ≤ tot (fun i => wtP (P2 i)) len2 := h2
  omega
 have KTo : Hid (∀ W, NetA W a n c l zs e m g N Y → Calls Tryz.prog 7 #[.agg #[.int .i64 f, .slice a n c, .slice l zs.length d, .slice e m g]] W fun r w' => ∃ g1 g2 g3, r = .returned (ntV f (.slice (some ⟨g1, 0, none⟩) n n) (.slice (some ⟨g2, 0, none⟩) zs.length zs.length) (.slice (some ⟨g3, 0, none⟩) m m)) ∧ (Rd w' (ndsD n N) (.slice (some ⟨g1, 0, none⟩) n n) ∧ IntsAt w' (some ⟨g2, 0, none⟩) zs.length zs ∧ Rd w' (sysD m Y) (.slice (some ⟨g3, 0, none⟩) m m)) ∧ Below W.heap.size W w') := fun W hW' => by
  refine (toNt_any f a n c l zs d e m g N Y W hW' hW.kn hW.kN hW.kz hW.km hW.kY).mono ?_
  rintro r w' ⟨g1, g2, g3, rfl, F1, F2, F3, o1, o2, o3, d1, d2, d3, bb⟩
  exact ⟨g1, g2, g3, rfl, ⟨o1.rd, rd_ints.1 o2.rd, o3.rd⟩, bb⟩
 have KTp : Hid (∀ W, PiAt W a2 len2 P2 → Calls Tryz.prog 8 #[.slice a2 len2 cap2] W fun r w' => ∃ G, r = .returned (.slice (some ⟨G, 0, none⟩) len2 len2) ∧ PiAt w' (some ⟨G, 0, none⟩) len2 P2 ∧ Below W.heap.size W w') := fun W hW' => by
  refine (toPs_any a2 len2 cap2 P2 W hW' hnl HM.out).mono ?_
  rintro r w' ⟨G, A', C', rfl, O, bb⟩
  exact ⟨G, rfl, O.at, bb⟩
 have KSp : Hid (∀ g1 g2 g3 G W, Rd W (ndsD n N) (.slice (some ⟨g1, 0, none⟩) n n) ∧ IntsAt W (some ⟨g2, 0, none⟩) zs.length zs ∧ Rd W (sysD m Y) (.slice (some ⟨g3, 0, none⟩) m m) → PiAt W (some ⟨G, 0, none⟩) len2 P2 → Calls Tryz.prog 6 #[ntV f (.slice (some ⟨g1, 0, none⟩) n n) (.slice (some ⟨g2, 0, none⟩) zs.length zs.length) (.slice (some ⟨g3, 0, none⟩) m m), .string root, .slice (some ⟨G, 0, none⟩) len2 len2] W fun r w' => Below W.heap.size W w' ∧ GtA f n N zs root len2 P2 r) := fun g1 g2 g3 G W k1 k2 => by
  obtain ⟨A', C', hA⟩ := PiAt.a k2
  exact sNetGet_any f (some ⟨g1, 0, none⟩) n n (some ⟨g2, 0, none⟩) zs.length zs (.slice (some ⟨g3, 0, none⟩) m m) N root (some ⟨G, 0, none⟩) len2 len2 A' C' P2 W k1.1 k1.2.1 hW.kn hW.kz hQ hA (fun _ => hGK)
 have KIm : Hid (∀ g1 g2 g3 G W, Rd W (ndsD n N) (.slice (some ⟨g1, 0, none⟩) n n) ∧ IntsAt W (some ⟨g2, 0, none⟩) zs.length zs ∧ Rd W (sysD m Y) (.slice (some ⟨g3, 0, none⟩) m m) → PiAt W (some ⟨G, 0, none⟩) len2 P2 → ErrT W → Calls Tryz.prog 9 #[ntV f (.slice (some ⟨g1, 0, none⟩) n n) (.slice (some ⟨g2, 0, none⟩) zs.length zs.length) (.slice (some ⟨g3, 0, none⟩) m m), .string root, .slice (some ⟨G, 0, none⟩) len2 len2] W fun r w' => Below W.heap.size W w' ∧ GtA f n N zs root len2 P2 r) := fun g1 g2 g3 G W k1 k2 k3 => by
  obtain ⟨A', C', hA⟩ := PiAt.a k2
  exact netGet_any f (some ⟨g1, 0, none⟩) n n (some ⟨g2, 0, none⟩) zs.length zs (.slice (some ⟨g3, 0, none⟩) m m) N root (some ⟨G, 0, none⟩) len2 len2 A' C' P2 W k1.1 k1.2.1 hW.kn hW.kz hQ hA k3 sort_ok (fun _ => hGK)
 have KEq : Hid (∀ g1 g2 g3 k1 k2 k3 W, (Rd W (ndsD n N) (.slice (some ⟨g1, 0, none⟩) n n) ∧ IntsAt W (some ⟨g2, 0, none⟩) zs.length zs ∧ Rd W (sysD m Y) (.slice (some ⟨g3, 0, none⟩) m m)) → (Rd W (ndsD n N) (.slice (some ⟨k1, 0, none⟩) n n) ∧ IntsAt W (some ⟨k2, 0, none⟩) zs.length zs ∧ Rd W (sysD m Y) (.slice (some ⟨k3, 0, none⟩) m m)) → Calls Tryz.prog 10 #[ntV f (.slice (some ⟨g1, 0, none⟩) n n) (.slice (some ⟨g2, 0, none⟩) zs.length zs.length) (.slice (some ⟨g3, 0, none⟩) m m), ntV f (.slice (some ⟨k1, 0, none⟩) n n) (.slice (some ⟨k2, 0, none⟩) zs.length zs.length) (.slice (some ⟨k3, 0, none⟩) m m)] W fun r w' => r = .returned (.bool true) ∧ Below W.heap.size W w') := fun g1 g2 g3 k1 k2 k3 W h1 h2 => eqNt_same f _ _ n n n _ _ zs zs.length zs.length _ _ m m m N Y W h1.1 h2.1 h1.2.1 h2.2.1 h1.2.2 h2.2.2 hW.kn hW.kN hW.kz hW.km hW.kY
 have KRb : Hid (∀ g1 g2 g3 (W W' : World), Below W.heap.size W W' → (Rd W (ndsD n N) (.slice (some ⟨g1, 0, none⟩) n n) ∧ IntsAt W (some ⟨g2, 0, none⟩) zs.length zs ∧ Rd W (sysD m Y) (.slice (some ⟨g3, 0, none⟩) m m)) → (Rd W' (ndsD n N) (.slice (some ⟨g1, 0, none⟩) n n) ∧ IntsAt W' (some ⟨g2, 0, none⟩) zs.length zs ∧ Rd W' (sysD m Y) (.slice (some ⟨g3, 0, none⟩) m m))) := fun g1 g2 g3 W W' b k => ⟨k.1.below b, k.2.1.below b, k.2.2.below b⟩
 obtain ⟨RN, HRN⟩ : ∃ R : Nat → Nat → Nat → World → Prop, Hid ((fun g1 g2 g3 (W : World) => Rd W (ndsD n N) (.slice (some ⟨g1, 0, none⟩) n n) ∧ IntsAt W (some ⟨g2, 0, none⟩) zs.length zs ∧ Rd W (sysD m Y) (.slice (some ⟨g3, 0, none⟩) m m)) = R) := ⟨_, rfl⟩
 have HR' : ∀ g1 g2 g3 W, (Rd W (ndsD n N) (.slice (some ⟨g1, 0, none⟩) n n) ∧ IntsAt W (some ⟨g2, 0, none⟩) zs.length zs ∧ Rd W (sysD m Y) (.slice (some ⟨g3, 0, none⟩) m m)) = RN g1 g2 g3 W := fun g1 g2 g3 W => by rw [← HRN.out]
 simp only [HR'] at KTo KSp KIm KEq KRb
 obtain ⟨zl, HZL⟩ : ∃ x, Hid (zs.length = x) := ⟨_, rfl⟩
 clear h0 h1 hleft hQ hW hGK HBN HPB HLF hle HR' HRN
 go_enter Tryz.func3, Tryz.ntmps3
 go_wp2_with (rw [← HW0.out, ← HB.out]; refine wpList_load_row (by rfl) 26 _ (by rfl) B (by rfl) 26 #[.int .i64 f, .slice a n c, .slice l zs.length d, .slice e m g] (0, 0) _ ?_ Tryz.underlying26 (by rfl) Tryz.infoNtL2 ?_; exact HR0.out)
 refine Calls.mono KZ.out ?_
 rintro e' w1 ⟨rfl, b1⟩
 have HR1 : Hid (Row w1 B 26 #[.int .i64 f, .slice a n c, .slice l zs.length d, .slice e m g]) := HR0.out.below b1 HR0.out.lt
 have KB1 : Hid (Below w.heap.size w w1) := below2 KB0.out b1
 clear b1 KZ HR0 HW0 KB0
 go_wp2_with fail
 refine Calls.mono (KZ2.out _ KB1.out) ?_
 rintro e' w1b ⟨rfl, b1b⟩
 have HR1b : Hid (Row w1b B 26 #[.int .i64 f, .slice a n c, .slice l zs.length d, .slice e m g]) := HR1.out.below b1b HR1.out.lt
 have KB1b : Hid (Below w.heap.size w w1b) := below2 KB1.out b1b
 clear b1b KZ2 HR1 KB1
 go_wp2_with (refine wpList_load_row (by rfl) 26 _ (by rfl) B (by rfl) 26 #[.int .i64 f, .slice a n c, .slice l zs.length d, .slice e m g] (0, 0) _ ?_ Tryz.underlying26 (by rfl) Tryz.infoNtL2 ?_; exact HR1b.out)
 refine Calls.mono (KTo.out _ (KA.out _ KB1b.out).1) ?_
 rintro e' w2 ⟨g21, g22, g23, rfl, O2, b2⟩
 have HR2 : Hid (Row w2 B 26 #[.int .i64 f, .slice a n c, .slice l zs.length d, .slice e m g]) := HR1b.out.below b2 HR1b.out.lt
 have KB2 : Hid (Below w.heap.size w w2) := below2 KB1b.out b2
 have KO2 : Hid (RN g21 g22 g23 w2) := O2
 clear b2 O2 HR1b KB1b
 go_wp2_with fail
 refine Calls.mono (KTp.out _ (KA.out _ KB2.out).2.1) ?_
 rintro e' w3 ⟨G3, rfl, P3, b3⟩
 have HR3 : Hid (Row w3 B 26 #[.int .i64 f, .slice a n c, .slice l zs.length d, .slice e m g]) := HR2.out.below b3 HR2.out.lt
 have KB3 : Hid (Below w.heap.size w w3) := below2 KB2.out b3
 have KS3 : Hid _ := KSp.out g21 g22 g23 G3 w3 (KRb.out _ _ _ _ _ b3 KO2.out) P3
 clear b3 P3 HR2 KB2 KO2 KSp
 go_wp2_with fail
 refine Calls.mono KS3.out ?_
 rintro e' w4 ⟨b4, hS⟩
 obtain ⟨ts, cs, rfl⟩ := gtA_is hS
 have HSA : Hid (GtA f n N zs root len2 P2 (.returned (.tuple #[.string ts, .int .i64 cs]))) := hS
 have HR4 : Hid (Row w4 B 26 #[.int .i64 f, .slice a n c, .slice l zs.length d, .slice e m g]) := HR3.out.below b4 HR3.out.lt
 have KB4 : Hid (Below w.heap.size w w4) := below2 KB3.out b4
 have KE : Hid (∀ W, Below w4.heap.size w4 W → Row W B 26 #[.int .i64 f, .slice a n c, .slice l zs.length d, .slice e m g] ∧ NetA W a n c l zs e m g N Y ∧ PiAt W a2 len2 P2 ∧ ErrT W ∧ Below w.heap.size w W) := fun W hW => ⟨HR4.out.below hW HR4.out.lt, (KA.out _ (below2 KB4.out hW)).1, (KA.out _ (below2 KB4.out hW)).2.1, (KA.out _ (below2 KB4.out hW)).2.2, below2 KB4.out hW⟩
 have KT4 : Hid _ := KTo.out _ (KE.out w4 (Below.refl _ _)).2.1
 clear b4 hS KS3 HR3 KB3 KB4 KA
 go_wp2_with (refine wpList_load_row (by rfl) 26 _ (by rfl) B (by rfl) 26 #[.int .i64 f, .slice a n c, .slice l zs.length d, .slice e m g] (0, 0) _ ?_ Tryz.underlying26 (by rfl) Tryz.infoNtL2 ?_; exact HR4.out)
 refine Calls.mono KT4.out ?_
 rintro e' w5 ⟨g1, g2, g3, rfl, O5, b5⟩
 obtain ⟨w6, HW6⟩ : ∃ x, Hid (x = w5.alloc (.cells #[.int .i64 f, .slice (some ⟨g1, 0, none⟩) n n, .slice (some ⟨g2, 0, none⟩) zs.length zs.length, .slice (some ⟨g3, 0, none⟩) m m] 35)) := ⟨_, rfl⟩
 obtain ⟨D, HD⟩ : ∃ x, Hid (x = w5.heap.size) := ⟨_, rfl⟩
 have b56 : Below w5.heap.size w5 w6 := by rw [HW6.out]; exact (Below.refl _ _).alloc (Nat.le_refl _) _
 have KX6 : Hid (Row w6 D 35 #[.int .i64 f, .slice (some ⟨g1, 0, none⟩) n n, .slice (some ⟨g2, 0, none⟩) zs.length zs.length, .slice (some ⟨g3, 0, none⟩) m m]) := by show Row _ _ _ _; rw [HW6.out, HD.out]; exact Row.new w5 _ _
 have KO6 : Hid (RN g1 g2 g3 w6) := KRb.out _ _ _ _ _ b56 O5
 have cum6 : Hid (Below w4.heap.size w4 w6) := below2 b5 b56
 clear b5 b56 O5 KT4 HR4
 go_wp2_with fail
 rw [← HW6.out, ← HD.out]
 refine Calls.mono (KTp.out _ (KE.out _ cum6.out).2.2.1) ?_
 rintro e' w7 ⟨G7, rfl, P7, b7⟩
 have KX7 : Hid (Row w7 D 35 #[.int .i64 f, .slice (some ⟨g1, 0, none⟩) n n, .slice (some ⟨g2, 0, none⟩) zs.length zs.length, .slice (some ⟨g3, 0, none⟩) m m]) := KX6.out.below b7 KX6.out.lt
 have KO7 : Hid (RN g1 g2 g3 w7) := KRb.out _ _ _ _ _ b7 KO6.out
 have KP7 : Hid (PiAt w7 (some ⟨G7, 0, none⟩) len2 P2) := P7
 have cum7 : Hid (Below w4.heap.size w4 w7) := below2 cum6.out b7
 have KI7 : Hid _ := KIm.out g1 g2 g3 G7 w7 KO7.out P7 (KE.out _ cum7.out).2.2.2.1
 clear b7 P7 KX6 KO6 cum6 KIm HW6 HD
 go_wp2_with (refine wpList_load_row (by rfl) 35 _ (by rfl) D (by rfl) 35 #[.int .i64 f, .slice (some ⟨g1, 0, none⟩) n n, .slice (some ⟨g2, 0, none⟩) zs.length zs.length, .slice (some ⟨g3, 0, none⟩) m m] (0, 0) _ ?_ Tryz.underlying35 (by rfl) Tryz.infoNt ?_; exact KX7.out)
 refine Calls.mono KI7.out ?_
 rintro e' w8 ⟨b8, hI⟩
 obtain rfl := gtA_one HSA.out hI
 have cum8 : Hid (Below w4.heap.size w4 w8) := below2 cum7.out b8
 have KX8 : Hid (Row w8 D 35 #[.int .i64 f, .slice (some ⟨g1, 0, none⟩) n n, .slice (some ⟨g2, 0, none⟩) zs.length zs.length, .slice (some ⟨g3, 0, none⟩) m m]) := KX7.out.below b8 KX7.out.lt
 have KO8 : Hid (RN g1 g2 g3 w8) := KRb.out _ _ _ _ _ b8 KO7.out
 have KP8 : Hid (PiAt w8 (some ⟨G7, 0, none⟩) len2 P2) := KP7.out.below b8
 have f1 : (ts.toList != ts.toList) = false := by simp
 have f1' := ba_beq ts
 have f2 : (cs != cs) = false := by simp
 clear b8 hI KI7 KX7 KO7 KP7 cum7 HSA
 go_upto_region 16 with fail
 go_cut [59] from 55 to 59 (fun v wx => Hid (v = .bool false ∧ Below w8.heap.size w8 wx))
 case first =>
  have RB8 := (KE.out _ cum8.out).1
  have q0 := RB8.cell 0
  have q1 := RB8.cell 1
  have q2 := RB8.cell 2
  have q3 := RB8.cell 3
  have y0 := KX8.out.cell 0
  have y1 := KX8.out.cell 1
  have y2 := KX8.out.cell 2
  have y3 := KX8.out.cell 3
  simp at q0 q1 q2 q3 y0 y1 y2 y3
  have lB := RB8.lt
  have lD := KX8.out.lt
  have KTP : Hid _ := KTo.out w8.drew (KE.out w8.drew (below_drewN cum8.out 1)).2.1
  clear RB8
  go_region_held3 (fun w' => w'.cell? ⟨B, 0, none⟩ = some (.int .i64 f) ∧ w'.cell? ⟨B, 1, none⟩ = some (.slice a n c) ∧ w'.cell? ⟨B, 2, none⟩ = some (.slice l zs.length d) ∧ w'.cell? ⟨B, 3, none⟩ = some (.slice e m g) ∧ w'.cell? ⟨D, 0, none⟩ = some (.int .i64 f) ∧ w'.cell? ⟨D, 1, none⟩ = some (.slice (some ⟨g1, 0, none⟩) n n) ∧ w'.cell? ⟨D, 2, none⟩ = some (.slice (some ⟨g2, 0, none⟩) zs.length zs.length) ∧ w'.cell? ⟨D, 3, none⟩ = some (.slice (some ⟨g3, 0, none⟩) m m)) (go_keep) ((first | (go_at_call 7; refine Calls.mono (KTP.out) ?_; rintro e' v7 ⟨k1, k2, k3, rfl, O7, b7'⟩; have v7b := below_of_drew b7'; clear b7'; have KO7 : Hid (RN k1 k2 k3 v7) := O7; clear O7; have p0 := (v7b.cell (p := ⟨B, 0, none⟩) lB).trans q0; have z0 := (v7b.cell (p := ⟨D, 0, none⟩) lD).trans y0; have p1 := (v7b.cell (p := ⟨B, 1, none⟩) lB).trans q1; have z1 := (v7b.cell (p := ⟨D, 1, none⟩) lD).trans y1; have p2 := (v7b.cell (p := ⟨B, 2, none⟩) lB).trans q2; have z2 := (v7b.cell (p := ⟨D, 2, none⟩) lD).trans y2; have p3 := (v7b.cell (p := ⟨B, 3, none⟩) lB).trans q3; have z3 := (v7b.cell (p := ⟨D, 3, none⟩) lD).trans y3) | (guard_hyp v7b; go_at_call 10; refine Calls.mono (KEq.out g1 g2 g3 k1 k2 k3 _ (KRb.out _ _ _ _ _ v7b KO8.out) KO7.out) ?_; rintro e' v8 ⟨rfl, b8'⟩; have b78 := below2 v7b b8'; have s0 := (b78.cell (p := ⟨B, 0, none⟩) lB).trans q0; have t0 := (b78.cell (p := ⟨D, 0, none⟩) lD).trans y0; have s1 := (b78.cell (p := ⟨B, 1, none⟩) lB).trans q1; have t1 := (b78.cell (p := ⟨D, 1, none⟩) lD).trans y1; have s2 := (b78.cell (p := ⟨B, 2, none⟩) lB).trans q2; have t2 := (b78.cell (p := ⟨D, 2, none⟩) lD).trans y2; have s3 := (b78.cell (p := ⟨B, 3, none⟩) lB).trans q3; have t3 := (b78.cell (p := ⟨D, 3, none⟩) lD).trans y3)))
  all_goals
   go_wp2_with fail
   go_meet
   exact ⟨rfl, b78⟩
 obtain ⟨rfl, bc⟩ := hcut.out
 clear hcut
 have cumc : Hid (Below w4.heap.size w4 wc) := below2 cum8.out bc
 have KPc : Hid (PiAt wc (some ⟨G7, 0, none⟩) len2 P2) := KP8.out.below bc
 clear bc cum8 KX8 KO8 KP8
 go_wp2_with fail
 refine Calls.mono (KTp.out _ (KE.out _ cumc.out).2.2.1) ?_
 rintro e' w9 ⟨G9, rfl, P9, b9⟩
 have cum9 : Hid (Below w4.heap.size w4 w9) := below2 cumc.out b9
 have KC9 : Hid _ := eqPs_same (some ⟨G7, 0, none⟩) (some ⟨G9, 0, none⟩) len2 len2 len2 P2 w9 (KPc.out.below b9) P9 hnl HM.out
 clear b9 P9 cumc KPc
 go_wp2_with fail
 refine Calls.mono KC9.out ?_
 rintro e' w10 ⟨rfl, b10⟩
 have KF : Hid (Below w.heap.size w w10) := below2 (KE.out _ cum9.out).2.2.2.2 b10
 clear b10
 go_wp2
 go_ret
 exact ⟨rfl, KF.out⟩
end Go.Proofs.YtmhcdkbgjjibeaaGreatDoor
