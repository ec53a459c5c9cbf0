/- Slots, lists of slots and nodes, compared by the exact laws: equal ones. Conditions: no list is longer than 2^20. -/
import Derived.Test.YtgiegoamcfjfmaaGreatH17
import Derived.Test.YtgiegoamcfjfmaaGreatH6
import Derived.Deep.RegionHeld3
import Derived.BigQuiet
import Derived.Test.YtgiegoamcfjfmaaGreatH13
namespace Go.Proofs.YtgiegoamcfjfmaaGreat
set_option maxRecDepth 2000
open Go.ChangeShapes Go.WideShapes Go.ChangeAt Go.RowKit

/-- The lists of a slot are of a size that the laws bear. -/
def SlS (s : Sl) : Prop := s.p.m ≤ 1048576 ∧ s.ze.length ≤ 1048576 ∧ s.zr.length ≤ 1048576
set_option maxHeartbeats 4000000 in
theorem eqSl_same (s : Sl) (a6 b6 a11 b11 a12 b12 : Option Addr) (c6 d6 c11 d11 c12 d12 : Nat) (w : World) (h6 : TxtAt w a6 s.p.m s.p.S) (k6 : TxtAt w b6 s.p.m s.p.S) (h11 : IntsAt w a11 s.ze.length s.ze) (k11 : IntsAt w b11 s.ze.length s.ze) (h12 : IntsAt w a12 s.zr.length s.zr) (k12 : IntsAt w b12 s.zr.length s.zr) (hs : SlS s) :
    Calls Tryz.prog 139 #[slV s (.slice a6 s.p.m c6) (.slice a11 s.ze.length c11) (.slice a12 s.zr.length c12), slV s (.slice b6 s.p.m d6) (.slice b11 s.ze.length d11) (.slice b12 s.zr.length d12)] w fun e w' => e = .returned (.bool true) ∧ Below w.heap.size w w' := by
  obtain ⟨r, p, fh, fe, fd, fo, ze, zr⟩ := s
  obtain ⟨rr, kk, nn, ii, bb, m, S⟩ := p
  obtain ⟨hm, he, hz⟩ := hs
  simp only at h6 k6 h11 k11 h12 k12 hm he hz
  obtain ⟨A, HA⟩ : ∃ x, Hid (x = w.heap.size) := ⟨_, rfl⟩
  obtain ⟨B, HB⟩ : ∃ x, Hid (x = w.heap.size + 1) := ⟨_, rfl⟩
  obtain ⟨w0, HW0⟩ : ∃ x, Hid (x = (w.alloc (.cells (slC ⟨r, ⟨rr, kk, nn, ii, bb, m, S⟩, fh, fe, fd, fo, ze, zr⟩ (.slice a6 m c6) (.slice a11 ze.length c11) (.slice a12 zr.length c12)) 62)).alloc (.cells (slC ⟨r, ⟨rr, kk, nn, ii, bb, m, S⟩, fh, fe, fd, fo, ze, zr⟩ (.slice b6 m d6) (.slice b11 ze.length d11) (.slice b12 zr.length d12)) 62)) := ⟨_, rfl⟩
  have RA : Hid (Row w0 A 62 (slC ⟨r, ⟨rr, kk, nn, ii, bb, m, S⟩, fh, fe, fd, fo, ze, zr⟩ (.slice a6 m c6) (.slice a11 ze.length c11) (.slice a12 zr.length c12))) := by
    show Row _ _ _ _
    rw [HW0.out, HA.out]
    exact Row.alloc (Row.new w _ _) _
  have RB : Hid (Row w0 B 62 (slC ⟨r, ⟨rr, kk, nn, ii, bb, m, S⟩, fh, fe, fd, fo, ze, zr⟩ (.slice b6 m d6) (.slice b11 ze.length d11) (.slice b12 zr.length d12))) := by
    show Row _ _ _ _
    rw [HW0.out, HB.out]
    have := Row.new (w.alloc (.cells (slC ⟨r, ⟨rr, kk, nn, ii, bb, m, S⟩, fh, fe, fd, fo, ze, zr⟩ (.slice a6 m c6) (.slice a11 ze.length c11) (.slice a12 zr.length c12)) 62)) (slC ⟨r, ⟨rr, kk, nn, ii, bb, m, S⟩, fh, fe, fd, fo, ze, zr⟩ (.slice b6 m d6) (.slice b11 ze.length d11) (.slice b12 zr.length d12)) 62
    simpa using this
  have hb0 : Below w.heap.size w w0 := by rw [HW0.out]; exact ((Below.refl _ _).alloc (Nat.le_refl _) _).alloc (by simp) _
  have KB0 : Hid (Below w.heap.size w w0) := hb0
  have KP : Hid _ := eqPc_same rr kk nn ii bb a6 b6 m c6 d6 S w0 (h6.below hb0) (k6.below hb0) hm
  have KE : Hid (∀ W, Below w0.heap.size w0 W → Calls Tryz.prog 116 #[.slice a11 ze.length c11, .slice b11 ze.length d11] W fun e w' => e = .returned (.bool true) ∧ Below W.heap.size W w') := fun W hW => eqIntS_same a11 b11 ze.length c11 d11 ze W ((h11.below hb0).below hW) ((k11.below hb0).below hW) he
  have KZ : Hid (∀ W, Below w0.heap.size w0 W → Calls Tryz.prog 116 #[.slice a12 zr.length c12, .slice b12 zr.length d12] W fun e w' => e = .returned (.bool true) ∧ Below W.heap.size W w') := fun W hW => eqIntS_same a12 b12 zr.length c12 d12 zr W ((h12.below hb0).below hW) ((k12.below hb0).below hW) hz
  generalize ze.length = le at *
  generalize zr.length = lr at *
  have f0 : (r.toList != r.toList) = false := by simp
  have f0' := ba_beq r
  have f1 : (fh != fh) = false := by simp
  have f2 : (fe != fe) = false := by simp
  have f3 : (fd != fd) = false := by simp
  have f4 : (fo != fo) = false := by simp
  clear h6 k6 h11 k11 h12 k12 hm he hz hb0
  go_enter Tryz.func139, Tryz.ntmps139
  go_wp2_with fail
  rw [← HW0.out, ← HB.out, ← HA.out]
  refine Calls.mono KP.out ?_
  rintro e w1 ⟨rfl, b1⟩
  have RA1 := RA.out.below b1 RA.out.lt
  have RB1 := RB.out.below b1 RB.out.lt
  have x7 := RA1.cell 7
  have x8 := RA1.cell 8
  have x9 := RA1.cell 9
  have x10 := RA1.cell 10
  have x11 := RA1.cell 11
  have y7 := RB1.cell 7
  have y8 := RB1.cell 8
  have y9 := RB1.cell 9
  have y10 := RB1.cell 10
  have y11 := RB1.cell 11
  simp at x7 x8 x9 x10 x11 y7 y8 y9 y10 y11
  have B1 : Hid (Below w0.heap.size w0 w1) := b1
  have HA1 : Hid (Row w1 A 62 _ ∧ Row w1 B 62 _) := ⟨RA1, RB1⟩
  clear RA RB RA1 RB1 b1 KP
  go_wp2_with fail
  refine Calls.mono (KE.out _ B1.out) ?_
  rintro e w2 ⟨rfl, b2⟩
  have RA2 := HA1.out.1.below b2 HA1.out.1.lt
  have RB2 := HA1.out.2.below b2 HA1.out.2.lt
  have B2 : Hid (Below w0.heap.size w0 w2) := below2 B1.out b2
  have z12 := RA2.cell 12
  have u12 := RB2.cell 12
  simp at z12 u12
  clear x7 x8 x9 x10 x11 y7 y8 y9 y10 y11 RA2 RB2 HA1 b2 KE
  go_wp2_with fail
  refine Calls.mono (KZ.out _ B2.out) ?_
  rintro e w3 ⟨rfl, b3⟩
  have B3 : Hid (Below w.heap.size w w3) := below2 KB0.out (below2 B2.out b3)
  clear b3 z12 u12
  go_wp2
  go_ret
  exact ⟨rfl, B3.out⟩

/-- The cells of one struct of each of two lists, in every world that grew out of the first. -/
theorem one_row {w : World} {b off i sz : Nat} {y : Nat → Value} (W : World) (hW : Below w.heap.size w W) (h : ∀ q, q < sz + 1 → w.cell? ⟨b, off + (i * (sz + 1) + q), none⟩ = some (y q)) :
    W.cell? ⟨b, off + i * (sz + 1), none⟩ = some (y 0) ∧ (∀ q, q < sz + 1 → W.cell? ⟨b, off + i * (sz + 1) + q, none⟩ = some (y q)) := by
  have k : ∀ q, q < sz + 1 → W.cell? ⟨b, off + i * (sz + 1) + q, none⟩ = some (y q) := fun q hq => by
    have := h q hq
    rw [← Nat.add_assoc] at this
    exact (hW.cell (p := ⟨b, off + i * (sz + 1) + q, none⟩) (block_lt_of_cell this)).trans this
  exact ⟨k 0 (by omega), k⟩
theorem two_rows {w : World} {b off b' off' i sz : Nat} {y y' : Nat → Value} (W : World) (hW : Below w.heap.size w W) (h : ∀ q, q < sz + 1 → w.cell? ⟨b, off + (i * (sz + 1) + q), none⟩ = some (y q)) (h' : ∀ q, q < sz + 1 → w.cell? ⟨b', off' + (i * (sz + 1) + q), none⟩ = some (y' q)) :
    W.cell? ⟨b, off + i * (sz + 1), none⟩ = some (y 0) ∧ (∀ q, q < sz + 1 → W.cell? ⟨b, off + i * (sz + 1) + q, none⟩ = some (y q)) ∧ W.cell? ⟨b', off' + i * (sz + 1), none⟩ = some (y' 0) ∧ (∀ q, q < sz + 1 → W.cell? ⟨b', off' + i * (sz + 1) + q, none⟩ = some (y' q)) := by
  obtain ⟨h1, h2⟩ := one_row W hW h
  obtain ⟨h3, h4⟩ := one_row W hW h'
  exact ⟨h1, h2, h3, h4⟩
set_option maxHeartbeats 4000000 in
theorem eqSls_same (a b : Option Addr) (n ca cb : Nat) (S : Nat → Sl) (w : World) (ha : Rd w (slsD n S) (.slice a n ca)) (hb : Rd w (slsD n S) (.slice b n cb)) (hn : n ≤ 1048576) (hs : ∀ i, i < n → SlS (S i)) :
    Calls Tryz.prog 76 #[.slice a n ca, .slice b n cb] w fun e w' => e = .returned (.bool true) ∧ Below w.heap.size w w' := by
  have KH : Hid (Rd w (slsD n S) (.slice a n ca) ∧ Rd w (slsD n S) (.slice b n cb)) := ⟨ha, hb⟩
  have HS : Hid (∀ i, i < n → SlS (S i)) := hs
  have hnn : ((n : Int) != (n : Int)) = false := by simp
  clear ha hb hs
  go_enter Tryz.func76, Tryz.ntmps76
  go_wp2
  go_loopw [5] (fun vi wr => ∃ c : Nat, c ≤ n ∧ vi = .int .i64 (c : Int) ∧ Below w.heap.size w wr) (fun vi _ => n - (intOf vi).toNat)
  case atStart => exact ⟨0, Nat.zero_le _, rfl, Below.refl _ _⟩
  case round =>
    obtain ⟨c, hcn, rfl, hbel⟩ := hrel
    by_cases hlt : c < n
    · have hki : (c : Int) < (n : Int) := by omega
      obtain ⟨b1, f1, y1, p6, p11, p12, q6, q11, q12, rfl, hc1, e1, ht1, he1, hz1⟩ := slot_row (KH.out.1.below hbel) hlt
      obtain ⟨b2, f2, y2, s6, s11, s12, t6, t11, t12, rfl, hc2, e2, ht2, he2, hz2⟩ := slot_row (KH.out.2.below hbel) hlt
      have hsc := HS.out c hlt
      have KT : Hid (∀ W, Below wr.heap.size wr W → Calls Tryz.prog 139 #[ag13 y1, ag13 y2] W fun e w' => e = .returned (.bool true) ∧ Below W.heap.size W w') := fun W hW => by
        rw [e1, e2]
        exact eqSl_same (S c) p6 s6 p11 s11 p12 s12 q6 t6 q11 t11 q12 t12 W (ht1.below hW) (ht2.below hW) (he1.below hW) (he2.below hW) (hz1.below hW) (hz2.below hW) hsc
      have KS : Hid (∀ W, Below wr.heap.size wr W → W.cell? ⟨b1, f1 + c * 13, none⟩ = some (y1 0) ∧ (∀ q, q < 13 → W.cell? ⟨b1, f1 + c * 13 + q, none⟩ = some (y1 q)) ∧ W.cell? ⟨b2, f2 + c * 13, none⟩ = some (y2 0) ∧ (∀ q, q < 13 → W.cell? ⟨b2, f2 + c * 13 + q, none⟩ = some (y2 q))) := fun W hW => two_rows W hW hc1 hc2
      have KB : Hid (Below w.heap.size w wr) := hbel
      have hdr := below_drew wr
      clear hc1 hc2 ht1 ht2 he1 he2 hz1 hz2 hbel e1 e2 hsc
      go_wp2_with fail
      go_region_held3 (fun w' => w'.cell? ⟨b1, f1 + c * 13, none⟩ = some (y1 0) ∧ (∀ q, q < 13 → w'.cell? ⟨b1, f1 + c * 13 + q, none⟩ = some (y1 q)) ∧ w'.cell? ⟨b2, f2 + c * 13, none⟩ = some (y2 0) ∧ (∀ q, q < 13 → w'.cell? ⟨b2, f2 + c * 13 + q, none⟩ = some (y2 q))) (exact KS.out _ (by assumption)) ((go_at_call 139; refine Calls.mono (KT.out _ hdr) ?_; rintro e w7 ⟨rfl, b7'⟩; have b7 := below_of_drew b7'; clear b7'))
      all_goals
        have HB7 : Hid (Below w.heap.size w w7) := below2 KB.out b7
        clear b7
        go_wp2
        go_roundw
        case rel => exact ⟨c + 1, by omega, by go_num, HB7.out⟩
        case measure => simp [intOf]; omega
    · go_wp2
      go_ret
      exact ⟨rfl, hbel⟩
set_option maxHeartbeats 1000000 in
theorem eqNd_same (id f : Int) (a b : Option Addr) (n ca cb : Nat) (S : Nat → Sl) (w : World) (ha : Rd w (slsD n S) (.slice a n ca)) (hb : Rd w (slsD n S) (.slice b n cb)) (hn : n ≤ 1048576) (hs : ∀ i, i < n → SlS (S i)) :
    Calls Tryz.prog 15 #[.agg #[.int .i64 id, .int .i64 f, .slice a n ca], .agg #[.int .i64 id, .int .i64 f, .slice b n cb]] w fun e w' => e = .returned (.bool true) ∧ Below w.heap.size w w' := by
  obtain ⟨w0, HW0⟩ : ∃ x, Hid (x = (w.alloc (.cells #[.int .i64 id, .int .i64 f, .slice a n ca] 34)).alloc (.cells #[.int .i64 id, .int .i64 f, .slice b n cb] 34)) := ⟨_, rfl⟩
  have hb0 : Below w.heap.size w w0 := by rw [HW0.out]; exact ((Below.refl _ _).alloc (Nat.le_refl _) _).alloc (by simp) _
  have KB0 : Hid (Below w.heap.size w w0) := hb0
  have KE : Hid _ := eqSls_same a b n ca cb S w0 (ha.below hb0) (hb.below hb0) hn hs
  have f0 : (id != id) = false := by simp
  have f1 : (f != f) = false := by simp
  clear ha hb hb0 hs
  go_enter Tryz.func15, Tryz.ntmps15
  go_wp2_with fail
  rw [← HW0.out]
  refine Calls.mono KE.out ?_
  rintro e w1 ⟨rfl, b1⟩
  go_wp2
  go_ret
  exact ⟨rfl, below2 KB0.out b1⟩
end Go.Proofs.YtgiegoamcfjfmaaGreat
/- Sayings and lists of them, compared by the exact laws: equal ones. Conditions: no list is longer than 2^20. Written by mknsay.py. -/
namespace Go.Proofs.YtgiegoamcfjfmaaGreat
set_option maxRecDepth 2000
open Go.ChangeShapes Go.WideShapes Go.ChangeAt Go.RowKit

set_option maxHeartbeats 4000000 in
theorem eqSy_same (s : Sy) (a9 b9 : Option Addr) (c9 d9 : Nat) (w : World) (h9 : TxtAt w a9 s.p.m s.p.S) (k9 : TxtAt w b9 s.p.m s.p.S) (hs : s.p.m ≤ 1048576) :
    Calls Tryz.prog 17 #[syV s (.slice a9 s.p.m c9), syV s (.slice b9 s.p.m d9)] w fun e w' => e = .returned (.bool true) ∧ Below w.heap.size w w' := by
  obtain ⟨sk, sf, st, sr, p⟩ := s
  obtain ⟨rr, kk, nn, ii, bb, m, S⟩ := p
  simp only at h9 k9 hs
  obtain ⟨w0, HW0⟩ : ∃ x, Hid (x = (w.alloc (.cells (syC ⟨sk, sf, st, sr, ⟨rr, kk, nn, ii, bb, m, S⟩⟩ (.slice a9 m c9)) 41)).alloc (.cells (syC ⟨sk, sf, st, sr, ⟨rr, kk, nn, ii, bb, m, S⟩⟩ (.slice b9 m d9)) 41)) := ⟨_, rfl⟩
  have hb0 : Below w.heap.size w w0 := by rw [HW0.out]; exact ((Below.refl _ _).alloc (Nat.le_refl _) _).alloc (by simp) _
  have KB0 : Hid (Below w.heap.size w w0) := hb0
  have KP : Hid _ := eqPc_same rr kk nn ii bb a9 b9 m c9 d9 S w0 (h9.below hb0) (k9.below hb0) hs
  have f0 : (sr.toList != sr.toList) = false := by simp
  have f0' := ba_beq sr
  have f1 : (sk != sk) = false := by simp
  have f2 : (sf != sf) = false := by simp
  have f3 : (st != st) = false := by simp
  clear h9 k9 hs hb0
  go_enter Tryz.func17, Tryz.ntmps17
  go_wp2_with fail
  rw [← HW0.out]
  refine Calls.mono KP.out ?_
  rintro e w1 ⟨rfl, b1⟩
  go_wp2
  go_ret
  exact ⟨rfl, below2 KB0.out b1⟩
set_option maxHeartbeats 4000000 in
theorem eqSys_same (a b : Option Addr) (n ca cb : Nat) (S : Nat → Sy) (w : World) (ha : Rd w (sysD n S) (.slice a n ca)) (hb : Rd w (sysD n S) (.slice b n cb)) (hn : n ≤ 1048576) (hs : ∀ i, i < n → (S i).p.m ≤ 1048576) :
    Calls Tryz.prog 16 #[.slice a n ca, .slice b n cb] w fun e w' => e = .returned (.bool true) ∧ Below w.heap.size w w' := by
  have KH : Hid (Rd w (sysD n S) (.slice a n ca) ∧ Rd w (sysD n S) (.slice b n cb)) := ⟨ha, hb⟩
  have HS : Hid (∀ i, i < n → (S i).p.m ≤ 1048576) := hs
  have hnn : ((n : Int) != (n : Int)) = false := by simp
  clear ha hb hs
  go_enter Tryz.func16, Tryz.ntmps16
  go_wp2
  go_loopw [5] (fun vi wr => ∃ c : Nat, c ≤ n ∧ vi = .int .i64 (c : Int) ∧ Below w.heap.size w wr) (fun vi _ => n - (intOf vi).toNat)
  case atStart => exact ⟨0, Nat.zero_le _, rfl, Below.refl _ _⟩
  case round =>
    obtain ⟨c, hcn, rfl, hbel⟩ := hrel
    by_cases hlt : c < n
    · have hki : (c : Int) < (n : Int) := by omega
      obtain ⟨b1, f1, y1, p9, q9, rfl, hc1, e1, ht1⟩ := say_row (KH.out.1.below hbel) hlt
      obtain ⟨b2, f2, y2, s9, t9, rfl, hc2, e2, ht2⟩ := say_row (KH.out.2.below hbel) hlt
      have hsc := HS.out c hlt
      have KT : Hid (∀ W, Below wr.heap.size wr W → Calls Tryz.prog 17 #[ag10 y1, ag10 y2] W fun e w' => e = .returned (.bool true) ∧ Below W.heap.size W w') := fun W hW => by
        rw [e1, e2]
        exact eqSy_same (S c) p9 s9 q9 t9 W (ht1.below hW) (ht2.below hW) hsc
      have KS : Hid (∀ W, Below wr.heap.size wr W → W.cell? ⟨b1, f1 + c * 10, none⟩ = some (y1 0) ∧ (∀ q, q < 10 → W.cell? ⟨b1, f1 + c * 10 + q, none⟩ = some (y1 q)) ∧ W.cell? ⟨b2, f2 + c * 10, none⟩ = some (y2 0) ∧ (∀ q, q < 10 → W.cell? ⟨b2, f2 + c * 10 + q, none⟩ = some (y2 q))) := fun W hW => two_rows W hW hc1 hc2
      have KB : Hid (Below w.heap.size w wr) := hbel
      have hdr := below_drew wr
      clear hc1 hc2 ht1 ht2 hbel e1 e2 hsc
      go_wp2_with fail
      go_region_held3 (fun w' => w'.cell? ⟨b1, f1 + c * 10, none⟩ = some (y1 0) ∧ (∀ q, q < 10 → w'.cell? ⟨b1, f1 + c * 10 + q, none⟩ = some (y1 q)) ∧ w'.cell? ⟨b2, f2 + c * 10, none⟩ = some (y2 0) ∧ (∀ q, q < 10 → w'.cell? ⟨b2, f2 + c * 10 + q, none⟩ = some (y2 q))) (exact KS.out _ (by assumption)) ((go_at_call 17; refine Calls.mono (KT.out _ hdr) ?_; rintro e w7 ⟨rfl, b7'⟩; have b7 := below_of_drew b7'; clear b7'))
      all_goals
        have HB7 : Hid (Below w.heap.size w w7) := below2 KB.out b7
        clear b7
        go_wp2
        go_roundw
        case rel => exact ⟨c + 1, by omega, by go_num, HB7.out⟩
        case measure => simp [intOf]; omega
    · go_wp2
      go_ret
      exact ⟨rfl, hbel⟩
end Go.Proofs.YtgiegoamcfjfmaaGreat
/- A new node, in the program and in the model; a node's F and number. No condition. -/
namespace Go.Proofs.YtgiegoamcfjfmaaGreat
set_option maxRecDepth 2000
open Go.ChangeShapes Go.WideShapes Go.ChangeAt Go.RowKit

/-- F and the number are so. -/
def seB (id f : Int) : Bool := decide (1 ≤ f ∧ f ≤ 3 ∧ 0 ≤ id ∧ id < 3 * f + 1)
def fB (f : Int) : Bool := decide (1 ≤ f ∧ f ≤ 3)
abbrev ndV (id f : Int) (v : Value) : Value := .agg #[.int .i64 id, .int .i64 f, v]
theorem three_wrap {f : Int} (h : 1 ≤ f ∧ f ≤ 3) : IntKind.i64.wrap (3 * f) = 3 * f ∧ IntKind.i64.wrap (3 * f + 1) = 3 * f + 1 := by
  constructor <;> (rw [IntKind.wrap_i64]; omega)
set_option maxHeartbeats 1000000 in
theorem isF_any (f : Int) (w : World) : Calls Tryz.prog 87 #[.int .i64 f] w fun e w' => e = .returned (.bool (fB f)) ∧ w' = w := by
  by_cases h1 : 1 ≤ f
  · by_cases h2 : f ≤ 3
    · have e : fB f = true := decide_eq_true ⟨h1, h2⟩
      rw [e]
      go_enter Tryz.func87, Tryz.ntmps87
      go_wp2
      go_ret
      exact ⟨rfl, rfl⟩
    · have e : fB f = false := decide_eq_false (fun h => h2 h.2)
      rw [e]
      go_enter Tryz.func87, Tryz.ntmps87
      go_wp2
      go_ret
      exact ⟨rfl, rfl⟩
  · have e : fB f = false := decide_eq_false (fun h => h1 h.1)
    rw [e]
    go_enter Tryz.func87, Tryz.ntmps87
    go_wp2
    go_ret
    exact ⟨rfl, rfl⟩
theorem nodeCount_any (f : Int) (w : World) (h : 1 ≤ f ∧ f ≤ 3) : Calls Tryz.prog 90 #[.int .i64 f] w fun e w' => e = .returned (.int .i64 (3 * f + 1)) ∧ w' = w := by
  obtain ⟨e1, e2⟩ := three_wrap h
  go_enter Tryz.func90, Tryz.ntmps90
  go_wp2
  go_ret
  exact ⟨rfl, rfl⟩
theorem pieceNeed_any (f : Int) (w : World) (h : 1 ≤ f ∧ f ≤ 3) : Calls Tryz.prog 89 #[.int .i64 f] w fun e w' => e = .returned (.int .i64 (f + 1)) ∧ w' = w := by
  have e1 : IntKind.i64.wrap (f + 1) = f + 1 := by rw [IntKind.wrap_i64]; omega
  go_enter Tryz.func89, Tryz.ntmps89
  go_wp2
  go_ret
  exact ⟨rfl, rfl⟩
theorem sAllN_any (f : Int) (w : World) (h : 1 ≤ f ∧ f ≤ 3) : Calls Tryz.prog 66 #[.int .i64 f] w fun e w' => e = .returned (.int .i64 (3 * f + 1)) ∧ w' = w := by
  obtain ⟨e1, e2⟩ := three_wrap h
  go_enter Tryz.func66, Tryz.ntmps66
  go_wp2
  go_ret
  exact ⟨rfl, rfl⟩
set_option maxHeartbeats 1000000 in
theorem knows_any (id f x : Int) (v : Value) (w : World) (h : 1 ≤ f ∧ f ≤ 3) : Calls Tryz.prog 133 #[ndV id f v, .int .i64 x] w fun e w' => e = .returned (.bool (decide (0 ≤ x ∧ x < 3 * f + 1))) ∧ Below w.heap.size w w' := by
  have KN : Hid (∀ W, Calls Tryz.prog 90 #[.int .i64 f] W fun e w' => e = .returned (.int .i64 (3 * f + 1)) ∧ w' = W) := fun W => nodeCount_any f W h
  have KB : Hid (Below w.heap.size w (w.alloc (.cells #[.int .i64 id, .int .i64 f, v] 34))) := (Below.refl _ _).alloc (Nat.le_refl _) _
  obtain ⟨m, HM⟩ : ∃ m, Hid (3 * f + 1 = m) := ⟨_, rfl⟩
  rw [HM.out] at KN ⊢
  by_cases h1 : 0 ≤ x
  · have h1' : x ≥ 0 := h1
    by_cases h2 : x < m
    · have e : decide (0 ≤ x ∧ x < m) = true := decide_eq_true ⟨h1, h2⟩
      rw [e]
      go_enter Tryz.func133, Tryz.ntmps133
      go_wp2_with (go_at_call 90; refine Calls.mono (KN.out _) ?_; rintro e w' ⟨rfl, hw⟩; obtain rfl := hw.symm; clear hw)
      go_ret
      exact ⟨rfl, KB.out⟩
    · have e : decide (0 ≤ x ∧ x < m) = false := decide_eq_false (fun h => h2 h.2)
      rw [e]
      go_enter Tryz.func133, Tryz.ntmps133
      go_wp2_with (go_at_call 90; refine Calls.mono (KN.out _) ?_; rintro e w' ⟨rfl, hw⟩; obtain rfl := hw.symm; clear hw)
      go_ret
      exact ⟨by simp [h2], KB.out⟩
  · have h1' : ¬ x ≥ 0 := h1
    have e : decide (0 ≤ x ∧ x < m) = false := decide_eq_false (fun h => h1 h.1)
    rw [e]
    go_enter Tryz.func133, Tryz.ntmps133
    go_wp2_with (go_at_call 90; refine Calls.mono (KN.out _) ?_; rintro e w' ⟨rfl, hw⟩; obtain rfl := hw.symm; clear hw)
    go_ret
    exact ⟨rfl, KB.out⟩
set_option maxHeartbeats 1000000 in
theorem isSeated_any (id f : Int) (v : Value) (w : World) : Calls Tryz.prog 93 #[ndV id f v] w fun e w' => e = .returned (.bool (seB id f)) ∧ Below w.heap.size w w' := by
  obtain ⟨w0, HW0⟩ : ∃ x, Hid (x = w.alloc (.cells #[.int .i64 id, .int .i64 f, v] 34)) := ⟨_, rfl⟩
  have KB : Hid (Below w.heap.size w w0) := by show Below _ _ _; rw [HW0.out]; exact (Below.refl _ _).alloc (Nat.le_refl _) _
  obtain ⟨A, HA⟩ : ∃ x, Hid (x = w.heap.size) := ⟨_, rfl⟩
  have HR : Hid (Row w0 A 34 #[.int .i64 id, .int .i64 f, v]) := by show Row _ _ _ _; rw [HW0.out, HA.out]; exact Row.new w _ _
  have KF : Hid (∀ W, Calls Tryz.prog 87 #[.int .i64 f] W fun e w' => e = .returned (.bool (fB f)) ∧ w' = W) := isF_any f
  by_cases hf : 1 ≤ f ∧ f ≤ 3
  · have e : fB f = true := decide_eq_true hf
    have HE : Hid (decide (0 ≤ id ∧ id < 3 * f + 1) = seB id f) := by
      show _ = _
      unfold seB
      simp [hf.1, hf.2]
    have KK : Hid (Calls Tryz.prog 133 #[ndV id f v, .int .i64 id] w0 fun e w' => e = .returned (.bool (seB id f)) ∧ Below w0.heap.size w0 w') := by
      have := knows_any id f id v w0 hf
      rw [HE.out] at this
      exact this
    rw [e] at KF
    have x0 := HR.out.cell 0
    have x1 := HR.out.cell 1
    have x2 := HR.out.cell 2
    simp at x0 x1 x2
    go_enter Tryz.func93, Tryz.ntmps93
    go_wp2_with fail
    rw [← HW0.out, ← HA.out]
    refine Calls.mono (KF.out _) ?_
    rintro e w' ⟨rfl, hw⟩
    obtain rfl := hw.symm
    clear hw
    go_wp2_with fail
    refine Calls.mono KK.out ?_
    rintro e w1 ⟨rfl, b1⟩
    go_wp2
    go_ret
    exact ⟨rfl, below2 KB.out b1⟩
  · have e : fB f = false := decide_eq_false hf
    have e2 : seB id f = false := decide_eq_false (fun h => hf ⟨h.1, h.2.1⟩)
    rw [e] at KF
    rw [e2]
    go_enter Tryz.func93, Tryz.ntmps93
    go_wp2_with fail
    rw [← HW0.out, ← HA.out]
    refine Calls.mono (KF.out _) ?_
    rintro e w' ⟨rfl, hw⟩
    obtain rfl := hw.symm
    clear hw
    go_wp2
    go_ret
    exact ⟨rfl, KB.out⟩
end Go.Proofs.YtgiegoamcfjfmaaGreat
/- What the exact laws count of slots and nodes. Conditions: what each says. -/
namespace Go.Proofs.YtgiegoamcfjfmaaGreat
set_option maxRecDepth 2000
open Go.ChangeShapes Go.WideShapes Go.ChangeAt Go.RowKit

/-- What is left of l behind a weight, or -1. -/
def szN (l x : Nat) : Int := if x ≤ l then ((l - x : Nat) : Int) else -1
theorem szN_yes {l x : Nat} (h : x ≤ l) : szN l x = ((l - x : Nat) : Int) := if_pos h
theorem szN_no {l x : Nat} (h : ¬ x ≤ l) : szN l x = -1 := if_neg h
def wtP (p : Pc) : Nat := p.r.size + p.b.size + (p.m + tot (fun i => (p.S i).size) p.m)
def wtS (s : Sl) : Nat := s.r.size + wtP s.p + s.ze.length + s.zr.length
theorem szPc_eq (p : Pc) (l : Nat) : szPc p.r p.b p.m p.S l = szN l (wtP p) := by
  by_cases h : wtP p ≤ l
  · rw [szN_yes h]; exact szPc_yes h
  · rw [szN_no h]; exact szPc_no h
/-- What the form tells of a slot that came in. -/
structure SlI (w : World) (s : Sl) (a6 : Option Addr) : Prop where
  r : s.r.size ≤ maxLen
  pr : s.p.r.size ≤ maxLen
  pb : s.p.b.size ≤ maxLen
  tx : IsTxt w a6 s.p.m s.p.S
  ne : s.ze.length ≤ maxLen
  nr : s.zr.length ≤ maxLen
theorem szI_any (a : Option Addr) (n cap l : Nat) (w : World) (hn : n ≤ maxLen) (hl : l ≤ 1048576) : Calls Tryz.prog 104 #[.slice a n cap, .int .i64 (l : Int)] w fun e w' => e = .returned (.int .i64 (szN l n)) ∧ w' = w := by
  unfold maxLen at hn
  by_cases h : n ≤ l
  · rw [szN_yes h]
    obtain ⟨d, hd⟩ : ∃ d, l - n = d := ⟨_, rfl⟩
    rw [hd]
    have e : IntKind.i64.wrap ((l : Int) - (n : Int)) = (d : Int) := by rw [IntKind.wrap_i64]; omega
    have h0 : ¬ ((d : Int) < 0) := by omega
    go_enter Tryz.func104, Tryz.ntmps104
    go_wp2
    go_ret
    exact ⟨rfl, rfl⟩
  · rw [szN_no h]
    have e : IntKind.i64.wrap ((l : Int) - (n : Int)) = (l : Int) - (n : Int) := by rw [IntKind.wrap_i64]; omega
    have h0 : (l : Int) - (n : Int) < 0 := by omega
    go_enter Tryz.func104, Tryz.ntmps104
    go_wp2
    go_ret
    exact ⟨rfl, rfl⟩
set_option maxHeartbeats 4000000 in
theorem szSl_any (s : Sl) (a6 a11 a12 : Option Addr) (c6 c11 c12 l : Nat) (w : World) (h : SlI w s a6) (hl : l ≤ 1048576) :
    Calls Tryz.prog 127 #[slV s (.slice a6 s.p.m c6) (.slice a11 s.ze.length c11) (.slice a12 s.zr.length c12), .int .i64 (l : Int)] w fun e w' => e = .returned (.int .i64 (szN l (wtS s))) ∧ Below w.heap.size w w' := by
  obtain ⟨r, p, fh, fe, fd, fo, ze, zr⟩ := s
  obtain ⟨hr, hpr, hpb, htx, hne, hnr⟩ := h
  simp only at hr hpr hpb htx hne hnr
  have HWT : Hid (wtS ⟨r, p, fh, fe, fd, fo, ze, zr⟩ = r.size + wtP p + ze.length + zr.length) := rfl
  rw [HWT.out]
  simp only
  obtain ⟨A, HA⟩ : ∃ x, Hid (x = w.heap.size) := ⟨_, rfl⟩
  obtain ⟨w0, HW0⟩ : ∃ x, Hid (x = w.alloc (.cells (slC ⟨r, p, fh, fe, fd, fo, ze, zr⟩ (.slice a6 p.m c6) (.slice a11 ze.length c11) (.slice a12 zr.length c12)) 168)) := ⟨_, rfl⟩
  have RA : Hid (Row w0 A 168 (slC ⟨r, p, fh, fe, fd, fo, ze, zr⟩ (.slice a6 p.m c6) (.slice a11 ze.length c11) (.slice a12 zr.length c12))) := by
    show Row _ _ _ _
    rw [HW0.out, HA.out]
    exact Row.new w _ _
  have hb0 : Below w.heap.size w w0 := by rw [HW0.out]; exact (Below.refl _ _).alloc (Nat.le_refl _) _
  have KB0 : Hid (Below w.heap.size w w0) := hb0
  have KP : Hid (∀ l1 : Nat, l1 ≤ 1048576 → Calls Tryz.prog 62 #[pcV p.r p.k p.n p.i p.b (.slice a6 p.m c6), .int .i64 (l1 : Int)] w0 fun e w' => e = .returned (.int .i64 (szN l1 (wtP p))) ∧ Below w0.heap.size w0 w') := fun l1 h1 => by
    rw [← szPc_eq]
    exact szPc_any p.r p.k p.n p.i p.b a6 p.m c6 p.S l1 w0 (htx.1.below hb0) h1 htx.2.1 htx.2.2 hpr hpb
  have KE : Hid (∀ (l1 : Nat) W, l1 ≤ 1048576 → Calls Tryz.prog 104 #[.slice a11 ze.length c11, .int .i64 (l1 : Int)] W fun e w' => e = .returned (.int .i64 (szN l1 ze.length)) ∧ w' = W) := fun l1 W h1 => szI_any a11 _ c11 l1 W hne h1
  have KZ : Hid (∀ (l1 : Nat) W, l1 ≤ 1048576 → Calls Tryz.prog 104 #[.slice a12 zr.length c12, .int .i64 (l1 : Int)] W fun e w' => e = .returned (.int .i64 (szN l1 zr.length)) ∧ w' = W) := fun l1 W h1 => szI_any a12 _ c12 l1 W hnr h1
  obtain ⟨pr, pk, pn, pi, pb, m, S⟩ := p
  simp only at *
  obtain ⟨x, hx⟩ : ∃ x, r.size = x := ⟨_, rfl⟩
  rw [hx] at hr ⊢
  unfold maxLen at hr
  generalize ze.length = le at *
  generalize zr.length = lr at *
  generalize wtP ⟨pr, pk, pn, pi, pb, m, S⟩ = wp at *
  clear hpr hpb htx hne hnr hb0 HWT
  by_cases h1 : x ≤ l
  case neg =>
    rw [szN_no (by omega)]
    have e1 : IntKind.i64.wrap ((l : Int) - (x : Int)) = (l : Int) - (x : Int) := by rw [IntKind.wrap_i64]; omega
    have n1 : (l : Int) - (x : Int) < 0 := by omega
    go_enter Tryz.func127, Tryz.ntmps127
    go_wp2
    go_ret
    exact ⟨rfl, by rw [← HW0.out]; exact KB0.out⟩
  obtain ⟨l1, hl1⟩ : ∃ l1, l = x + l1 := ⟨l - x, by omega⟩
  have e1 : IntKind.i64.wrap ((l : Int) - (x : Int)) = (l1 : Int) := by rw [IntKind.wrap_i64]; omega
  have n1 : ¬ ((l1 : Int) < 0) := by omega
  have KP1 : Hid _ := KP.out l1 (by omega)
  by_cases h2 : wp ≤ l1
  case neg =>
    rw [szN_no (by omega)]
    rw [szN_no h2] at KP1
    clear hl1
    go_enter Tryz.func127, Tryz.ntmps127
    go_wp2_with fail
    rw [← HW0.out]
    refine Calls.mono KP1.out ?_
    rintro e w1 ⟨rfl, b1⟩
    go_wp2
    go_ret
    exact ⟨rfl, below2 KB0.out b1⟩
  obtain ⟨l2, hl2⟩ : ∃ l2, l1 = wp + l2 := ⟨l1 - wp, by omega⟩
  have n2 : ¬ ((l2 : Int) < 0) := by omega
  rw [szN_yes h2, show l1 - wp = l2 by omega] at KP1
  have KE1 : Hid (∀ W, _) := fun W => KE.out l2 W (by omega)
  by_cases h3 : le ≤ l2
  case neg =>
    rw [szN_no (by omega)]
    rw [szN_no h3] at KE1
    clear hl1 hl2
    go_enter Tryz.func127, Tryz.ntmps127
    go_wp2_with fail
    rw [← HW0.out, ← HA.out]
    refine Calls.mono KP1.out ?_
    rintro e w1 ⟨rfl, b1⟩
    have x11 := (RA.out.below b1 RA.out.lt).cell 11
    simp at x11
    go_wp2_with fail
    refine Calls.mono (KE1.out _) ?_
    rintro e w2 ⟨rfl, hw⟩
    obtain rfl := hw.symm
    clear hw
    go_wp2
    go_ret
    exact ⟨rfl, below2 KB0.out b1⟩
  obtain ⟨l3, hl3⟩ : ∃ l3, l2 = le + l3 := ⟨l2 - le, by omega⟩
  have n3 : ¬ ((l3 : Int) < 0) := by omega
  rw [szN_yes h3, show l2 - le = l3 by omega] at KE1
  have KZ1 : Hid (∀ W, _) := fun W => KZ.out l3 W (by omega)
  by_cases h4 : lr ≤ l3
  case neg =>
    rw [szN_no (by omega)]
    rw [szN_no h4] at KZ1
    clear hl1 hl2 hl3
    go_enter Tryz.func127, Tryz.ntmps127
    go_wp2_with fail
    rw [← HW0.out, ← HA.out]
    refine Calls.mono KP1.out ?_
    rintro e w1 ⟨rfl, b1⟩
    have x11 := (RA.out.below b1 RA.out.lt).cell 11
    have x12 := (RA.out.below b1 RA.out.lt).cell 12
    simp at x11 x12
    go_wp2_with fail
    refine Calls.mono (KE1.out _) ?_
    rintro e w2 ⟨rfl, hw⟩
    obtain rfl := hw.symm
    clear hw
    go_wp2_with fail
    refine Calls.mono (KZ1.out _) ?_
    rintro e w3 ⟨rfl, hw⟩
    obtain rfl := hw.symm
    clear hw
    go_wp2
    go_ret
    exact ⟨rfl, below2 KB0.out b1⟩
  obtain ⟨l4, hl4⟩ : ∃ l4, l3 = lr + l4 := ⟨l3 - lr, by omega⟩
  have n4 : ¬ ((l4 : Int) < 0) := by omega
  rw [szN_yes h4, show l3 - lr = l4 by omega] at KZ1
  rw [szN_yes (by omega), show l - (x + wp + le + lr) = l4 by omega]
  clear hl1 hl2 hl3 hl4
  go_enter Tryz.func127, Tryz.ntmps127
  go_wp2_with fail
  rw [← HW0.out, ← HA.out]
  refine Calls.mono KP1.out ?_
  rintro e w1 ⟨rfl, b1⟩
  have x11 := (RA.out.below b1 RA.out.lt).cell 11
  have x12 := (RA.out.below b1 RA.out.lt).cell 12
  simp at x11 x12
  go_wp2_with fail
  refine Calls.mono (KE1.out _) ?_
  rintro e w2 ⟨rfl, hw⟩
  obtain rfl := hw.symm
  clear hw
  go_wp2_with fail
  refine Calls.mono (KZ1.out _) ?_
  rintro e w3 ⟨rfl, hw⟩
  obtain rfl := hw.symm
  clear hw
  go_wp2
  go_ret
  exact ⟨rfl, below2 KB0.out b1⟩
/-- The same without its memory. -/
structure SlB (s : Sl) : Prop where
  r : s.r.size ≤ maxLen
  pr : s.p.r.size ≤ maxLen
  pb : s.p.b.size ≤ maxLen
  m : s.p.m ≤ maxLen
  tx : ∀ i, i < s.p.m → (s.p.S i).size ≤ maxLen
  ne : s.ze.length ≤ maxLen
  nr : s.zr.length ≤ maxLen
theorem SlB.i {s : Sl} (h : SlB s) {w : World} {a6 : Option Addr} (ht : TxtAt w a6 s.p.m s.p.S) : SlI w s a6 := ⟨h.r, h.pr, h.pb, ⟨ht, h.m, h.tx⟩, h.ne, h.nr⟩
def wtL (n : Nat) (S : Nat → Sl) : Nat := n + tot (fun i => wtS (S i)) n
theorem Tryz.infoSlL : (Tryz.prog.info? 168).map (·.size) = some 13 := by kernel_rfl
set_option maxHeartbeats 4000000 in
theorem szSls_any (a : Option Addr) (n cap : Nat) (S : Nat → Sl) (l : Nat) (w : World) (h : Rd w (slsD n S) (.slice a n cap)) (hl : l ≤ 1048576) (hn : n ≤ maxLen) (hL : ∀ i, i < n → SlB (S i)) :
    Calls Tryz.prog 61 #[.slice a n cap, .int .i64 (l : Int)] w fun e w' => e = .returned (.int .i64 (szN l (wtL n S))) ∧ Below w.heap.size w w' := by
  unfold maxLen at hn
  by_cases h1 : n ≤ l
  · obtain ⟨d, hd⟩ : ∃ d, l - n = d := ⟨_, rfl⟩
    have hw : IntKind.i64.wrap ((l : Int) - (n : Int)) = (d : Int) := by rw [IntKind.wrap_i64]; omega
    have h0 : ¬ ((d : Int) < 0) := by omega
    have KL : Hid (∀ i, i < n → SlB (S i)) := hL
    have KH : Hid (Rd w (slsD n S) (.slice a n cap)) := h
    clear hL h
    go_enter Tryz.func61, Tryz.ntmps61
    go_wp2
    go_loopw [1, 5] (fun p i wr => ∃ c q : Nat, c ≤ n ∧ q ≤ 1048576 ∧ Hid (tot (fun i => wtS (S i)) c + q = d) ∧ p = .int .i64 (q : Int) ∧ i = .int .i64 (c : Int) ∧ Below w.heap.size w wr) (fun _ i _ => n - (intOf i).toNat)
    case atStart => exact ⟨0, d, Nat.zero_le _, by omega, by show 0 + d = d; omega, rfl, rfl, Below.refl _ _⟩
    case round =>
      obtain ⟨c, q, hc, hq, HT, rfl, rfl, hbel⟩ := hrel
      clear hw h0
      by_cases hlt : c < n
      · obtain ⟨b1, f1, y1, p6, p11, p12, q6, q11, q12, rfl, hc1, e1, ht1, he1, hz1⟩ := slot_row (KH.out.below hbel) hlt
        have hti := tot_le (fun i => wtS (S i)) hlt
        have hlti : (c : Int) < (n : Int) := by omega
        have HT' := HT.out
        obtain ⟨lc, HLC⟩ : ∃ x, Hid (wtS (S c) = x) := ⟨_, rfl⟩
        have KTS : Hid (tot (fun i => wtS (S i)) (c + 1) = tot (fun i => wtS (S i)) c + lc) := by rw [← HLC.out]; rfl
        have hti' : tot (fun i => wtS (S i)) c + lc ≤ tot (fun i => wtS (S i)) n := by rw [← HLC.out]; exact hti
        have KZ : Hid (Calls Tryz.prog 127 #[ag13 y1, .int .i64 (q : Int)] wr fun e w' => e = .returned (.int .i64 (szN q lc)) ∧ Below wr.heap.size wr w') := by
          rw [e1, ← HLC.out]
          exact szSl_any (S c) p6 p11 p12 q6 q11 q12 q wr ((KL.out c hlt).i ht1) hq
        obtain ⟨_, x⟩ := one_row (sz := 12) wr (Below.refl _ _) hc1
        have R1 : Hid (wr.rangeAt b1 (f1 + c * 13) [y1 0, y1 1, y1 2, y1 3, y1 4, y1 5, y1 6, y1 7, y1 8, y1 9, y1 10, y1 11, y1 12]) := range13 x
        have KB : Hid (Below w.heap.size w wr) := hbel
        clear hti hc1 e1 ht1 he1 hz1 x hbel
        by_cases h2 : lc ≤ q
        · obtain ⟨q', hq'⟩ : ∃ q', q - lc = q' := ⟨_, rfl⟩
          have h3 : ¬ ((q' : Int) < 0) := by omega
          have HT2 : Hid (tot (fun i => wtS (S i)) (c + 1) + q' = d) := by show _ = _; rw [KTS.out]; omega
          have hq2 : q' ≤ 1048576 := by omega
          rw [szN_yes h2, hq'] at KZ
          clear HT HT' hti' KTS
          go_wp2_with (refine wpList_load_mid (by rfl) 168 _ (by rfl) b1 (f1 + c * 13) (by rfl) _ _ R1.out Tryz.underlying168 (by rfl) Tryz.infoSlL ?_)
          refine Calls.mono KZ.out ?_
          rintro e w1 ⟨rfl, bb⟩
          have KB1 : Hid (Below w.heap.size w w1) := below2 KB.out bb
          clear bb KZ R1
          go_wp2
          go_roundw
          case rel => exact ⟨c + 1, q', by omega, hq2, HT2, rfl, by go_num, KB1.out⟩
          case measure => simp [intOf] <;> omega
        · have HR : Hid (szN l (wtL n S) = -1) := szN_no (by unfold wtL; omega)
          rw [szN_no h2] at KZ
          clear HT HT' hti' KTS
          go_wp2_with (refine wpList_load_mid (by rfl) 168 _ (by rfl) b1 (f1 + c * 13) (by rfl) _ _ R1.out Tryz.underlying168 (by rfl) Tryz.infoSlL ?_)
          refine Calls.mono KZ.out ?_
          rintro e w1 ⟨rfl, bb⟩
          have KB1 : Hid (Below w.heap.size w w1) := below2 KB.out bb
          clear bb KZ R1
          go_wp2
          go_ret
          exact ⟨ret_int HR.out.symm, KB1.out⟩
      · obtain rfl : c = n := by omega
        have HR : Hid (szN l (wtL c S) = (q : Int)) := by
          have := HT.out
          have e : l - (c + tot (fun i => wtS (S i)) c) = q := by omega
          exact (szN_yes (by unfold wtL; omega)).trans (by unfold wtL; rw [e])
        clear KH
        go_wp2
        go_ret
        exact ⟨ret_int HR.out.symm, hbel⟩
  · have h0 : (l : Int) - (n : Int) < 0 := by omega
    have hw : IntKind.i64.wrap ((l : Int) - (n : Int)) = (l : Int) - (n : Int) := by rw [IntKind.wrap_i64]; omega
    have HR : Hid (szN l (wtL n S) = -1) := szN_no (by unfold wtL; omega)
    clear h hL
    go_enter Tryz.func61, Tryz.ntmps61
    go_wp2
    go_ret
    exact ⟨ret_int HR.out.symm, Below.refl _ _⟩
set_option maxHeartbeats 1000000 in
theorem szNd_any (id f : Int) (a : Option Addr) (n cap : Nat) (S : Nat → Sl) (l : Nat) (w : World) (h : Rd w (slsD n S) (.slice a n cap)) (hl : l ≤ 1048576) (hn : n ≤ maxLen) (hL : ∀ i, i < n → SlB (S i)) :
    Calls Tryz.prog 9 #[.agg #[.int .i64 id, .int .i64 f, .slice a n cap], .int .i64 (l : Int)] w fun e w' => e = .returned (.int .i64 (szN l (wtL n S))) ∧ Below w.heap.size w w' := by
  obtain ⟨w0, HW0⟩ : ∃ x, Hid (x = w.alloc (.cells #[.int .i64 id, .int .i64 f, .slice a n cap] 24)) := ⟨_, rfl⟩
  have hb0 : Below w.heap.size w w0 := by rw [HW0.out]; exact (Below.refl _ _).alloc (Nat.le_refl _) _
  have KB0 : Hid (Below w.heap.size w w0) := hb0
  have KZ : Hid _ := szSls_any a n cap S l w0 (h.below hb0) hl hn hL
  clear h hL hb0
  by_cases h1 : wtL n S ≤ l
  · obtain ⟨d, hd⟩ : ∃ d, l - wtL n S = d := ⟨_, rfl⟩
    rw [szN_yes h1, hd] at KZ
    rw [szN_yes h1, hd]
    have h0 : ¬ ((d : Int) < 0) := by omega
    clear h1 hd
    go_enter Tryz.func9, Tryz.ntmps9
    go_wp2_with fail
    rw [← HW0.out]
    refine Calls.mono KZ.out ?_
    rintro e w1 ⟨rfl, b1⟩
    go_wp2
    go_ret
    exact ⟨rfl, below2 KB0.out b1⟩
  · rw [szN_no h1] at KZ
    rw [szN_no h1]
    clear h1
    go_enter Tryz.func9, Tryz.ntmps9
    go_wp2_with fail
    rw [← HW0.out]
    refine Calls.mono KZ.out ?_
    rintro e w1 ⟨rfl, b1⟩
    go_wp2
    go_ret
    exact ⟨rfl, below2 KB0.out b1⟩
end Go.Proofs.YtgiegoamcfjfmaaGreat
/- Lists of nodes' numbers, how far a slot is brought, and whose a piece is: in the program and in the model. Conditions: F from 1 to 3, lists of at most 2^20. -/
namespace Go.Proofs.YtgiegoamcfjfmaaGreat
set_option maxRecDepth 2000
open Go.ChangeShapes Go.WideShapes Go.ChangeAt Go.RowKit

/-- Nodes' numbers, ascending. -/
def NumP (f : Int) (zs : List Int) : Prop := ∀ i, i < zs.length → (0 ≤ zs.getD i 0 ∧ zs.getD i 0 < 3 * f + 1) ∧ (0 < i → zs.getD (i - 1) 0 < zs.getD i 0)
noncomputable def numB (f : Int) (zs : List Int) : Bool := @decide (NumP f zs) (Classical.propDecidable _)
theorem numB_yes {f : Int} {zs : List Int} (h : NumP f zs) : numB f zs = true := by unfold numB; exact @decide_eq_true _ (Classical.propDecidable _) h
theorem numB_no {f : Int} {zs : List Int} (h : ¬ NumP f zs) : numB f zs = false := by unfold numB; exact @decide_eq_false _ (Classical.propDecidable _) h
set_option maxHeartbeats 4000000 in
theorem areNodes_any (id f : Int) (v : Value) (a : Option Addr) (n cap : Nat) (zs : List Int) (w : World) (h : IntsAt w a n zs) (hf : 1 ≤ f ∧ f ≤ 3) (hn : n ≤ 1048576) :
    Calls Tryz.prog 157 #[ndV id f v, .slice a n cap] w fun e w' => e = .returned (.bool (numB f zs)) ∧ Below w.heap.size w w' := by
  obtain ⟨A, HA⟩ : ∃ x, Hid (x = w.heap.size) := ⟨_, rfl⟩
  obtain ⟨w0, HW0⟩ : ∃ x, Hid (x = w.alloc (.cells #[.int .i64 id, .int .i64 f, v] 34)) := ⟨_, rfl⟩
  have HR : Hid (Row w0 A 34 #[.int .i64 id, .int .i64 f, v]) := by show Row _ _ _ _; rw [HW0.out, HA.out]; exact Row.new w _ _
  have hb0 : Below w.heap.size w w0 := by rw [HW0.out]; exact (Below.refl _ _).alloc (Nat.le_refl _) _
  have KB0 : Hid (Below w.heap.size w w0) := hb0
  have KI : Hid (IntsAt w0 a n zs) := h.below hb0
  have hl : zs.length = n := h.1
  have KK : Hid (∀ x W, Calls Tryz.prog 133 #[ndV id f v, .int .i64 x] W fun e w' => e = .returned (.bool (decide (0 ≤ x ∧ x < 3 * f + 1))) ∧ Below W.heap.size W w') := fun x W => knows_any id f x v W hf
  clear h hb0 hf
  go_enter Tryz.func157, Tryz.ntmps157
  go_wp2
  rw [← HW0.out, ← HA.out]
  go_loopw [9] (fun vi wr => ∃ k : Nat, k ≤ n ∧ vi = .int .i64 (k : Int) ∧ Hid (∀ i, i < k → (0 ≤ zs.getD i 0 ∧ zs.getD i 0 < 3 * f + 1) ∧ (0 < i → zs.getD (i - 1) 0 < zs.getD i 0)) ∧ Below w0.heap.size w0 wr) (fun vi _ => n - (intOf vi).toNat)
  case atStart => exact ⟨0, Nat.zero_le _, rfl, fun i hi => absurd hi (Nat.not_lt_zero _), Below.refl _ _⟩
  case round =>
    obtain ⟨k, hk, rfl, HP, hbel⟩ := hrel
    by_cases hlt : k < n
    · have hki : (k : Int) < (n : Int) := by omega
      obtain ⟨b, off, rfl, hc⟩ := (KI.out.below hbel).some (by omega)
      have hck := hc k hlt
      have R1 := HR.out.below hbel HR.out.lt
      have x0 := R1.cell 0
      have x1 := R1.cell 1
      have x2 := R1.cell 2
      simp at x0 x1 x2
      have KB : Hid (Below w0.heap.size w0 wr) := hbel
      have lb := block_lt_of_cell hck
      obtain ⟨z, HZ⟩ : ∃ z, Hid (zs.getD k 0 = z) := ⟨_, rfl⟩
      rw [HZ.out] at hck
      have KN : Hid _ := KK.out z wr
      by_cases hz : 0 ≤ z ∧ z < 3 * f + 1
      · rw [decide_eq_true hz] at KN
        by_cases k0 : k = 0
        · subst k0
          have HP2 : Hid (∀ i, i < 0 + 1 → (0 ≤ zs.getD i 0 ∧ zs.getD i 0 < 3 * f + 1) ∧ (0 < i → zs.getD (i - 1) 0 < zs.getD i 0)) := fun i hi => by
            obtain rfl : i = 0 := by omega
            rw [HZ.out]
            exact ⟨hz, fun h => absurd h (by omega)⟩
          simp only [Nat.add_zero] at hck
          clear hc R1 hbel hz HP
          go_wp2_with fail
          refine Calls.mono KN.out ?_
          rintro e w1 ⟨rfl, b1⟩
          have KB1 : Hid (Below w0.heap.size w0 w1) := below2 KB.out b1
          clear b1 KN x0 x1 x2
          go_wp2
          go_roundw
          case rel => exact ⟨0 + 1, by omega, by go_num, HP2, KB1.out⟩
          case measure => simp [intOf]; omega
        · have k0i : (k : Int) > 0 := by omega
          have hcp := hc (k - 1) (by omega)
          obtain ⟨k1, HK1⟩ : ∃ k1, Hid (k = k1 + 1) := ⟨k - 1, by show k = _; omega⟩
          have e1 : IntKind.i64.wrap ((k : Int) - 1) = (k1 : Int) := by have := HK1.out; rw [IntKind.wrap_i64]; omega
          have hk1i : (k1 : Int) < (n : Int) := by have := HK1.out; omega
          have hk1n : (0 : Int) ≤ (k1 : Int) := by omega
          rw [show k - 1 = k1 by have := HK1.out; omega] at hcp
          obtain ⟨y, HY⟩ : ∃ z, Hid (zs.getD k1 0 = z) := ⟨_, rfl⟩
          rw [HY.out] at hcp
          by_cases hyz : y < z
          · have hyz' : ¬ (y ≥ z) := by omega
            have HP2 : Hid (∀ i, i < k + 1 → (0 ≤ zs.getD i 0 ∧ zs.getD i 0 < 3 * f + 1) ∧ (0 < i → zs.getD (i - 1) 0 < zs.getD i 0)) := fun i hi => by
              by_cases ei : i = k
              · subst ei
                rw [show i - 1 = k1 by have := HK1.out; omega, HZ.out, HY.out]
                exact ⟨hz, fun _ => hyz⟩
              · exact HP.out i (by omega)
            clear hc R1 hbel hz HP hyz
            go_wp2_with fail
            refine Calls.mono KN.out ?_
            rintro e w1 ⟨rfl, b1⟩
            have hcp1 := (b1.cell (p := ⟨b, off + k1, none⟩) lb).trans hcp
            have KB1 : Hid (Below w0.heap.size w0 w1) := below2 KB.out b1
            clear b1 KN x0 x1 x2 hcp hck
            go_wp2
            go_roundw
            case rel => exact ⟨k + 1, by omega, by go_num, HP2, KB1.out⟩
            case measure => simp [intOf]; omega
          · have hyz' : y ≥ z := by omega
            have HN : Hid (numB f zs = false) := numB_no fun h => by
              have := (h k (by omega)).2 (by omega)
              rw [show k - 1 = k1 by have := HK1.out; omega, HZ.out, HY.out] at this
              omega
            clear hc R1 hbel hz HP hyz
            go_wp2_with fail
            refine Calls.mono KN.out ?_
            rintro e w1 ⟨rfl, b1⟩
            have hcp1 := (b1.cell (p := ⟨b, off + k1, none⟩) lb).trans hcp
            have KB1 : Hid (Below w.heap.size w w1) := below2 KB0.out (below2 KB.out b1)
            clear b1 KN x0 x1 x2 hcp hck
            go_wp2
            go_ret
            exact ⟨ret_bool HN.out.symm, KB1.out⟩
      · rw [decide_eq_false hz] at KN
        have HN : Hid (numB f zs = false) := numB_no fun h => hz (by have := (h k (by omega)).1; rw [HZ.out] at this; exact this)
        clear hc R1 hbel hz HP
        go_wp2_with fail
        refine Calls.mono KN.out ?_
        rintro e w1 ⟨rfl, b1⟩
        have KB1 : Hid (Below w.heap.size w w1) := below2 KB0.out (below2 KB.out b1)
        clear b1 KN x0 x1 x2 hck
        go_wp2
        go_ret
        exact ⟨ret_bool HN.out.symm, KB1.out⟩
    · obtain rfl : k = n := by omega
      have HN : Hid (numB f zs = true) := numB_yes fun i hi => HP.out i (by omega)
      have KB1 : Hid (Below w.heap.size w wr) := below2 KB0.out hbel
      clear hbel
      go_wp2
      go_ret
      exact ⟨ret_bool HN.out.symm, KB1.out⟩
end Go.Proofs.YtgiegoamcfjfmaaGreat
/- Marks laid into lists of sayings, and asked for. Conditions: at most 64 sayings, whose proofs have at most 1000 texts. Written by mkmark.py. -/
namespace Go.Proofs.YtgiegoamcfjfmaaGreat
set_option maxRecDepth 2000
open Go.ChangeShapes Go.WideShapes Go.ChangeAt Go.RowKit

/-- The first mark of saying i. -/
def ofy (k : Nat) (S : Nat → Sy) : Nat → Nat
  | 0 => k
  | i + 1 => ofy k S i + 9 + (S i).p.m
theorem ofy_le (k : Nat) (S : Nat → Sy) {i j : Nat} (h : i ≤ j) : ofy k S i ≤ ofy k S j := by
  induction j with
  | zero => obtain rfl : i = 0 := by omega
            exact Nat.le_refl _
  | succ j ih =>
    by_cases e : i = j + 1
    · subst e; exact Nat.le_refl _
    · have := ih (by omega)
      show _ ≤ ofy k S j + 9 + (S j).p.m
      omega
/-- The sayings, marked from k on. -/
def mkdY (k : Nat) (S : Nat → Sy) (i : Nat) : Sy := ⟨((ofy k S i : Nat) : Int), ((ofy k S i + 1 : Nat) : Int), ((ofy k S i + 2 : Nat) : Int), mtxt (ofy k S i + 3), ⟨mtxt (ofy k S i + 4), ((ofy k S i + 5 : Nat) : Int), ((ofy k S i + 6 : Nat) : Int), ((ofy k S i + 7 : Nat) : Int), mtxt (ofy k S i + 8), (S i).p.m, fun j => mtxt (ofy k S i + 9 + j)⟩⟩
end Go.Proofs.YtgiegoamcfjfmaaGreat
