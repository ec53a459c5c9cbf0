/- Slots, lists of slots and nodes, compared by the exact laws: equal ones. Conditions: no list is longer than 2^20. -/
import Derived.Test.YtpomffkpjldloaaH24
import Derived.Test.YtpomffkpjldloaaH6
import Derived.Deep.RegionHeld3
import Derived.Test.YtpomffkpjldloaaH13
import Derived.Test.YtpomffkpjldloaaRows
import Derived.Deep.Slices
namespace Go.Proofs.Ytpomffkpjldloaa
set_option maxRecDepth 2000
open Go.ChangeShapes Go.WideShapes Go.ChangeAt Go.RowKit

/-- The lists of a slot are of a size that the laws bear. -/
def SlS (s : Sl) : Prop := s.p.m ≤ 1048576 ∧ s.ze.length ≤ 1048576 ∧ s.zr.length ≤ 1048576
set_option maxHeartbeats 4000000 in
theorem eqSl_same (s : Sl) (a6 b6 a11 b11 a12 b12 : Option Addr) (c6 d6 c11 d11 c12 d12 : Nat) (w : World) (h6 : TxtAt w a6 s.p.m s.p.S) (k6 : TxtAt w b6 s.p.m s.p.S) (h11 : IntsAt w a11 s.ze.length s.ze) (k11 : IntsAt w b11 s.ze.length s.ze) (h12 : IntsAt w a12 s.zr.length s.zr) (k12 : IntsAt w b12 s.zr.length s.zr) (hs : SlS s) :
    Calls Try.prog 52 #[slV s (.slice a6 s.p.m c6) (.slice a11 s.ze.length c11) (.slice a12 s.zr.length c12), slV s (.slice b6 s.p.m d6) (.slice b11 s.ze.length d11) (.slice b12 s.zr.length d12)] w fun e w' => e = .returned (.bool true) ∧ Below w.heap.size w w' := by
  obtain ⟨r, p, fh, fe, fd, fo, ze, zr⟩ := s
  obtain ⟨rr, kk, nn, ii, bb, m, S⟩ := p
  obtain ⟨hm, he, hz⟩ := hs
  simp only at h6 k6 h11 k11 h12 k12 hm he hz
  obtain ⟨A, HA⟩ : ∃ x, Hid (x = w.heap.size) := ⟨_, rfl⟩
  obtain ⟨B, HB⟩ : ∃ x, Hid (x = w.heap.size + 1) := ⟨_, rfl⟩
  obtain ⟨w0, HW0⟩ : ∃ x, Hid (x = (w.alloc (.cells (slC ⟨r, ⟨rr, kk, nn, ii, bb, m, S⟩, fh, fe, fd, fo, ze, zr⟩ (.slice a6 m c6) (.slice a11 ze.length c11) (.slice a12 zr.length c12)) 82)).alloc (.cells (slC ⟨r, ⟨rr, kk, nn, ii, bb, m, S⟩, fh, fe, fd, fo, ze, zr⟩ (.slice b6 m d6) (.slice b11 ze.length d11) (.slice b12 zr.length d12)) 82)) := ⟨_, rfl⟩
  have RA : Hid (Row w0 A 82 (slC ⟨r, ⟨rr, kk, nn, ii, bb, m, S⟩, fh, fe, fd, fo, ze, zr⟩ (.slice a6 m c6) (.slice a11 ze.length c11) (.slice a12 zr.length c12))) := by
    show Row _ _ _ _
    rw [HW0.out, HA.out]
    exact Row.alloc (Row.new w _ _) _
  have RB : Hid (Row w0 B 82 (slC ⟨r, ⟨rr, kk, nn, ii, bb, m, S⟩, fh, fe, fd, fo, ze, zr⟩ (.slice b6 m d6) (.slice b11 ze.length d11) (.slice b12 zr.length d12))) := by
    show Row _ _ _ _
    rw [HW0.out, HB.out]
    have := Row.new (w.alloc (.cells (slC ⟨r, ⟨rr, kk, nn, ii, bb, m, S⟩, fh, fe, fd, fo, ze, zr⟩ (.slice a6 m c6) (.slice a11 ze.length c11) (.slice a12 zr.length c12)) 82)) (slC ⟨r, ⟨rr, kk, nn, ii, bb, m, S⟩, fh, fe, fd, fo, ze, zr⟩ (.slice b6 m d6) (.slice b11 ze.length d11) (.slice b12 zr.length d12)) 82
    simpa using this
  have hb0 : Below w.heap.size w w0 := by rw [HW0.out]; exact ((Below.refl _ _).alloc (Nat.le_refl _) _).alloc (by simp) _
  have KB0 : Hid (Below w.heap.size w w0) := hb0
  have KP : Hid _ := eqPc_same rr kk nn ii bb a6 b6 m c6 d6 S w0 (h6.below hb0) (k6.below hb0) hm
  have KE : Hid (∀ W, Below w0.heap.size w0 W → Calls Try.prog 8 #[.slice a11 ze.length c11, .slice b11 ze.length d11] W fun e w' => e = .returned (.bool true) ∧ Below W.heap.size W w') := fun W hW => eqIntS_same a11 b11 ze.length c11 d11 ze W ((h11.below hb0).below hW) ((k11.below hb0).below hW) he
  have KZ : Hid (∀ W, Below w0.heap.size w0 W → Calls Try.prog 8 #[.slice a12 zr.length c12, .slice b12 zr.length d12] W fun e w' => e = .returned (.bool true) ∧ Below W.heap.size W w') := fun W hW => eqIntS_same a12 b12 zr.length c12 d12 zr W ((h12.below hb0).below hW) ((k12.below hb0).below hW) hz
  generalize ze.length = le at *
  generalize zr.length = lr at *
  have f0 : (r.toList != r.toList) = false := by simp
  have f0' := ba_beq r
  have f1 : (fh != fh) = false := by simp
  have f2 : (fe != fe) = false := by simp
  have f3 : (fd != fd) = false := by simp
  have f4 : (fo != fo) = false := by simp
  clear h6 k6 h11 k11 h12 k12 hm he hz hb0
  go_enter Try.func52, Try.ntmps52
  go_wp2_with fail
  rw [← HW0.out, ← HB.out, ← HA.out]
  refine Calls.mono KP.out ?_
  rintro e w1 ⟨rfl, b1⟩
  have RA1 := RA.out.below b1 RA.out.lt
  have RB1 := RB.out.below b1 RB.out.lt
  have x7 := RA1.cell 7
  have x8 := RA1.cell 8
  have x9 := RA1.cell 9
  have x10 := RA1.cell 10
  have x11 := RA1.cell 11
  have y7 := RB1.cell 7
  have y8 := RB1.cell 8
  have y9 := RB1.cell 9
  have y10 := RB1.cell 10
  have y11 := RB1.cell 11
  simp at x7 x8 x9 x10 x11 y7 y8 y9 y10 y11
  have B1 : Hid (Below w0.heap.size w0 w1) := b1
  have HA1 : Hid (Row w1 A 82 _ ∧ Row w1 B 82 _) := ⟨RA1, RB1⟩
  clear RA RB RA1 RB1 b1 KP
  go_wp2_with fail
  refine Calls.mono (KE.out _ B1.out) ?_
  rintro e w2 ⟨rfl, b2⟩
  have RA2 := HA1.out.1.below b2 HA1.out.1.lt
  have RB2 := HA1.out.2.below b2 HA1.out.2.lt
  have B2 : Hid (Below w0.heap.size w0 w2) := below2 B1.out b2
  have z12 := RA2.cell 12
  have u12 := RB2.cell 12
  simp at z12 u12
  clear x7 x8 x9 x10 x11 y7 y8 y9 y10 y11 RA2 RB2 HA1 b2 KE
  go_wp2_with fail
  refine Calls.mono (KZ.out _ B2.out) ?_
  rintro e w3 ⟨rfl, b3⟩
  have B3 : Hid (Below w.heap.size w w3) := below2 KB0.out (below2 B2.out b3)
  clear b3 z12 u12
  go_wp2
  go_ret
  exact ⟨rfl, B3.out⟩

/-- The cells of one struct of each of two lists, in every world that grew out of the first. -/
theorem one_row {w : World} {b off i sz : Nat} {y : Nat → Value} (W : World) (hW : Below w.heap.size w W) (h : ∀ q, q < sz + 1 → w.cell? ⟨b, off + (i * (sz + 1) + q), none⟩ = some (y q)) :
    W.cell? ⟨b, off + i * (sz + 1), none⟩ = some (y 0) ∧ (∀ q, q < sz + 1 → W.cell? ⟨b, off + i * (sz + 1) + q, none⟩ = some (y q)) := by
  have k : ∀ q, q < sz + 1 → W.cell? ⟨b, off + i * (sz + 1) + q, none⟩ = some (y q) := fun q hq => by
    have := h q hq
    rw [← Nat.add_assoc] at this
    exact (hW.cell (p := ⟨b, off + i * (sz + 1) + q, none⟩) (block_lt_of_cell this)).trans this
  exact ⟨k 0 (by omega), k⟩
theorem two_rows {w : World} {b off b' off' i sz : Nat} {y y' : Nat → Value} (W : World) (hW : Below w.heap.size w W) (h : ∀ q, q < sz + 1 → w.cell? ⟨b, off + (i * (sz + 1) + q), none⟩ = some (y q)) (h' : ∀ q, q < sz + 1 → w.cell? ⟨b', off' + (i * (sz + 1) + q), none⟩ = some (y' q)) :
    W.cell? ⟨b, off + i * (sz + 1), none⟩ = some (y 0) ∧ (∀ q, q < sz + 1 → W.cell? ⟨b, off + i * (sz + 1) + q, none⟩ = some (y q)) ∧ W.cell? ⟨b', off' + i * (sz + 1), none⟩ = some (y' 0) ∧ (∀ q, q < sz + 1 → W.cell? ⟨b', off' + i * (sz + 1) + q, none⟩ = some (y' q)) := by
  obtain ⟨h1, h2⟩ := one_row W hW h
  obtain ⟨h3, h4⟩ := one_row W hW h'
  exact ⟨h1, h2, h3, h4⟩
set_option maxHeartbeats 4000000 in
theorem eqSls_same (a b : Option Addr) (n ca cb : Nat) (S : Nat → Sl) (w : World) (ha : Rd w (slsD n S) (.slice a n ca)) (hb : Rd w (slsD n S) (.slice b n cb)) (hn : n ≤ 1048576) (hs : ∀ i, i < n → SlS (S i)) :
    Calls Try.prog 50 #[.slice a n ca, .slice b n cb] w fun e w' => e = .returned (.bool true) ∧ Below w.heap.size w w' := by
  have KH : Hid (Rd w (slsD n S) (.slice a n ca) ∧ Rd w (slsD n S) (.slice b n cb)) := ⟨ha, hb⟩
  have HS : Hid (∀ i, i < n → SlS (S i)) := hs
  have hnn : ((n : Int) != (n : Int)) = false := by simp
  clear ha hb hs
  go_enter Try.func50, Try.ntmps50
  go_wp2
  go_loopw [5] (fun vi wr => ∃ c : Nat, c ≤ n ∧ vi = .int .i64 (c : Int) ∧ Below w.heap.size w wr) (fun vi _ => n - (intOf vi).toNat)
  case atStart => exact ⟨0, Nat.zero_le _, rfl, Below.refl _ _⟩
  case round =>
    obtain ⟨c, hcn, rfl, hbel⟩ := hrel
    by_cases hlt : c < n
    · have hki : (c : Int) < (n : Int) := by omega
      obtain ⟨b1, f1, y1, p6, p11, p12, q6, q11, q12, rfl, hc1, e1, ht1, he1, hz1⟩ := slot_row (KH.out.1.below hbel) hlt
      obtain ⟨b2, f2, y2, s6, s11, s12, t6, t11, t12, rfl, hc2, e2, ht2, he2, hz2⟩ := slot_row (KH.out.2.below hbel) hlt
      have hsc := HS.out c hlt
      have KT : Hid (∀ W, Below wr.heap.size wr W → Calls Try.prog 52 #[ag13 y1, ag13 y2] W fun e w' => e = .returned (.bool true) ∧ Below W.heap.size W w') := fun W hW => by
        rw [e1, e2]
        exact eqSl_same (S c) p6 s6 p11 s11 p12 s12 q6 t6 q11 t11 q12 t12 W (ht1.below hW) (ht2.below hW) (he1.below hW) (he2.below hW) (hz1.below hW) (hz2.below hW) hsc
      have KS : Hid (∀ W, Below wr.heap.size wr W → W.cell? ⟨b1, f1 + c * 13, none⟩ = some (y1 0) ∧ (∀ q, q < 13 → W.cell? ⟨b1, f1 + c * 13 + q, none⟩ = some (y1 q)) ∧ W.cell? ⟨b2, f2 + c * 13, none⟩ = some (y2 0) ∧ (∀ q, q < 13 → W.cell? ⟨b2, f2 + c * 13 + q, none⟩ = some (y2 q))) := fun W hW => two_rows W hW hc1 hc2
      have KB : Hid (Below w.heap.size w wr) := hbel
      have hdr := below_drew wr
      clear hc1 hc2 ht1 ht2 he1 he2 hz1 hz2 hbel e1 e2 hsc
      go_wp2_with fail
      go_region_held3 (fun w' => w'.cell? ⟨b1, f1 + c * 13, none⟩ = some (y1 0) ∧ (∀ q, q < 13 → w'.cell? ⟨b1, f1 + c * 13 + q, none⟩ = some (y1 q)) ∧ w'.cell? ⟨b2, f2 + c * 13, none⟩ = some (y2 0) ∧ (∀ q, q < 13 → w'.cell? ⟨b2, f2 + c * 13 + q, none⟩ = some (y2 q))) (exact KS.out _ (by assumption)) ((go_at_call 52; refine Calls.mono (KT.out _ hdr) ?_; rintro e w7 ⟨rfl, b7'⟩; have b7 := below_of_drew b7'; clear b7'))
      all_goals
        have HB7 : Hid (Below w.heap.size w w7) := below2 KB.out b7
        clear b7
        go_wp2
        go_roundw
        case rel => exact ⟨c + 1, by omega, by go_num, HB7.out⟩
        case measure => simp [intOf]; omega
    · go_wp2
      go_ret
      exact ⟨rfl, hbel⟩
set_option maxHeartbeats 1000000 in
theorem eqNd_same (id f : Int) (a b : Option Addr) (n ca cb : Nat) (S : Nat → Sl) (w : World) (ha : Rd w (slsD n S) (.slice a n ca)) (hb : Rd w (slsD n S) (.slice b n cb)) (hn : n ≤ 1048576) (hs : ∀ i, i < n → SlS (S i)) :
    Calls Try.prog 43 #[.agg #[.int .i64 id, .int .i64 f, .slice a n ca], .agg #[.int .i64 id, .int .i64 f, .slice b n cb]] w fun e w' => e = .returned (.bool true) ∧ Below w.heap.size w w' := by
  obtain ⟨w0, HW0⟩ : ∃ x, Hid (x = (w.alloc (.cells #[.int .i64 id, .int .i64 f, .slice a n ca] 52)).alloc (.cells #[.int .i64 id, .int .i64 f, .slice b n cb] 52)) := ⟨_, rfl⟩
  have hb0 : Below w.heap.size w w0 := by rw [HW0.out]; exact ((Below.refl _ _).alloc (Nat.le_refl _) _).alloc (by simp) _
  have KB0 : Hid (Below w.heap.size w w0) := hb0
  have KE : Hid _ := eqSls_same a b n ca cb S w0 (ha.below hb0) (hb.below hb0) hn hs
  have f0 : (id != id) = false := by simp
  have f1 : (f != f) = false := by simp
  clear ha hb hb0 hs
  go_enter Try.func43, Try.ntmps43
  go_wp2_with fail
  rw [← HW0.out]
  refine Calls.mono KE.out ?_
  rintro e w1 ⟨rfl, b1⟩
  go_wp2
  go_ret
  exact ⟨rfl, below2 KB0.out b1⟩
end Go.Proofs.Ytpomffkpjldloaa
/- Sayings and lists of them, compared by the exact laws: equal ones. Conditions: no list is longer than 2^20. Written by mknsay.py. -/
namespace Go.Proofs.Ytpomffkpjldloaa
set_option maxRecDepth 2000
open Go.ChangeShapes Go.WideShapes Go.ChangeAt Go.RowKit

set_option maxHeartbeats 4000000 in
theorem eqSy_same (s : Sy) (a9 b9 : Option Addr) (c9 d9 : Nat) (w : World) (h9 : TxtAt w a9 s.p.m s.p.S) (k9 : TxtAt w b9 s.p.m s.p.S) (hs : s.p.m ≤ 1048576) :
    Calls Try.prog 44 #[syV s (.slice a9 s.p.m c9), syV s (.slice b9 s.p.m d9)] w fun e w' => e = .returned (.bool true) ∧ Below w.heap.size w w' := by
  obtain ⟨sk, sf, st, sr, p⟩ := s
  obtain ⟨rr, kk, nn, ii, bb, m, S⟩ := p
  simp only at h9 k9 hs
  obtain ⟨w0, HW0⟩ : ∃ x, Hid (x = (w.alloc (.cells (syC ⟨sk, sf, st, sr, ⟨rr, kk, nn, ii, bb, m, S⟩⟩ (.slice a9 m c9)) 75)).alloc (.cells (syC ⟨sk, sf, st, sr, ⟨rr, kk, nn, ii, bb, m, S⟩⟩ (.slice b9 m d9)) 75)) := ⟨_, rfl⟩
  have hb0 : Below w.heap.size w w0 := by rw [HW0.out]; exact ((Below.refl _ _).alloc (Nat.le_refl _) _).alloc (by simp) _
  have KB0 : Hid (Below w.heap.size w w0) := hb0
  have KP : Hid _ := eqPc_same rr kk nn ii bb a9 b9 m c9 d9 S w0 (h9.below hb0) (k9.below hb0) hs
  have f0 : (sr.toList != sr.toList) = false := by simp
  have f0' := ba_beq sr
  have f1 : (sk != sk) = false := by simp
  have f2 : (sf != sf) = false := by simp
  have f3 : (st != st) = false := by simp
  clear h9 k9 hs hb0
  go_enter Try.func44, Try.ntmps44
  go_wp2_with fail
  rw [← HW0.out]
  refine Calls.mono KP.out ?_
  rintro e w1 ⟨rfl, b1⟩
  go_wp2
  go_ret
  exact ⟨rfl, below2 KB0.out b1⟩
set_option maxHeartbeats 4000000 in
theorem eqSys_same (a b : Option Addr) (n ca cb : Nat) (S : Nat → Sy) (w : World) (ha : Rd w (sysD n S) (.slice a n ca)) (hb : Rd w (sysD n S) (.slice b n cb)) (hn : n ≤ 1048576) (hs : ∀ i, i < n → (S i).p.m ≤ 1048576) :
    Calls Try.prog 32 #[.slice a n ca, .slice b n cb] w fun e w' => e = .returned (.bool true) ∧ Below w.heap.size w w' := by
  have KH : Hid (Rd w (sysD n S) (.slice a n ca) ∧ Rd w (sysD n S) (.slice b n cb)) := ⟨ha, hb⟩
  have HS : Hid (∀ i, i < n → (S i).p.m ≤ 1048576) := hs
  have hnn : ((n : Int) != (n : Int)) = false := by simp
  clear ha hb hs
  go_enter Try.func32, Try.ntmps32
  go_wp2
  go_loopw [5] (fun vi wr => ∃ c : Nat, c ≤ n ∧ vi = .int .i64 (c : Int) ∧ Below w.heap.size w wr) (fun vi _ => n - (intOf vi).toNat)
  case atStart => exact ⟨0, Nat.zero_le _, rfl, Below.refl _ _⟩
  case round =>
    obtain ⟨c, hcn, rfl, hbel⟩ := hrel
    by_cases hlt : c < n
    · have hki : (c : Int) < (n : Int) := by omega
      obtain ⟨b1, f1, y1, p9, q9, rfl, hc1, e1, ht1⟩ := say_row (KH.out.1.below hbel) hlt
      obtain ⟨b2, f2, y2, s9, t9, rfl, hc2, e2, ht2⟩ := say_row (KH.out.2.below hbel) hlt
      have hsc := HS.out c hlt
      have KT : Hid (∀ W, Below wr.heap.size wr W → Calls Try.prog 44 #[ag10 y1, ag10 y2] W fun e w' => e = .returned (.bool true) ∧ Below W.heap.size W w') := fun W hW => by
        rw [e1, e2]
        exact eqSy_same (S c) p9 s9 q9 t9 W (ht1.below hW) (ht2.below hW) hsc
      have KS : Hid (∀ W, Below wr.heap.size wr W → W.cell? ⟨b1, f1 + c * 10, none⟩ = some (y1 0) ∧ (∀ q, q < 10 → W.cell? ⟨b1, f1 + c * 10 + q, none⟩ = some (y1 q)) ∧ W.cell? ⟨b2, f2 + c * 10, none⟩ = some (y2 0) ∧ (∀ q, q < 10 → W.cell? ⟨b2, f2 + c * 10 + q, none⟩ = some (y2 q))) := fun W hW => two_rows W hW hc1 hc2
      have KB : Hid (Below w.heap.size w wr) := hbel
      have hdr := below_drew wr
      clear hc1 hc2 ht1 ht2 hbel e1 e2 hsc
      go_wp2_with fail
      go_region_held3 (fun w' => w'.cell? ⟨b1, f1 + c * 10, none⟩ = some (y1 0) ∧ (∀ q, q < 10 → w'.cell? ⟨b1, f1 + c * 10 + q, none⟩ = some (y1 q)) ∧ w'.cell? ⟨b2, f2 + c * 10, none⟩ = some (y2 0) ∧ (∀ q, q < 10 → w'.cell? ⟨b2, f2 + c * 10 + q, none⟩ = some (y2 q))) (exact KS.out _ (by assumption)) ((go_at_call 44; refine Calls.mono (KT.out _ hdr) ?_; rintro e w7 ⟨rfl, b7'⟩; have b7 := below_of_drew b7'; clear b7'))
      all_goals
        have HB7 : Hid (Below w.heap.size w w7) := below2 KB.out b7
        clear b7
        go_wp2
        go_roundw
        case rel => exact ⟨c + 1, by omega, by go_num, HB7.out⟩
        case measure => simp [intOf]; omega
    · go_wp2
      go_ret
      exact ⟨rfl, hbel⟩
end Go.Proofs.Ytpomffkpjldloaa
/- What the exact laws count of slots and nodes. Conditions: what each says. -/
namespace Go.Proofs.Ytpomffkpjldloaa
set_option maxRecDepth 2000
open Go.ChangeShapes Go.WideShapes Go.ChangeAt Go.RowKit

/-- What the form tells of a slot that came in. -/
structure SlI (w : World) (s : Sl) (a6 : Option Addr) : Prop where
  r : s.r.size ≤ maxLen
  pr : s.p.r.size ≤ maxLen
  pb : s.p.b.size ≤ maxLen
  tx : IsTxt w a6 s.p.m s.p.S
  ne : s.ze.length ≤ maxLen
  nr : s.zr.length ≤ maxLen
/-- The same without its memory. -/
structure SlB (s : Sl) : Prop where
  r : s.r.size ≤ maxLen
  pr : s.p.r.size ≤ maxLen
  pb : s.p.b.size ≤ maxLen
  m : s.p.m ≤ maxLen
  tx : ∀ i, i < s.p.m → (s.p.S i).size ≤ maxLen
  ne : s.ze.length ≤ maxLen
  nr : s.zr.length ≤ maxLen
theorem SlB.i {s : Sl} (h : SlB s) {w : World} {a6 : Option Addr} (ht : TxtAt w a6 s.p.m s.p.S) : SlI w s a6 := ⟨h.r, h.pr, h.pb, ⟨ht, h.m, h.tx⟩, h.ne, h.nr⟩
end Go.Proofs.Ytpomffkpjldloaa
/- Lists of structs that are handed in, read as the form reads them; slots and nodes. No condition. -/
namespace Go.Proofs.Ytpomffkpjldloaa
set_option maxRecDepth 2000
open Go.ChangeShapes Go.WideShapes Go.ChangeAt Go.RowKit

end Go.Proofs.Ytpomffkpjldloaa
