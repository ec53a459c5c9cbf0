import Derived.Test.YtodnodekheaacaaGreatDoorI27
set_option maxHeartbeats 8000000
set_option maxRecDepth 2000
open Go.ChangeShapes Go.WideShapes Go.ChangeAt Go.RowKit
namespace Go.Proofs.YtodnodekheaacaaGreatDoor
theorem ba_eq' {s u : ByteArray} (h : s = u) : (s.toList == u.toList) = true := by rw [h]; simp
theorem txt_app {W f : Nat → Nat} {m l : Nat} (hf : ∀ p, p < l → f p = W (m + p)) (hW : ∀ q, W q < 256) : txt W m ++ txt f l = txt W (m + l) := by
 refine txt_is (by rw [ByteArray.size_append, txt_size, txt_size]) (fun k hk => ?_)
 have hs : k < (txt W m ++ txt f l).size := by rw [ByteArray.size_append, txt_size, txt_size]; exact hk
 rw [tat_in _ _ hs]
 by_cases h : k < m
 ·have h1 : k < (txt W m).size := by rw [txt_size]; exact h
  rw [ByteArray.getElem_append_left h1, ← tat_in _ _ h1, tat_txt h (hW k)]
 ·have h1 : (txt W m).size ≤ k := by rw [txt_size]; omega
  have h2 : k - (txt W m).size < (txt f l).size := by rw [txt_size, txt_size]; omega
  rw [ByteArray.getElem_append_right h1, ← tat_in _ _ h2, txt_size]
  have hp := hf (k - m) (by omega)
  rw [show m + (k - m) = k by omega] at hp
  rw [tat_txt (by omega) (by rw [hp]; exact hW k), hp]
theorem txt_cut {W : Nat → Nat} {N sz : Nat} (h : 2 + sz ≤ N) (hW : ∀ q, W q < 256) : (txt W N).extract 2 (2 + sz) = txt (fun q => W (q + 2)) sz := by
 refine txt_is (by rw [ByteArray.size_extract, txt_size]; omega) (fun k hk => ?_)
 have hs : k < ((txt W N).extract 2 (2 + sz)).size := by rw [ByteArray.size_extract, txt_size]; omega
 have h1 : 2 + k < (txt W N).size := by rw [txt_size]; omega
 rw [tat_in _ _ hs, ByteArray.getElem_extract hs, ← tat_in _ _ h1, tat_txt (by omega) (hW _), Nat.add_comm]
theorem dec_iff {T : Nat → Nat → Nat} {l k : Nat} (hT : Gm.Byt T) (hk : 1 ≤ k) (h0 : 2 ≤ k * l) (h1 : whl T l 0 * 256 + whl T l 1 ≤ 2000) :
  tells (whl T l) (k * l) k ↔ ∀ i, i < k → encS (told (whl T l)) k i = txt (T i) l := by
 have hW : ∀ q, whl T l q < 256 := whl_byt hT l
 have hl : 0 < l := Nat.pos_of_ne_zero fun e => by rw [e] at h0; omega
 have hz : (told (whl T l)).size = whl T l 0 * 256 + whl T l 1 := txt_size _ _
 have hE : ∀ i, encS (told (whl T l)) k i = txt (Gm.mp k (Gm.sprd k) (pcs (frm (told (whl T l))) (blen (whl T l 0 * 256 + whl T l 1) k)) i) (blen (whl T l 0 * 256 + whl T l 1) k) := fun i => by
  unfold encS enc
  rw [hz]
  rfl
 have hF : ∀ q, frm (told (whl T l)) q < 256 := fun q => frm_lt (by omega) q
 have hFB : ∀ m, Gm.Byt (pcs (frm (told (whl T l))) m) := fun m i p => hF _
 rw [tells_iff hW hk h0 h1]
 constructor
 ·rintro ⟨h2, h3⟩ i hi
  rw [hE i, h2]
  refine txt_congr (fun p hp => ?_)
  rw [bod_first (hFB l) hi]
  show frm (told (whl T l)) (i * l + p) = T i p
  have : i * l + p < k * l := by
   have := Nat.mul_le_mul_right l (show i + 1 ≤ k by omega)
   rw [Nat.succ_mul] at this
   omega
  rw [h3 _ this, whl_at hp]
 ·intro h
  have h2 : blen (whl T l 0 * 256 + whl T l 1) k = l := by
   have := congrArg ByteArray.size (h 0 (by omega))
   rw [hE 0, txt_size, txt_size] at this
   exact this
  refine ⟨h2, fun q hq => ?_⟩
  have hi : q / l < k := Nat.div_lt_of_lt_mul (by rw [Nat.mul_comm]; exact hq)
  have hp : q % l < l := Nat.mod_lt _ hl
  have h3 : tat (encS (told (whl T l)) k (q / l)) (q % l) = tat (txt (T (q / l)) l) (q % l) := by rw [h (q / l) hi]
  rw [hE, h2, tat_txt hp (Gm.mp_byt _ _ _ _ _), tat_txt hp (hT _ _), bod_first (hFB l) hi] at h3
  have e : q / l * l + q % l = q := by rw [Nat.mul_comm, Nat.div_add_mod]
  have h4 : frm (told (whl T l)) (q / l * l + q % l) = T (q / l) (q % l) := h3
  rw [e] at h4
  exact h4
set_option maxRecDepth 100000 in
theorem sDecode_any (k n : Int) (pa : Option Addr) (np pc : Nat) (zs : List Int) (a : Option Addr) (nb c : Nat) (S : Nat → ByteArray) (w : World) (hz : IntsAt w pa np zs) (h : TxtAt w a nb S) (hl : 0 < nb → (S 0).size ≤ 1048576) :
  Calls Tryz.prog 33 #[.int .i64 k, .int .i64 n, .slice pa np pc, .slice a nb c] w fun e w' => e = .returned (.tuple #[.string (dcS k n zs nb S), .bool (dcB k n zs nb S)]) ∧ Below w.heap.size w w' := by
 have KRT : Hid _ := sRight_any k n pa np pc zs a nb c S w hz h
 by_cases hr : Rgt k n zs nb S
 case neg =>
  obtain ⟨e1, e2⟩ := dc_no hr
  rw [e1, e2]
  rw [rgt_no hr] at KRT
  clear hr h hz e1 e2
  go_enter Tryz.func33, Tryz.ntmps33
  go_wp2_with fail
  refine Calls.mono KRT.out ?_
  rintro e w1 ⟨rfl, hb1⟩
  go_wp2
  go_ret2
  exact ⟨rfl, hb1⟩
 obtain ⟨g1, g2, g3, g4, g5⟩ := hr
 obtain ⟨q1, q2, q3⟩ := sprOk_parts g1
 have hr : Rgt k n zs nb S := ⟨g1, g2, g3, g4, g5⟩
 rw [rgt_yes hr] at KRT
 obtain ⟨K, rfl⟩ := Int.eq_ofNat_of_zero_le (show 0 ≤ k by omega)
 obtain ⟨M, rfl⟩ := Int.eq_ofNat_of_zero_le (show 0 ≤ n by omega)
 obtain rfl : nb = K := by omega
 obtain ⟨e1, e2⟩ := dc_yes hr
 rw [e1, e2]
 clear e1 e2
 have hl' : (S 0).size ≤ 1048576 := hl (by omega)
 have KFS : Hid (∀ w, IntsAt w pa np zs → TxtAt w a nb S → Calls Tryz.prog 63 #[.int .i64 (nb : Int), .int .i64 (M : Int), .slice pa np pc, .slice a nb c] w fun e w' => ∃ v, e = .returned v ∧ ResT w w' v nb (fsS (nb : Int) (M : Int) zs S) ∧ Below w.heap.size w w') := fun w h1 h2 => sFirst_any nb M pa np pc zs a c S w h1 h2 hr hl'
 obtain ⟨l, hll⟩ : ∃ l, (S 0).size = l := ⟨_, rfl⟩
 have hfs : fsS (nb : Int) (M : Int) zs S = fun i => txt (fsT nb M zs S i) l := by
  funext i
  unfold fsS fsT
  rw [Int.toNat_natCast, Int.toNat_natCast, hll]
  rfl
 have hfw : fsW nb M zs S = whl (fsT nb M zs S) l := by unfold fsW; rw [hll]
 have hT : Gm.Byt (fsT nb M zs S) := fun _ _ => Gm.mp_byt _ _ _ _ _
 rw [hfs] at KFS
 rw [hfw, hll]
 rw [hll] at hl' g4
 have hn1 : 1 ≤ nb := by omega
 have hn16 : nb ≤ 16 := by omega
 have KOK : Hid (sprOk (nb : Int) (M : Int) = true) := g1
 generalize fsT nb M zs S = T at KFS hT
 clear hfs hfw hr g1 g2 g3 g5 hll hl
 have hl1 : 1 ≤ l := by omega
 clear g4
 have hW : ∀ q, whl T l q < 256 := whl_byt hT l
 obtain ⟨N, hNN⟩ : ∃ N, nb * l = N := ⟨_, rfl⟩
 have hNb : N ≤ 16777216 := by rw [← hNN]; exact Nat.le_trans (Nat.mul_le_mul hn16 hl') (by omega)
 have KNN : Hid (nb * l = N) := hNN
 have KIF : Hid (2 ≤ N → whl T l 0 * 256 + whl T l 1 ≤ 2000 → (tells (whl T l) N nb ↔ ∀ i, i < nb → encS (told (whl T l)) nb i = txt (T i) l)) := fun h0 h1 => by
  rw [← hNN] at h0 ⊢
  exact dec_iff hT hn1 h0 h1
 rw [hNN]
 have KWH : Hid (∀ q p, p < l → T q p = whl T l (q * l + p)) := fun q p hp => (whl_at hp).symm
 have KTT : Hid (Gm.Byt T) := hT
 have KW : Hid (∀ q, whl T l q < 256) := hW
 generalize whl T l = W at KIF KWH KW hW
 have KH : Hid (TxtAt w a nb S) := h
 have KZ : Hid (IntsAt w pa np zs) := hz
 have KAP : Hid (∀ q, txt W (q * l) ++ txt (T q) l = txt W ((q + 1) * l)) := fun q => by
  rw [Nat.succ_mul]
  exact txt_app (fun p hp => KWH.out q p hp) hW
 clear h hz hNN hT hW
 go_enter Tryz.func33, Tryz.ntmps33
 go_wp2_with fail
 refine Calls.mono KRT.out ?_
 rintro e w0 ⟨rfl, hb0⟩
 have KZ0 : Hid (IntsAt w0 pa np zs) := KZ.out.below hb0
 have KH0 : Hid (TxtAt w0 a nb S) := KH.out.below hb0
 clear KZ KH KRT
 go_wp2_with fail
 refine Calls.mono (KFS.out _ KZ0.out KH0.out) ?_
 rintro e w2 ⟨v2, rfl, hR2, hb2⟩
 obtain ⟨x2, y2, rfl, hO2⟩ := hR2
 have K2 : Hid (TxtAt w2 x2 nb (fun i => txt (T i) l)) := OwnT.at hO2
 have hb02 := below2 hb0 hb2
 clear hO2 KFS KZ0 KH0
 go_wp2
 go_loop [11, 12] (fun v i => ∃ q : Nat, q ≤ nb ∧ i = .int .i64 (q : Int) ∧ v = .string (txt W (q * l))) (fun _ i => nb - (intOf i).toNat)
 case atStart => exact ⟨0, Nat.zero_le _, rfl, by rw [Nat.zero_mul] <;> rfl⟩
 case round =>
  obtain ⟨q, hq, rfl, rfl⟩ := hrel
  by_cases hlt : q < nb
  ·have hqi : (q : Int) < (nb : Int) := by omega
   obtain ⟨b, off, rfl, hcq⟩ := K2.out q hlt
   have hap := KAP.out q
   have hs1 : (txt W (q * l)).size ≤ 16777216 := by
    rw [txt_size]
    have := Nat.mul_le_mul_right l (show q ≤ nb by omega)
    have := KNN.out
    omega
   have hs2 : (txt (T q) l).size ≤ 1048576 := by rw [txt_size]; exact hl'
   have HNX : Hid (txt W ((q + 1) * l) = txt W ((q + 1) * l)) := rfl
   obtain ⟨nx, hnx⟩ : ∃ nx, txt W ((q + 1) * l) = nx := ⟨_, rfl⟩
   have KNX : Hid (txt W ((q + 1) * l) = nx) := hnx
   rw [hnx] at hap
   clear hnx HNX
   generalize txt W (q * l) = cur at hap hs1
   simp only at hcq
   generalize txt (T q) l = tq at hcq hap hs2
   go_wp2
   go_round
   case rel => exact ⟨q + 1, by omega, by go_num, by rw [KNX.out]⟩
   case measure => simp [intOf] <;> omega
  ·obtain rfl : q = nb := by omega
   rw [KNN.out]
   clear KAP
   have hasz := txt_size W N
   by_cases h2 : N < 2
   case pos =>
    have HE : Hid (tlB W N q = false ∧ tlS W N q = ByteArray.empty) := tl_no (fun h => by have := h.1; omega)
    have h2' : (N : Int) < 2 := by omega
    clear h2
    generalize txt W N = all at hasz
    go_wp2
    go_ret2
    exact ⟨by rw [HE.out.1, HE.out.2] <;> rfl, hb02⟩
   have h2' : ¬ (N : Int) < 2 := by omega
   have h0s : 0 < (txt W N).size := by rw [hasz]; omega
   have h1s : 1 < (txt W N).size := by rw [hasz]; omega
   have hx := KW.out 0
   have hy := KW.out 1
   have hx0 : (txt W N)[0].toNat = W 0 := by rw [← tat_in _ _ h0s, tat_txt (by omega) hx]
   have hy0 : (txt W N)[1].toNat = W 1 := by rw [← tat_in _ _ h1s, tat_txt (by omega) hy]
   have KCT : Hid (∀ z, 2 + z ≤ N → (txt W N).extract 2 (2 + z) = txt (fun q => W (q + 2)) z) := fun z hz => txt_cut hz KW.out
   obtain ⟨x, ex⟩ : ∃ x, W 0 = x := ⟨_, rfl⟩
   obtain ⟨y, ey⟩ : ∃ y, W 1 = y := ⟨_, rfl⟩
   obtain ⟨sz, hsz⟩ : ∃ sz, W 0 * 256 + W 1 = sz := ⟨_, rfl⟩
   have KSZ : Hid (W 0 * 256 + W 1 = sz) := hsz
   rw [hsz] at KIF
   rw [ex] at hx hx0 hsz
   rw [ey] at hy hy0 hsz
   have hsum : (x : Int) * 256 + (y : Int) = (sz : Int) := by omega
   generalize txt W N = all at hasz h0s h1s hx0 hy0 KCT
   clear ex ey hsz
   by_cases h3 : sz ≤ 2000
   case neg =>
    have HE : Hid (tlB W N q = false ∧ tlS W N q = ByteArray.empty) := tl_no (fun h => by have := h.2.1; rw [KSZ.out] at this; omega)
    have h3' : (2000 : Int) < (sz : Int) := by omega
    clear h3
    go_wp2_with fail
    go_quiet (fail)
    go_wp2
    go_ret2
    exact ⟨by rw [HE.out.1, HE.out.2] <;> rfl, below_drewN hb02 _⟩
   have h3' : ¬ (2000 : Int) < (sz : Int) := by omega
   obtain ⟨E, hE⟩ : ∃ E, 2 + sz = E := ⟨_, rfl⟩
   have hE1 : (sz : Int) + 2 = (E : Int) := by omega
   have hE2 : 2 + (sz : Int) = (E : Int) := by omega
   by_cases h4 : E ≤ N
   case neg =>
    have HE : Hid (tlB W N q = false ∧ tlS W N q = ByteArray.empty) := tl_no (fun h => by
     have h5 := h.2.2.1
     rw [KSZ.out] at h5
     have h6 := blen_ge (s := sz) (k := q) (by omega)
     omega)
    have h4' : (N : Int) < (E : Int) := by omega
    clear h4
    go_wp2_with fail
    go_quiet (fail)
    go_wp2
    go_ret2
    exact ⟨by rw [HE.out.1, HE.out.2] <;> rfl, below_drewN hb02 _⟩
   have h4' : ¬ (N : Int) < (E : Int) := by omega
   have h40 : (E : Int) ≤ (N : Int) := by omega
   have h42 : (2 : Int) ≤ (E : Int) := by omega
   have h43 : (E : Int) ≤ (all.size : Int) := by rw [hasz]; omega
   have hdat : all.extract 2 E = told W := by
    rw [← hE, KCT.out sz (by omega)]
    unfold told
    rw [KSZ.out]
   have hdz : (told W).size = sz := by unfold told; rw [txt_size, KSZ.out]
   have hif := KIF.out (by omega) h3
   have KYES : Hid ((∀ i, i < q → encS (told W) q i = txt (T i) l) → tlB W N q = true ∧ tlS W N q = told W) := fun h => tl_yes (hif.2 h)
   have KNOT : Hid (∀ i, i < q → encS (told W) q i ≠ txt (T i) l → tlB W N q = false ∧ tlS W N q = ByteArray.empty) := fun i hi hne => tl_no (fun h => hne (hif.1 h i hi))
   have hok : encOk (told W) (q : Int) (M : Int) = true := by unfold encOk; rw [KOK.out]; simp; omega
   have hR : encR (told W) (q : Int) (M : Int) = M := by unfold encR; rw [if_pos hok]; simp
   have KEN : Hid (∀ w, Calls Tryz.prog 50 #[.string (told W), .int .i64 (q : Int), .int .i64 (M : Int)] w fun e w' => ∃ v, e = .returned (.tuple #[v, .bool true]) ∧ ResT w w' v M (encS (told W) q) ∧ Below w.heap.size w w') := fun w => by
    have := sEncode_any (told W) (q : Int) (M : Int) w (by omega)
    rw [hok, hR, Int.toNat_natCast] at this
    exact this
   clear hok hR hif hdz KIF KCT
   generalize told W = dat at hdat KYES KNOT KEN
   clear h3 h4 hE
   go_wp2_with fail
   go_quiet (fail)
   go_wp2_with fail
   refine Calls.mono (KEN.out _) ?_
   rintro e w5 ⟨v5, rfl, hR5, hb5⟩
   obtain ⟨x5, y5, rfl, hO5⟩ := hR5
   have K5 : Hid (TxtAt w5 x5 M (encS dat q)) := OwnT.at hO5
   have hb25 : Below w2.heap.size w2 w5 := below2 (below_drewN (Below.refl _ _) _) hb5
   have K25 : Hid (TxtAt w5 x2 q (fun i => txt (T i) l)) := K2.out.below hb25
   have hb05 := below2 hb02 hb25
   clear hO5 hb5 hb25 K2 KEN
   go_wp2
   clear hx0 hy0 hasz h0s h1s hdat
   go_loopw [17] (fun i wr => ∃ p : Nat, p ≤ q ∧ i = .int .i64 (p : Int) ∧ Hid (∀ i, i < p → encS dat q i = txt (T i) l) ∧ Below w5.heap.size w5 wr) (fun i _ => q - (intOf i).toNat)
   case atStart => exact ⟨0, Nat.zero_le _, rfl, fun i hi => absurd hi (by omega), Below.refl _ _⟩
   case round =>
    obtain ⟨p, hp, rfl, HG, hbel⟩ := hrel
    by_cases hpq : p < q
    ·have hpi : (p : Int) < (q : Int) := by omega
     have hpM : (p : Int) < (M : Int) := by omega
     obtain ⟨b5, off5, rfl, hc5⟩ := K5.out.below hbel p (by omega)
     obtain ⟨b2, off2, rfl, hc2⟩ := K25.out.below hbel p hpq
     simp only at hc2
     by_cases hE : encS dat q p = txt (T p) l
     ·have hbq : ((encS dat q p).toList == (txt (T p) l).toList) = true := ba_eq' hE
      have HG2 : Hid (∀ i, i < p + 1 → encS dat q i = txt (T i) l) := fun i hi => by
       by_cases e : i = p
       ·subst e
        exact hE
       ·exact HG.out i (by omega)
      generalize encS dat q p = s5 at hc5 hbq
      generalize txt (T p) l = s2 at hc2 hbq
      clear HG hE
      go_wp2_with fail
      go_quiet (fail)
      go_wp2
      go_roundw
      case rel => exact ⟨p + 1, by omega, by go_num, HG2.out, below_drewN hbel _⟩
      case measure => simp [intOf] <;> omega
     ·have hbq : ((encS dat q p).toList == (txt (T p) l).toList) = false := ba_ne hE
      have HE : Hid (tlB W N q = false ∧ tlS W N q = ByteArray.empty) := KNOT.out p hpq hE
      generalize encS dat q p = s5 at hc5 hbq
      generalize txt (T p) l = s2 at hc2 hbq
      clear HG hE
      go_wp2_with fail
      go_quiet (fail)
      go_wp2
      go_ret2
      exact ⟨by rw [HE.out.1, HE.out.2] <;> rfl, below2 hb05 (below_drewN hbel _)⟩
    ·obtain rfl : p = q := by omega
     have HE : Hid (tlB W N p = true ∧ tlS W N p = dat) := KYES.out HG.out
     clear HG
     go_wp2
     go_ret2
     exact ⟨by rw [HE.out.1, HE.out.2] <;> rfl, below2 hb05 hbel⟩
end Go.Proofs.YtodnodekheaacaaGreatDoor
namespace Go.Proofs.YtodnodekheaacaaGreatDoor
open Go.Proofs.YtodnodekheaacaaGreatDoor.Gp (m m_lt m_comm m_one)
theorem mp_right {n : Nat} {A : Nat → Nat → Nat} (hA : Gm.Byt A) {i j : Nat} (hj : j < n) : Gm.mp n A Gm.dl i j = A i j := by
 rw [Gm.mp_col hj (fun t _ => rfl)]
 exact m_one (hA i j)
theorem iv_same {A B : Nat → Nat → Nat} {n : Nat} (hA : Gm.Byt A) (hB : Gm.Byt B) (h : ∀ i j, i < n → j < n → A i j = B i j) (ra : Gm.rk A n n = n) (rb : Gm.rk B n n = n) {i j : Nat} (hi : i < n) (hj : j < n) : Gm.iv A n i j = Gm.iv B n i j := by
 have h1 : Gm.mp n (Gm.iv A n) (Gm.mp n B (Gm.iv B n)) i j = Gm.iv A n i j := by
  rw [Gm.mp_congr (A' := Gm.iv A n) (B' := Gm.dl) (fun _ _ => rfl) (fun t ht => (Gm.iv_both hB rb t j ht hj).1)]
  exact mp_right (Gm.iv_byt hA n) hj
 have h2 : Gm.mp n (Gm.mp n (Gm.iv A n) B) (Gm.iv B n) i j = Gm.iv B n i j := by
  rw [Gm.mp_congr (A' := Gm.dl) (B' := Gm.iv B n) (fun t ht => ?_) (fun _ _ => rfl)]
  ·exact Gm.mp_dl hi (Gm.iv_byt hB n i j)
  ·rw [Gm.mp_congr (A' := Gm.iv A n) (B' := A) (fun _ _ => rfl) (fun u hu => (h u t hu ht).symm)]
   exact (Gm.iv_both hA ra i t hi ht).2
 rw [← h1, ← Gm.mp_assoc, h2]
def zsP (n : Nat) (zs : List Int) (t : Nat) : Nat := if t < zs.length then (zs.getD t 0).toNat else n
theorem zsP_at {n : Nat} {zs : List Int} {t : Nat} (h : t < zs.length) : zsP n zs t = (zs.getD t 0).toNat := if_pos h
theorem zsP_lt {n : Nat} {zs : List Int} (h : Diff n zs) (hn : n ≤ 16) (t : Nat) : zsP n zs t < 256 := by
 unfold zsP
 split
 ·rename_i ht
  have := h.at ht
  omega
 ·omega
theorem bkM_is {n k : Nat} {zs : List Int} (h : Diff n zs) (hl : zs.length = k) (hk : 1 ≤ k) (hkn : k ≤ n) (hn : n ≤ 16) {i j : Nat} (hi : i < k) (hj : j < k) : bkM n k zs i j = Gm.iv (fun t j => Gm.sprd k (zsP n zs t) j) k i j := by
 obtain ⟨_, _, io, hbz⟩ := spread_pick h hl hk hkn hn
 have hr := Gm.spread_rk (k := k) (p := zsP n zs) (by omega) (zsP_lt h hn) (fun a b ha hb hab => by
  rw [zsP_at (by omega), zsP_at (by omega)]
  exact h.ne (by omega) (by omega) hab)
 exact iv_same (bZ_byt _ _ _) (fun _ _ => Gm.sprd_byt k _ _) (fun a b ha hb => by rw [zsP_at (by omega)]; exact hbz a b ha hb) io.2.2 hr hi hj
theorem fsT_back {n k l : Nat} {zs : List Int} {S : Nat → ByteArray} {T : Nat → Nat → Nat} (h : Diff n zs) (hl : zs.length = k) (hk : 1 ≤ k) (hkn : k ≤ n) (hn : n ≤ 16) (hT : Gm.Byt T) (hS : ∀ i, i < k → S i = txt (Gm.mp k (Gm.sprd k) T ((zs.getD i 0).toNat)) l) {i q : Nat} (hi : i < k) (hq : q < l) : fsT k n zs S i q = T i q := by
 unfold fsT
 rw [Gm.mp_congr (A' := Gm.iv (fun t j => Gm.sprd k (zsP n zs t) j) k) (B' := fun t q => Gm.mp k (Gm.sprd k) T (zsP n zs t) q) (fun t ht => bkM_is h hl hk hkn hn hi ht) (fun t ht => by
  rw [hS t ht, tat_txt hq (Gm.mp_byt _ _ _ _ _), zsP_at (by omega)])]
 exact back_first (by omega) (zsP_lt h hn) (fun a b ha hb hab => by
  rw [zsP_at (by omega), zsP_at (by omega)]
  exact h.ne (by omega) (by omega) hab) hT hi
theorem encS_size (s : ByteArray) (k i : Nat) : (encS s k i).size = blen s.size k := txt_size _ _
theorem sprOk_of {k n : Nat} (hk : 1 ≤ k) (hkn : k ≤ n) (hn : n ≤ 16) : sprOk (k : Int) (n : Int) = true := by unfold sprOk side; simp; omega
end Go.Proofs.YtodnodekheaacaaGreatDoor
namespace Go.Proofs.YtodnodekheaacaaGreatDoor
theorem fsT_byt (k n : Nat) (zs : List Int) (S : Nat → ByteArray) : Gm.Byt (fsT k n zs S) := fun _ _ => Gm.mp_byt _ _ _ _ _
theorem bdS_is (K M : Nat) (zs : List Int) (S : Nat → ByteArray) (i : Nat) : bdS (K : Int) (M : Int) zs S i = txt (Gm.mp K (Gm.sprd K) (fsT K M zs S) i) (S 0).size := by
 rw [← bd_fs, Int.toNat_natCast]
 refine txt_congr (fun p hp => Gm.mp_congr (fun _ _ => rfl) (fun t _ => ?_))
 have e : fsS (K : Int) (M : Int) zs S t = txt (fsT K M zs S t) (S 0).size := by
  unfold fsS fsT
  rw [Int.toNat_natCast, Int.toNat_natCast]
  rfl
 rw [e, tat_txt hp (fsT_byt K M zs S t p)]
theorem bd_size (K M : Nat) (zs : List Int) (S : Nat → ByteArray) (i : Nat) : (bdS (K : Int) (M : Int) zs S i).size = (S 0).size := by rw [bdS_is, txt_size]
theorem bd_self {K M : Nat} {zs : List Int} {S : Nat → ByteArray} {i p : Nat} (hp : p < (S 0).size) : Gm.mp K (Gm.sprd K) (fun t p => tat (bdS (K : Int) (M : Int) zs S t) p) i p = tat (bdS (K : Int) (M : Int) zs S i) p := by
 rw [bdS_is, tat_txt hp (Gm.mp_byt _ _ _ _ _)]
 refine Gm.mp_congr (fun _ _ => rfl) (fun t ht => ?_)
 show tat (bdS (K : Int) (M : Int) zs S t) p = _
 rw [bdS_is, tat_txt hp (Gm.mp_byt _ _ _ _ _)]
 exact bod_first (fsT_byt K M zs S) ht
theorem bd_agr {K M : Nat} {zs : List Int} {nb : Nat} {S : Nat → ByteArray} (hr : Rgt (K : Int) (M : Int) zs nb S) : Agr (K : Int) (M : Int) M (bdS (K : Int) (M : Int) zs S) := by
 refine ⟨hr.1, ⟨rfl, fun i _ => ⟨by rw [bd_size]; exact hr.2.2.2.1, by rw [bd_size, bd_size]⟩⟩, fun i _ => ?_⟩
 rw [Int.toNat_natCast, bd_size]
 symm
 exact txt_is (bd_size _ _ _ _ _) (fun p hp => (bd_self hp).symm)
end Go.Proofs.YtodnodekheaacaaGreatDoor
