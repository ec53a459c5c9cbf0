import Derived.Test.YtgooamiggebibaaGreatDoorG24
import Derived.Test.YtgooamiggebibaaGreatDoorG22
import Derived.Test.YtgooamiggebibaaGreatDoorG17
import Derived.Deep.CutRange
import Derived.Test.YtgooamiggebibaaGreatDoorG5
import Derived.Test.YtgooamiggebibaaGreatDoorG6
import Derived.Test.YtgooamiggebibaaGreatDoorG8
import Derived.Test.YtgooamiggebibaaGreatDoorG16
set_option maxHeartbeats 8000000
set_option maxRecDepth 2000
open Go.ChangeShapes Go.WideShapes Go.ChangeAt Go.RowKit
namespace Go.Proofs.YtgooamiggebibaaGreatDoor
theorem sAllW_any (f : Int) (w : World) : Calls Tryz.prog 33 #[.int .i64 f] w fun e w' => e = .returned (.int .i64 (gcN f)) ∧ w' = w := by
 go_enter Tryz.func33, Tryz.ntmps33
 go_wp2
 go_ret
 exact ⟨rfl, rfl⟩
theorem sNetGet_any (f : Int) (a : Option Addr) (n c : Nat) (l : Option Addr) (d : Nat) (zs : List Int) (v3 : Value) (N : Nat → Nd) (root : ByteArray) (aL : Option Addr) (nl cl : Nat) (A : Nat → Option Addr) (C : Nat → Nat) (P : Nat → Pc) (w : World) (h : Rd w (ndsD n N) (.slice a n c)) (hl : IntsAt w l zs.length zs) (hn : n ≤ 1048576) (hz : zs.length ≤ 1048576) (hQ : ∀ i, i < n → NdQ (N i)) (hP : PiA w aL nl A C P)
  (hK : nl ≤ 40 → GtK ((kl (gtX f P) nl).length + (hsL N root (kl (lyP zs) n)).length) (jnP (kl (gtX f P) nl) P (kl (gtX f P) nl).length (hsP N root (kl (lyP zs) n)))) :
  Calls Tryz.prog 18 #[ntV f (.slice a n c) (.slice l zs.length d) v3, .string root, .slice aL nl cl] w fun e w' => Below w.heap.size w w' ∧ GtA f n N zs root nl P e := by
 by_cases h40 : nl ≤ 40
 case neg =>
  have h40' : (nl : Int) > 40 := by omega
  have HB : Hid (Below w.heap.size w (w.alloc (.cells #[.int .i64 f, .slice a n c, .slice l zs.length d, v3] 34))) := (Below.refl _ _).alloc (Nat.le_refl _) _
  clear h hl hn hz hQ hP hK
  go_enter Tryz.func18, Tryz.ntmps18
  go_wp2
  go_ret2
  exact ⟨HB.out, .inl ⟨by omega, rfl⟩⟩
 have h40' : ¬ ((nl : Int) > 40) := by omega
 replace hK := hK h40
 obtain ⟨i0, hi, hz0, hz1, hz2⟩ := info_parts Tryz.infoPcZ
 obtain ⟨X, HX⟩ : ∃ x, Hid (x = w.heap.size) := ⟨_, rfl⟩
 obtain ⟨g0, HG0⟩ : ∃ x, Hid (x = w.heap.size + 1) := ⟨_, rfl⟩
 obtain ⟨w0, HW0⟩ : ∃ x, Hid (x = (w.alloc (.cells #[.int .i64 f, .slice a n c, .slice l zs.length d, v3] 34)).alloc (.cells #[] 66)) := ⟨_, rfl⟩
 have RX0 : Row w0 X 34 #[.int .i64 f, .slice a n c, .slice l zs.length d, v3] := by rw [HW0.out, HX.out]; exact Row.alloc (Row.new w _ _) _
 have b0 : Below w.heap.size w w0 := by rw [HW0.out]; exact ((Below.refl _ _).alloc (Nat.le_refl _) _).alloc (by simp) _
 have HGX : Hid (g0 = X + 1) := by show g0 = X + 1; rw [HG0.out, HX.out]
 have H1 : Hid (GtI w g0 A C P (kl (gtX f P) 0) g0 0 0 w0 ∧ Row w0 X 34 #[.int .i64 f, .slice a n c, .slice l zs.length d, v3]) := by
  have e : (w.alloc (.cells #[.int .i64 f, .slice a n c, .slice l zs.length d, v3] 34)).heap.size = g0 := by rw [HG0.out]; simp
  have h1 := own_nilP (w.alloc (.cells #[.int .i64 f, .slice a n c, .slice l zs.length d, v3] 34)) g0 (gtC A C P (kl (gtX f P) 0)) (by rw [e]; exact Nat.le_refl _)
  rw [e, ← HW0.out] at h1
  exact ⟨⟨h1, rfl, by rw [HG0.out]; omega, b0⟩, RX0⟩
 have KNP : Hid (∀ W, Below w.heap.size w W → Calls Tryz.prog 35 #[ntV f (.slice a n c) (.slice l zs.length d) v3, .string root] W fun e w' => ∃ gg cc F, e = .returned (.slice (some ⟨gg, 0, none⟩) (hsL N root (kl (lyP zs) n)).length cc) ∧ Ow w' W.heap.size (pcsD (hsL N root (kl (lyP zs) n)).length (hsP N root (kl (lyP zs) n))) (.slice (some ⟨gg, 0, none⟩) (hsL N root (kl (lyP zs) n)).length cc) F ∧ Below W.heap.size W w') := fun W hW => sNetPieces_any f a n c l d zs v3 N root W (h.below hW) (hl.below hW) hn hz hQ
 have KP : Hid (PiA w aL nl A C P) := hP
 have KK : Hid (GtK ((kl (gtX f P) nl).length + (hsL N root (kl (lyP zs) n)).length) (jnP (kl (gtX f P) nl) P (kl (gtX f P) nl).length (hsP N root (kl (lyP zs) n)))) := hK
 have KCN : Hid (∀ W, Calls Tryz.prog 33 #[.int .i64 f] W fun e w' => e = .returned (.int .i64 (gcN f)) ∧ w' = W) := fun W => sAllW_any f W
 obtain ⟨zl, HZL⟩ : ∃ x, Hid (zs.length = x) := ⟨_, rfl⟩
 rw [HZL.out] at H1 KNP HW0
 rw [HZL.out]
 clear h hl hn hz hQ hP hK RX0 b0
 go_enter Tryz.func18, Tryz.ntmps18
 go_wp2
 rw [← HW0.out, ← HG0.out, ← HX.out]
 go_loopw [8, 9] (fun v vi wr => ∃ (t gg len cc : Nat), t ≤ nl ∧ len ≤ t ∧ Hid (GtI w g0 A C P (kl (gtX f P) t) gg len cc wr ∧ Row wr X 34 #[.int .i64 f, .slice a n c, .slice l zl d, v3]) ∧ v = .slice (some ⟨gg, 0, none⟩) len cc ∧ vi = .int .i64 (t : Int)) (fun _ vi _ => nl - (intOf vi).toNat)
 case atStart => exact ⟨0, g0, 0, 0, Nat.zero_le _, Nat.le_refl _, H1, rfl, rfl⟩
 case round =>
  obtain ⟨t, gg, len, cc, ht, hlt', HD, rfl, rfl⟩ := hrel
  clear H1
  by_cases hlt : t < nl
  ·have hti : (t : Int) < (nl : Int) := by omega
   clear KNP KK
   obtain ⟨⟨b1, off1, e1, hc0⟩, _⟩ := KP.out t hlt
   subst e1
   have R0 := piA_range (A := A) (C := C) (P := P) (t := t) hc0
   have R1 : Hid (wr.rangeAt b1 (off1 + t * 6) [.string (P t).r, .int .i64 (P t).k, .int .i64 (P t).n, .int .i64 (P t).i, .string (P t).b, .slice (A t) (P t).m (C t)]) := fun j v hv => (HD.out.1.bw.cell (block_lt_of_cell (R0 j v hv))).trans (R0 j v hv)
   have HGr : Hid (∀ W5 W6 g3 cap, Below wr.heap.size wr W5 → gtX f P t = false → W6.ownsRow g0 66 6 (.slice (some ⟨g3, 0, none⟩) (len + 1) cap) (len + 1) (gL (gtC A C P (kl (gtX f P) t)) len ++ [.string (P t).r, .int .i64 (P t).k, .int .i64 (P t).n, .int .i64 (P t).i, .string (P t).b, .slice (A t) (P t).m (C t)]) → W5.grownBy W6 (some gg) → GtI w g0 A C P (kl (gtX f P) (t + 1)) g3 (len + 1) cap W6 ∧ Row W6 X 34 #[.int .i64 f, .slice a n c, .slice l zl d, v3]) := fun W5 W6 g3 cap k1 k2 k3 k4 => by
    rw [kl_succ, if_neg (by rw [k2]; decide)]
    refine ⟨HD.out.1.grow k1 k3 k4, ?_⟩
    have rx := HD.out.2.below k1 HD.out.2.lt
    have lg := (World.ownsRow.lt HD.out.1.op gg rfl).1
    exact (k4.block X rx.lt (fun e => by cases e; have := HGX.out; omega)).trans rx
   have HSk : Hid (∀ W, Below wr.heap.size wr W → gtX f P t = true → GtI w g0 A C P (kl (gtX f P) (t + 1)) gg len cc W ∧ Row W X 34 #[.int .i64 f, .slice a n c, .slice l zl d, v3]) := fun W hb hf => by
    rw [kl_succ, if_pos hf]
    exact ⟨HD.out.1.below hb, HD.out.2.below hb HD.out.2.lt⟩
   have HOW : Hid (∀ W, Below wr.heap.size wr W → OwnC W g0 (some ⟨gg, 0, none⟩) len cc (gtC A C P (kl (gtX f P) t)) ∧ Row W X 34 #[.int .i64 f, .slice a n c, .slice l zl d, v3] ∧ g0 ≤ W.heap.size) := fun W hb => ⟨HD.out.1.op.below hb, HD.out.2.below hb HD.out.2.lt, by have := (HD.out.2.below hb HD.out.2.lt).lt; have := HGX.out; omega⟩
   obtain ⟨p0, HP0⟩ : ∃ v, Hid (P t = v) := ⟨_, rfl⟩
   obtain ⟨ap, HAP⟩ : ∃ v, Hid (A t = v) := ⟨_, rfl⟩
   obtain ⟨cp, HCP⟩ : ∃ v, Hid (C t = v) := ⟨_, rfl⟩
   have HGY : Hid (p0.k = gcK f → p0.n = gcN f → gtX f P t = false) := fun k1 k2 => gtX_yes (by rw [HP0.out]; exact k1) (by rw [HP0.out]; exact k2)
   have HGN : Hid (¬ (p0.k = gcK f ∧ p0.n = gcN f) → gtX f P t = true) := fun k1 => gtX_no (by rw [HP0.out]; exact k1)
   rw [HP0.out, HAP.out, HCP.out] at R1 HGr
   have x1 := (R1.out 1 _ rfl)
   have x2 := (R1.out 2 _ rfl)
   obtain ⟨_, RX2, _⟩ := HOW.out wr (Below.refl _ _)
   have x0 := RX2.cell 0
   simp at x0
   clear RX2 R0 hc0 HD HP0 HAP HCP
   obtain ⟨ck, HCK⟩ : ∃ v, Hid (gcK f = v) := ⟨_, rfl⟩
   have eck : wrap64 (f + 1) = ck := HCK.out
   obtain ⟨cn, HCN⟩ : ∃ v, Hid (gcN f = v) := ⟨_, rfl⟩
   rw [HCK.out] at HGY HGN
   rw [HCN.out] at HGY HGN KCN
   by_cases c1 : p0.k = ck
   case neg =>
    have c1' : (p0.k == ck) = false := by simp [c1]
    have HSN : Hid (∀ m, GtI w g0 A C P (kl (gtX f P) (t + 1)) gg len cc (wr.drewN m) ∧ Row (wr.drewN m) X 34 #[.int .i64 f, .slice a n c, .slice l zl d, v3]) := fun m => HSk.out (wr.drewN m) (below_drewN (Below.refl _ _) m) (HGN.out (fun k => c1 k.1))
    clear HSk HGr HOW HGY HGN
    go_wp2_with fail
    go_quiet ((go_at_call 33; exact Calls.quiet_of_same (KCN.out _)))
    go_wp2
    go_roundw
    case rel => exact ⟨t + 1, gg, len, cc, by omega, by omega, HSN.out _, rfl, by go_num⟩
    case measure => simp [intOf]; omega
   have c1' : (p0.k == ck) = true := by simp [c1]
   have HC1 : Hid (p0.k = ck) := c1
   clear c1
   by_cases c2 : p0.n = cn
   case neg =>
    have c2' : (p0.n == cn) = false := by simp [c2]
    have HSN : Hid (∀ m, GtI w g0 A C P (kl (gtX f P) (t + 1)) gg len cc (wr.drewN m) ∧ Row (wr.drewN m) X 34 #[.int .i64 f, .slice a n c, .slice l zl d, v3]) := fun m => HSk.out (wr.drewN m) (below_drewN (Below.refl _ _) m) (HGN.out (fun k => c2 k.2))
    clear HSk HGr HOW HGY HGN
    go_wp2_with fail
    go_quiet ((go_at_call 33; exact Calls.quiet_of_same (KCN.out _)))
    go_wp2
    go_roundw
    case rel => exact ⟨t + 1, gg, len, cc, by omega, by omega, HSN.out _, rfl, by go_num⟩
    case measure => simp [intOf]; omega
   have c2' : (p0.n == cn) = true := by simp [c2]
   have HYes : Hid (gtX f P t = false) := HGY.out HC1.out c2
   clear c2 HC1 HSk HGY HGN
   go_wp2_with fail
   go_quiet ((go_at_call 33; exact Calls.quiet_of_same (KCN.out _)))
   obtain ⟨w4, HW4⟩ : ∃ v, Hid (v = wr.drewN nq) := ⟨_, rfl⟩
   have b24 : Below wr.heap.size wr w4 := by rw [HW4.out]; exact below_drewN (Below.refl _ _) _
   have R4 : Hid (w4.rangeAt b1 (off1 + t * 6) [.string p0.r, .int .i64 p0.k, .int .i64 p0.n, .int .i64 p0.i, .string p0.b, .slice ap p0.m cp]) := fun j v hv => (b24.cell (block_lt_of_cell (R1.out j v hv))).trans (R1.out j v hv)
   obtain ⟨w5, HW5⟩ : ∃ v, Hid (v = w4.alloc (.cells #[.string p0.r, .int .i64 p0.k, .int .i64 p0.n, .int .i64 p0.i, .string p0.b, .slice ap p0.m cp] 66)) := ⟨_, rfl⟩
   have b45 : Below w4.heap.size w4 w5 := by rw [HW5.out]; exact (Below.refl _ _).alloc (Nat.le_refl _) _
   have B5 : Hid (Below wr.heap.size wr w5) := below2 b24 b45
   have HNE : Hid (∀ j u, ([.string p0.r, .int .i64 p0.k, .int .i64 p0.n, .int .i64 p0.i, .string p0.b, .slice ap p0.m cp] : List Value)[j]? = some u → w5.cell? ((⟨w4.heap.size, 0, none⟩ : Addr).add j) = some u) := by rw [HW5.out]; exact World.news_of_block (cs := #[.string p0.r, .int .i64 p0.k, .int .i64 p0.n, .int .i64 p0.i, .string p0.b, .slice ap p0.m cp]) (t := 66) (fr := (0, 0)) (heap_alloc_new w4 _)
   have HO5 : Hid (OwnC w5 g0 (some ⟨gg, 0, none⟩) len cc (gtC A C P (kl (gtX f P) t)) ∧ g0 ≤ w5.heap.size) := ⟨(HOW.out _ B5.out).1, (HOW.out _ B5.out).2.2⟩
   rw [← HW4.out]
   clear b24 b45 HOW R1 x1 x2 x0
   go_wp2_with (first | (refine wpList_load_mid (by rfl) 66 _ (by rfl) b1 (off1 + t * 6) (by rfl) [.string p0.r, .int .i64 p0.k, .int .i64 p0.n, .int .i64 p0.i, .string p0.b, .slice ap p0.m cp] _ ?_ Tryz.underlying66 (by rfl) Tryz.infoPc ?_; exact R4.out) | (at_builtin; rw [← HW5.out]; refine (show True → _ from ?_) trivial))
   intro _
   refine wpList_append_all w5 (by rfl) _ _ 46 (by rfl) g0 66 i0 (.agg #[.string ByteArray.empty, .int .i64 0, .int .i64 0, .int .i64 0, .string ByteArray.empty, .slice none 0 0]) 6 80 Tryz.underlying46 hi hz0 hz1 hz2 rfl (by decide) gg len cc _ (by rfl) HO5.out.1 ⟨w4.heap.size, 0, none⟩ 1 1 [.string p0.r, .int .i64 p0.k, .int .i64 p0.n, .int .i64 p0.i, .string p0.b, .slice ap p0.m cp] (by rfl) (by rfl) HNE.out (by simp [Value.oneCell']) (by unfold maxLen; omega) (by omega) HO5.out.2 ?_
   intro g3 cap3 w6 hown6 hgr6
   have HS2 : Hid _ := HGr.out w5 w6 g3 cap3 B5.out HYes.out hown6 hgr6
   clear hown6 hgr6 HGr HO5 HNE
   go_wp2
   go_roundw
   case rel => exact ⟨t + 1, g3, len + 1, cap3, by omega, by omega, HS2, rfl, by go_num⟩
   case measure => simp [intOf]; omega
  ·obtain rfl : t = nl := by omega
   have HLN : (kl (gtX f P) t).length = len := HD.out.1.ln
   have HBW : Hid (Below w.heap.size w wr) := HD.out.1.bw
   have KNQ : Hid _ := KNP.out wr HBW.out
   have RX : Hid (Row wr X 34 #[.int .i64 f, .slice a n c, .slice l zl d, v3]) := HD.out.2
   have HMM : Hid (∀ i, i < len → (kl (gtX f P) t).getD i 0 < t) := fun i hi => kl_mem (by rw [HLN]; exact hi)
   have HI : Hid (GtI w g0 A C P (kl (gtX f P) t) gg len cc wr) := HD.out.1
   have HFin : Hid (∀ e, RgA root (len + (hsL N root (kl (lyP zs) n)).length) (jnP (kl (gtX f P) t) P len (hsP N root (kl (lyP zs) n))) e → GtA f n N zs root t P e) := fun e he => .inr ⟨h40, by rw [HLN]; exact he⟩
   rw [HLN] at KK
   obtain ⟨K, HKL⟩ : ∃ v, Hid (kl (gtX f P) t = v) := ⟨_, rfl⟩
   obtain ⟨ln, HL2⟩ : ∃ v, Hid ((hsL N root (kl (lyP zs) n)).length = v) := ⟨_, rfl⟩
   obtain ⟨Q, HQQ⟩ : ∃ v, Hid (hsP N root (kl (lyP zs) n) = v) := ⟨_, rfl⟩
   rw [HKL.out] at HMM HI HFin KK
   rw [HL2.out, HQQ.out] at HFin KK KNQ
   have hk1 := KK.out.n
   clear HD HLN KNP KCN
   go_wp2_with (refine wpList_load_row (by rfl) 34 _ (by rfl) X (by rfl) 34 #[.int .i64 f, .slice a n c, .slice l zl d, v3] (0, 0) _ ?_ Tryz.underlying34 (by rfl) Tryz.infoNt ?_; exact RX.out)
   refine Calls.mono KNQ.out ?_
   rintro e w1 ⟨g2, c2, F2, rfl, o1, b1⟩
   obtain ⟨A2, C2, hA2⟩ := PiAt.a (rd_pcs o1.rd)
   have HO1 : Hid (Ow w1 wr.heap.size (pcsD ln Q) (.slice (some ⟨g2, 0, none⟩) ln c2) F2) := o1
   have HA2 : Hid (PiA w1 (some ⟨g2, 0, none⟩) ln A2 C2 Q) := hA2
   have HB1 : Hid (Below wr.heap.size wr w1) := b1
   have HOC : Hid (OwnC w1 g0 (some ⟨gg, 0, none⟩) len cc (gtC A C P K) ∧ g0 ≤ w1.heap.size) := ⟨HI.out.op.below b1, by have := RX.out.lt; have := b1.size; have := HGX.out; omega⟩
   clear o1 b1 hA2 KNQ
   go_wp2_with (at_builtin; refine (show True → _ from ?_) trivial)
   intro _
   refine wpList_append_all w1 (by rfl) _ _ 46 (by rfl) g0 66 i0 (.agg #[.string ByteArray.empty, .int .i64 0, .int .i64 0, .int .i64 0, .string ByteArray.empty, .slice none 0 0]) 6 80 Tryz.underlying46 hi hz0 hz1 hz2 rfl (by decide) gg len cc _ (by rfl) HOC.out.1 ⟨g2, 0, none⟩ ln c2 (gL (fun i => cel (Q i) (.slice (A2 i) (Q i).m (C2 i))) ln) (by rfl) (gL_len _ _) (piA_news HA2.out) (fun u hu => by obtain ⟨i, q, _, hq, rfl⟩ := gL_mem hu; exact cel_one hq) (by unfold maxLen; omega) (by omega) HOC.out.2 ?_
   intro g3 cap3 w2 hown2 hgr2
   obtain ⟨⟨A3, C3, hA3⟩, b2⟩ := HI.out.join KP.out HMM.out HB1.out HO1.out HA2.out hown2 hgr2
   have HB2 : Hid (Below w.heap.size w w2) := b2
   have KRG : Hid _ := sRegain_any root (some ⟨g3, 0, none⟩) (len + ln) cap3 A3 C3 (jnP K P len Q) w2 (fun W hW => chosen_any root (some ⟨g3, 0, none⟩) (len + ln) cap3 A3 C3 (jnP K P len Q) W (hA3.below hW) KK.out.n KK.out.m KK.out.s)
   clear hown2 hgr2 hA3 b2 HOC HA2 HO1 HB1
   go_wp2_with fail
   refine Calls.mono KRG.out ?_
   rintro e w9 ⟨b9, h9'⟩
   have h9 : RgA root (len + ln) (jnP K P len Q) e := by
    rcases h9' with k1 | ⟨k1, L, k2, k3, k4⟩
    ·exact .inl k1
    ·exact .inr ⟨k1, L, k2, k3, rs_rg k4⟩
   clear h9'
   obtain ⟨ts, cs, rfl⟩ := rgA_is h9
   have HF9 : Hid _ := HFin.out _ h9
   have HB9 : Hid (Below w.heap.size w w9) := below2 HB2.out b9
   clear h9 b9 KRG
   go_wp2
   go_ret2
   exact ⟨HB9.out, HF9.out⟩
theorem hs_txt {n : Nat} {N : Nat → Nd} {zs : List Int} (root : ByteArray) (hb : ∀ i, i < n → NdB (N i)) (i : Nat) (hi : i < (hsL N root (kl (lyP zs) n)).length) (j : Nat) (hj : j < (hsP N root (kl (lyP zs) n) i).m) : ((hsP N root (kl (lyP zs) n) i).S j).size ≤ maxLen := by
 have hx : (hsL N root (kl (lyP zs) n)).getD i 0 < n := by
  have h1 : (hsL N root (kl (lyP zs) n)).getD i 0 ∈ hsL N root (kl (lyP zs) n) := by
   rw [List.getD_eq_getElem?_getD, List.getElem?_eq_getElem hi]
   exact List.getElem_mem hi
  exact List.mem_range.1 (List.mem_filter.1 (List.mem_filter.1 h1).1).1
 have hd := hb _ hx
 unfold hsP at hj ⊢
 generalize N ((hsL N root (kl (lyP zs) n)).getD i 0) = nd at hd hj ⊢
 unfold soS at hj ⊢
 cases e : plc nd.S root nd.n with
 | none => rw [e] at hj; exact absurd hj (Nat.not_lt_zero _)
 | some x =>
  rw [e] at hj
  obtain ⟨_, h2, _, _⟩ := plF_some e
  exact (hd.s x (by omega)).tx j hj
theorem gt_little {n : Nat} {N : Nat → Nd} {zs : List Int} {m : Nat} {Y : Nat → Sy} {nl : Nat} {P : Nat → Pc} {k : Nat} (f : Int) (root : ByteArray) (h : wtT n N zs m Y ≤ 1048576) (hb : ∀ i, i < n → NdB (N i)) (hk : 1048576 - wtT n N zs m Y = k) (hP : wtLp nl P ≤ k) (hB : ∀ i, i < nl → PcB (P i)) : GtK ((kl (gtX f P) nl).length + (hsL N root (kl (lyP zs) n)).length) (jnP (kl (gtX f P) nl) P (kl (gtX f P) nl).length (hsP N root (kl (lyP zs) n))) := by
 have h1 : (hsL N root (kl (lyP zs) n)).length ≤ n := Nat.le_trans (hsL_le _ _ _) (kl_le _ _)
 have h2 := kl_le (gtX f P) nl
 have h3 : n ≤ wtT n N zs m Y := by unfold wtT wtNs; omega
 have h4 : nl ≤ wtLp nl P := by unfold wtLp; omega
 have h5 := pcs_little root h
 refine ⟨by omega, fun i hi => ?_, fun i hi j hj => ?_⟩
 ·unfold jnP
  by_cases e : i < (kl (gtX f P) nl).length
  ·rw [if_pos e]
   have hx := kl_mem e
   have k2 := tot_le (fun i => wtP (P i)) hx
   have k3 : (P ((kl (gtX f P) nl).getD i 0)).m ≤ wtP (P ((kl (gtX f P) nl).getD i 0)) := by unfold wtP; omega
   have k4 : tot (fun i => wtP (P i)) ((kl (gtX f P) nl).getD i 0) + wtP (P ((kl (gtX f P) nl).getD i 0)) ≤ tot (fun i => wtP (P i)) nl := k2
   unfold wtLp at hP
   omega
  ·rw [if_neg e]
   exact h5.2.1 _ (by omega)
 ·unfold jnP at hj ⊢
  by_cases e : i < (kl (gtX f P) nl).length
  ·rw [if_pos e] at hj ⊢
   exact (hB _ (kl_mem e)).tx j hj
  ·rw [if_neg e] at hj ⊢
   exact hs_txt root hb _ (by omega) j hj
def pc0 : Nat → Pc := fun _ => ⟨ByteArray.empty, 0, 0, 0, ByteArray.empty, 0, fun _ => ByteArray.empty⟩
def HdP (f : Int) (n : Nat) (N : Nat → Nd) (zs : List Int) (root : ByteArray) : Prop := ∃ s : ByteArray, GtA f n N zs root 0 pc0 (.returned (.tuple #[.string s, .int .i64 0]))
open Classical in
noncomputable def hdB (f : Int) (n : Nat) (N : Nat → Nd) (zs : List Int) (root : ByteArray) : Bool := decide (HdP f n N zs root)
theorem hdB_yes {f : Int} {n : Nat} {N : Nat → Nd} {zs : List Int} {root : ByteArray} (h : HdP f n N zs root) : hdB f n N zs root = true := by unfold hdB; exact @decide_eq_true _ (Classical.propDecidable _) h
theorem hdB_no {f : Int} {n : Nat} {N : Nat → Nd} {zs : List Int} {root : ByteArray} (h : ¬ HdP f n N zs root) : hdB f n N zs root = false := by unfold hdB; exact @decide_eq_false _ (Classical.propDecidable _) h
theorem hd_of {f : Int} {n : Nat} {N : Nat → Nd} {zs : List Int} {root : ByteArray} {e : Ending} (h : GtA f n N zs root 0 pc0 e) : ∃ (s : ByteArray) (c : Int), e = .returned (.tuple #[.string s, .int .i64 c]) ∧ (c != 0) = !hdB f n N zs root := by
 obtain ⟨s, c, rfl⟩ := gtA_is h
 refine ⟨s, c, rfl, ?_⟩
 by_cases hc : c = 0
 ·subst hc
  rw [hdB_yes ⟨s, h⟩]
  rfl
 ·rw [hdB_no]
  ·simp [hc]
  ·rintro ⟨s', h'⟩
   have := gtA_one h h'
   injection this with this
   injection this with this
   simp at this
   exact hc this.2
def LoK (f : Int) (n : Nat) (N : Nat → Nd) (zs : List Int) (root : ByteArray) : Prop := GtK ((kl (gtX f pc0) 0).length + (hsL N root (kl (lyP zs) n)).length) (jnP (kl (gtX f pc0) 0) pc0 (kl (gtX f pc0) 0).length (hsP N root (kl (lyP zs) n)))
def lsT (L : List Nat) (S : Nat → ByteArray) (i : Nat) : ByteArray := S (L.getD i 0)
theorem lsT_snoc (L : List Nat) (S : Nat → ByteArray) (x : Nat) : sL (lsT (L ++ [x]) S) (L.length + 1) = sL (lsT L S) L.length ++ [Value.string (S x)] := by
 rw [sL_snoc]
 congr 1
 ·refine sL_congr fun i hi => ?_
  unfold lsT
  rw [List.getD_eq_getElem?_getD, List.getD_eq_getElem?_getD, List.getElem?_append_left hi]
 ·unfold lsT
  rw [List.getD_eq_getElem?_getD, List.getElem?_append_right (Nat.le_refl _)]
  simp
theorem lost_any (f : Int) (a : Option Addr) (n c : Nat) (l : Option Addr) (d : Nat) (zs : List Int) (v3 : Value) (N : Nat → Nd) (aR : Option Addr) (m cR : Nat) (S : Nat → ByteArray) (w : World) (h : Rd w (ndsD n N) (.slice a n c)) (hl : IntsAt w l zs.length zs) (hn : n ≤ 1048576) (hz : zs.length ≤ 1048576) (hQ : ∀ i, i < n → NdQ (N i)) (hR : TxtAt w aR m S) (hm : m ≤ 1048576) (hS : ∀ i, i < m → (S i).size ≤ 1048576) (hE : ErrT w) (hK : ∀ i, i < m → LoK f n N zs (S i)) :
  Calls Tryz.prog 9 #[ntV f (.slice a n c) (.slice l zs.length d) v3, .slice aR m cR] w fun e w' => ∃ g cc, e = .returned (.slice (some ⟨g, 0, none⟩) (kl (fun i => hdB f n N zs (S i)) m).length cc) ∧ OwnT w' w.heap.size (some ⟨g, 0, none⟩) (kl (fun i => hdB f n N zs (S i)) m).length cc (lsT (kl (fun i => hdB f n N zs (S i)) m) S) ∧ Below w.heap.size w w' := by
 obtain ⟨i0, hi0, hz0, hz1, hz2⟩ := info_parts Tryz.infoStr
 obtain ⟨D, HD⟩ : ∃ x, Hid (x = w.heap.size) := ⟨_, rfl⟩
 obtain ⟨v1, HV1⟩ : ∃ z, Hid (Value.slice a n c = z) := ⟨_, rfl⟩
 obtain ⟨v2, HV2⟩ : ∃ z, Hid (Value.slice l zs.length d = z) := ⟨_, rfl⟩
 obtain ⟨w0, HW0⟩ : ∃ x, Hid (x = w.alloc (.cells #[.int .i64 f, v1, v2, v3] 34)) := ⟨_, rfl⟩
 have RD : Hid (Row w0 D 34 #[.int .i64 f, v1, v2, v3]) := by show Row _ _ _ _; rw [HW0.out, HD.out]; exact Row.new w _ _
 have hb0 : Below w.heap.size w w0 := by rw [HW0.out]; exact (Below.refl _ _).alloc (Nat.le_refl _) _
 have KB0 : Hid (Below w.heap.size w w0) := hb0
 obtain ⟨q, HQ⟩ : ∃ x : Nat → Bool, Hid ((fun i => hdB f n N zs (S i)) = x) := ⟨_, rfl⟩
 have KG : Hid (∀ k W, k < m → Below w.heap.size w W → Calls Tryz.prog 22 #[ntV f v1 v2 v3, .string (S k), .slice none 0 0] W fun e w' => ∃ (s : ByteArray) (cd : Int), e = .returned (.tuple #[.string s, .int .i64 cd]) ∧ (cd != 0) = !q k ∧ Below W.heap.size W w') := fun k W hk hW => by
  rw [← HV1.out, ← HV2.out, ← HQ.out]
  refine (netGet_any f a n c l d zs v3 N (S k) none 0 0 (fun _ => none) (fun _ => 0) pc0 W (h.below hW) (hl.below hW) hn hz hQ (fun i hi => absurd hi (Nat.not_lt_zero _)) (hE.below hW) (fun P A C => sort_ok P A C) (fun _ => hK k hk)).mono ?_
  rintro e w' ⟨hb, hg⟩
  obtain ⟨s, cd, rfl, hcd⟩ := hd_of hg
  exact ⟨s, cd, rfl, hcd, hb⟩
 have KR : Hid (TxtAt w0 aR m S) := hR.below hb0
 have KS : Hid (∀ i, i < m → (S i).size ≤ 1048576) := hS
 have KC : Hid (∀ (s : ByteArray) W, s.size ≤ 1048576 → Calls Tryz.prog 23 #[.string s] W fun e w' => e = .returned (.string s) ∧ Below W.heap.size W w') := fun s W hs => clone_any s W hs
 have HO1 : Hid (OwnT (w0.alloc (.cells #[] 9)) w0.heap.size (some ⟨D + 1, 0, none⟩) 0 0 (lsT (kl q 0) S)) := by
  show OwnT _ _ _ _ _ _
  have e : D + 1 = w0.heap.size := by rw [HW0.out, HD.out]; simp
  rw [e]
  exact litT w0 _
 have HB1 : Hid (Below w0.heap.size w0 (w0.alloc (.cells #[] 9))) := (Below.refl _ _).alloc (Nat.le_refl _) _
 rw [HV1.out, HV2.out, HQ.out]
 clear h hl hQ hR hS hE hK hb0 HV1 HV2 HQ
 go_enter Tryz.func9, Tryz.ntmps9
 go_wp2_with fail
 rw [← HW0.out, ← HD.out]
 go_loopw [5, 13] (fun v vi wr => ∃ k len g cc : Nat, k ≤ m ∧ len ≤ k ∧ v = .slice (some ⟨g, 0, none⟩) len cc ∧ vi = .int .i64 (k : Int) ∧ Hid ((kl q k).length = len ∧ OwnT wr w0.heap.size (some ⟨g, 0, none⟩) len cc (lsT (kl q k) S) ∧ Below w0.heap.size w0 wr)) (fun _ vi _ => m - (intOf vi).toNat)
 case atStart => exact ⟨0, 0, _, 0, Nat.zero_le _, Nat.le_refl _, rfl, rfl, rfl, HO1.out, HB1.out⟩
 case round =>
  obtain ⟨k, len, g, cc, hk, hlk, rfl, rfl, HJ⟩ := hrel
  clear HO1 HB1
  by_cases hlt : k < m
  ·have hki : (k : Int) < (m : Int) := by omega
   obtain ⟨b1, f1, rfl, hc1⟩ := (KR.out.below HJ.out.2.2) k hlt
   have RDr : Hid (Row wr D 34 #[.int .i64 f, v1, v2, v3]) := RD.out.below HJ.out.2.2 RD.out.lt
   have hsk := KS.out k hlt
   have KG1 : Hid _ := KG.out k wr hlt (below2 KB0.out HJ.out.2.2)
   obtain ⟨sk, HSK⟩ : ∃ x, Hid (S k = x) := ⟨_, rfl⟩
   rw [HSK.out] at hc1 hsk KG1
   cases hq : q k with
   | true =>
    rw [hq] at KG1
    have HN : Hid (kl q (k + 1) = kl q k) := by show _ = _; rw [kl_succ, if_pos hq]
    clear hq
    go_wp2_with (refine wpList_load_row (by rfl) 34 _ (by rfl) D (by rfl) 34 #[.int .i64 f, v1, v2, v3] (0, 0) _ ?_ Tryz.underlying34 (by rfl) Tryz.infoNt ?_; exact RDr.out)
    refine Calls.mono KG1.out ?_
    rintro e v4 ⟨s, cd, rfl, hcd, b4⟩
    have hcd' : (cd != 0) = false := by simpa using hcd
    have HJ4 : Hid ((kl q (k + 1)).length = len ∧ OwnT v4 w0.heap.size (some ⟨g, 0, none⟩) len cc (lsT (kl q (k + 1)) S) ∧ Below w0.heap.size w0 v4) := by rw [HN.out]; exact ⟨HJ.out.1, HJ.out.2.1.below b4, below2 HJ.out.2.2 b4⟩
    clear b4 hcd hc1
    go_wp2
    go_roundw
    case rel => exact ⟨k + 1, len, g, cc, by omega, by omega, rfl, by go_num, HJ4⟩
    case measure => simp [intOf]; omega
   | false =>
    rw [hq] at KG1
    have HN : Hid (kl q (k + 1) = kl q k ++ [k]) := by show _ = _; rw [kl_succ, if_neg (by rw [hq]; simp)]
    clear hq
    go_wp2_with (refine wpList_load_row (by rfl) 34 _ (by rfl) D (by rfl) 34 #[.int .i64 f, v1, v2, v3] (0, 0) _ ?_ Tryz.underlying34 (by rfl) Tryz.infoNt ?_; exact RDr.out)
    refine Calls.mono KG1.out ?_
    rintro e v4 ⟨s, cd, rfl, hcd, b4⟩
    have hcd' : (cd != 0) = true := by simpa using hcd
    have O4 : Hid (OwnT v4 w0.heap.size (some ⟨g, 0, none⟩) len cc (lsT (kl q k) S) ∧ Below w0.heap.size w0 v4) := ⟨HJ.out.2.1.below b4, below2 HJ.out.2.2 b4⟩
    have KC4 : Hid _ := KC.out sk v4 hsk
    clear b4 hcd hc1
    go_wp2_with fail
    refine Calls.mono KC4.out ?_
    rintro e v5 ⟨rfl, b5⟩
    have O5 : Hid (OwnT v5 w0.heap.size (some ⟨g, 0, none⟩) len cc (lsT (kl q k) S)) := O4.out.1.below b5
    have B5 := below2 O4.out.2 b5
    have hs5 := B5.size
    have lg := World.ownsRow.lt O5.out _ rfl
    clear b5 KC4
    go_wp2_with (at_builtin; refine wpList_append_all _ (by rfl) _ _ 27 (by rfl) w0.heap.size 9 i0 (.string ByteArray.empty) 1 16 Tryz.underlying27 hi0 hz0 hz1 hz2 rfl (by decide) g len cc _ (by rfl) (World.ownsRow.alloc O5.out _) ⟨v5.heap.size, 0, none⟩ 1 1 [.string sk] (by rfl) (by rfl) (World.news_of_block (cs := #[.string sk]) (t := 9) (fr := (0, 0)) (heap_alloc_new v5 _)) (by simp [Value.oneCell']) (by unfold maxLen; omega) (by omega) (by simp; omega) ?_; intro g3 cap3 w7 hown3 hgrow3)
    have HJ7 : Hid ((kl q (k + 1)).length = len + 1 ∧ OwnT w7 w0.heap.size (some ⟨g3, 0, none⟩) (len + 1) cap3 (lsT (kl q (k + 1)) S) ∧ Below w0.heap.size w0 w7) := by
     refine ⟨by rw [HN.out, List.length_append, HJ.out.1]; rfl, ?_, (B5.alloc hs5 _).grown (show World.grownBy _ w7 (some g) from hgrow3) (by simp; omega) (fun j hj => by cases hj; exact lg.1)⟩
     show World.ownsRow _ _ _ _ _ _ _
     have e1 := lsT_snoc (kl q k) S k
     rw [HJ.out.1, HSK.out] at e1
     rw [HN.out, e1]
     exact hown3
    clear hown3 hgrow3 O5 B5 O4 hs5 lg
    go_roundw
    case rel => exact ⟨k + 1, len + 1, g3, cap3, by omega, by omega, rfl, by go_num, HJ7⟩
    case measure => simp [intOf]; omega
  ·obtain rfl : k = m := by omega
   have HF : Hid (OwnT wr w.heap.size (some ⟨g, 0, none⟩) (kl q k).length cc (lsT (kl q k) S) ∧ Below w.heap.size w wr) := ⟨by rw [HJ.out.1]; exact HJ.out.2.1.base KB0.out.size, below2 KB0.out HJ.out.2.2⟩
   have HLn : Hid ((kl q k).length = len) := HJ.out.1
   clear KR KS HJ
   go_wp2
   go_ret
   exact ⟨g, cc, congrArg (fun x => Ending.returned (.slice (some ⟨g, 0, none⟩) x cc)) HLn.out.symm, HF.out.1, HF.out.2⟩
theorem sLost_any (f : Int) (a : Option Addr) (n c : Nat) (l : Option Addr) (d : Nat) (zs : List Int) (v3 : Value) (N : Nat → Nd) (aR : Option Addr) (m cR : Nat) (S : Nat → ByteArray) (w : World) (h : Rd w (ndsD n N) (.slice a n c)) (hl : IntsAt w l zs.length zs) (hn : n ≤ 1048576) (hz : zs.length ≤ 1048576) (hQ : ∀ i, i < n → NdQ (N i)) (hR : TxtAt w aR m S) (hm : m ≤ 1048576) (hK : ∀ i, i < m → LoK f n N zs (S i)) :
  Calls Tryz.prog 6 #[ntV f (.slice a n c) (.slice l zs.length d) v3, .slice aR m cR] w fun e w' => ∃ g cc, e = .returned (.slice (some ⟨g, 0, none⟩) (kl (fun i => hdB f n N zs (S i)) m).length cc) ∧ OwnT w' w.heap.size (some ⟨g, 0, none⟩) (kl (fun i => hdB f n N zs (S i)) m).length cc (lsT (kl (fun i => hdB f n N zs (S i)) m) S) ∧ Below w.heap.size w w' := by
 obtain ⟨i0, hi0, hz0, hz1, hz2⟩ := info_parts Tryz.infoStr
 obtain ⟨D, HD⟩ : ∃ x, Hid (x = w.heap.size) := ⟨_, rfl⟩
 obtain ⟨v1, HV1⟩ : ∃ z, Hid (Value.slice a n c = z) := ⟨_, rfl⟩
 obtain ⟨v2, HV2⟩ : ∃ z, Hid (Value.slice l zs.length d = z) := ⟨_, rfl⟩
 obtain ⟨w0, HW0⟩ : ∃ x, Hid (x = w.alloc (.cells #[.int .i64 f, v1, v2, v3] 34)) := ⟨_, rfl⟩
 have RD : Hid (Row w0 D 34 #[.int .i64 f, v1, v2, v3]) := by show Row _ _ _ _; rw [HW0.out, HD.out]; exact Row.new w _ _
 have hb0 : Below w.heap.size w w0 := by rw [HW0.out]; exact (Below.refl _ _).alloc (Nat.le_refl _) _
 have KB0 : Hid (Below w.heap.size w w0) := hb0
 obtain ⟨q, HQ⟩ : ∃ x : Nat → Bool, Hid ((fun i => hdB f n N zs (S i)) = x) := ⟨_, rfl⟩
 have KG : Hid (∀ k aL cl W, k < m → Below w.heap.size w W → Calls Tryz.prog 18 #[ntV f v1 v2 v3, .string (S k), .slice aL 0 cl] W fun e w' => ∃ (s : ByteArray) (cd : Int), e = .returned (.tuple #[.string s, .int .i64 cd]) ∧ (cd != 0) = !q k ∧ Below W.heap.size W w') := fun k aL cl W hk hW => by
  rw [← HV1.out, ← HV2.out, ← HQ.out]
  refine (sNetGet_any f a n c l d zs v3 N (S k) aL 0 cl (fun _ => none) (fun _ => 0) pc0 W (h.below hW) (hl.below hW) hn hz hQ (fun i hi => absurd hi (Nat.not_lt_zero _)) (fun _ => hK k hk)).mono ?_
  rintro e w' ⟨hb, hg⟩
  obtain ⟨s, cd, rfl, hcd⟩ := hd_of hg
  exact ⟨s, cd, rfl, hcd, hb⟩
 have KR : Hid (TxtAt w0 aR m S) := hR.below hb0
 have HO1 : Hid (OwnT (w0.alloc (.cells #[] 9)) w0.heap.size (some ⟨D + 1, 0, none⟩) 0 0 (lsT (kl q 0) S)) := by
  show OwnT _ _ _ _ _ _
  have e : D + 1 = w0.heap.size := by rw [HW0.out, HD.out]; simp
  rw [e]
  exact litT w0 _
 have HB1 : Hid (Below w0.heap.size w0 (w0.alloc (.cells #[] 9))) := (Below.refl _ _).alloc (Nat.le_refl _) _
 rw [HV1.out, HV2.out, HQ.out]
 clear h hl hQ hR hK hb0 HV1 HV2 HQ
 go_enter Tryz.func6, Tryz.ntmps6
 go_wp2_with fail
 rw [← HW0.out, ← HD.out]
 go_loopw [5, 6] (fun v vi wr => ∃ k len g cc : Nat, k ≤ m ∧ len ≤ k ∧ v = .slice (some ⟨g, 0, none⟩) len cc ∧ vi = .int .i64 (k : Int) ∧ Hid ((kl q k).length = len ∧ OwnT wr w0.heap.size (some ⟨g, 0, none⟩) len cc (lsT (kl q k) S) ∧ Below w0.heap.size w0 wr)) (fun _ vi _ => m - (intOf vi).toNat)
 case atStart => exact ⟨0, 0, _, 0, Nat.zero_le _, Nat.le_refl _, rfl, rfl, rfl, HO1.out, HB1.out⟩
 case round =>
  obtain ⟨k, len, g, cc, hk, hlk, rfl, rfl, HJ⟩ := hrel
  clear HO1 HB1
  by_cases hlt : k < m
  ·have hki : (k : Int) < (m : Int) := by omega
   obtain ⟨b1, f1, rfl, hc1⟩ := (KR.out.below HJ.out.2.2) k hlt
   have RDr := RD.out.below HJ.out.2.2 RD.out.lt
   have lD := RDr.lt
   have lb := block_lt_of_cell hc1
   obtain ⟨sk, HSK⟩ : ∃ x, Hid (S k = x) := ⟨_, rfl⟩
   rw [HSK.out] at hc1
   obtain ⟨bq, HBQ⟩ : ∃ x, Hid (q k = x) := ⟨_, rfl⟩
   have KG1 : Hid (∀ aL cl W, Below wr.heap.size wr W → Calls Tryz.prog 18 #[ntV f v1 v2 v3, .string sk, .slice aL 0 cl] W fun e w' => ∃ (s : ByteArray) (cd : Int), e = .returned (.tuple #[.string s, .int .i64 cd]) ∧ (cd != 0) = !bq ∧ Below wr.heap.size wr w') := fun aL cl W hW => by
    rw [← HSK.out, ← HBQ.out]
    exact (KG.out k aL cl W hlt (below2 KB0.out (below2 HJ.out.2.2 hW))).mono fun e w' ⟨s, cd, he, hcd, hb⟩ => ⟨s, cd, he, hcd, below2 hW hb⟩
   have q0 := RDr.cell 0
   have q1 := RDr.cell 1
   have q2 := RDr.cell 2
   have q3 := RDr.cell 3
   simp at q0 q1 q2 q3
   have KS : Hid (∀ W, Below wr.heap.size wr W → W.cell? ⟨D, 0, none⟩ = some (.int .i64 f) ∧ W.cell? ⟨D, 1, none⟩ = some v1 ∧ W.cell? ⟨D, 2, none⟩ = some v2 ∧ W.cell? ⟨D, 3, none⟩ = some v3 ∧ W.cell? ⟨b1, f1 + k, none⟩ = some (.string sk)) := fun W hW => ⟨(hW.cell (p := ⟨D, 0, none⟩) lD).trans q0, (hW.cell (p := ⟨D, 1, none⟩) lD).trans q1, (hW.cell (p := ⟨D, 2, none⟩) lD).trans q2, (hW.cell (p := ⟨D, 3, none⟩) lD).trans q3, (hW.cell (p := ⟨b1, f1 + k, none⟩) lb).trans hc1⟩
   clear RDr lD lb
   go_upto_region 5 with fail
   go_cut [7, 8] from 16 to 25 (fun vs vc wx => ∃ (s : ByteArray) (cd : Int), vs = .string s ∧ vc = .int .i64 cd ∧ Hid ((cd != 0) = !bq ∧ Below wr.heap.size wr wx))
   case first =>
    go_region_held3 (fun w' => w'.cell? ⟨D, 0, none⟩ = some (.int .i64 f) ∧ w'.cell? ⟨D, 1, none⟩ = some v1 ∧ w'.cell? ⟨D, 2, none⟩ = some v2 ∧ w'.cell? ⟨D, 3, none⟩ = some v3 ∧ w'.cell? ⟨b1, f1 + k, none⟩ = some (.string sk)) (first | exact ⟨q0, q1, q2, q3, hc1⟩ | exact KS.out _ (by with_reducible assumption) | exact KS.out _ ((Below.refl _ _).drew) | exact KS.out _ ((Below.refl _ _).alloc (Nat.le_refl _) _) | exact KS.out _ (((Below.refl _ _).alloc (Nat.le_refl _) _).drew) | exact KS.out _ (((Below.refl _ _).drew).alloc (Nat.le_refl _) _)) ((go_at_call 18; refine Calls.mono (KG1.out _ _ _ (by first | exact ((Below.refl _ _).alloc (Nat.le_refl _) _).drew | exact ((Below.refl _ _).drew).alloc (Nat.le_refl _) _)) ?_; rintro e v4 ⟨s, cd, rfl, hcd, b4⟩))
    all_goals
     go_wp2_with fail
     go_meet
     exact ⟨s, cd, rfl, rfl, hcd, b4⟩
   obtain ⟨s, cd, rfl, rfl, HCD⟩ := hcut
   have hcd := HCD.out.1
   have bc := HCD.out.2
   clear KG1 KS q0 q1 q2 q3
   cases bq with
   | true =>
    have hcd' : (cd != 0) = false := by simpa using hcd
    have HN : Hid (kl q (k + 1) = kl q k) := by show _ = _; rw [kl_succ, if_pos HBQ.out]
    have HJ4 : Hid ((kl q (k + 1)).length = len ∧ OwnT wc w0.heap.size (some ⟨g, 0, none⟩) len cc (lsT (kl q (k + 1)) S) ∧ Below w0.heap.size w0 wc) := by rw [HN.out]; exact ⟨HJ.out.1, HJ.out.2.1.below bc, below2 HJ.out.2.2 bc⟩
    clear bc hcd hc1
    go_wp2
    go_roundw
    case rel => exact ⟨k + 1, len, g, cc, by omega, by omega, rfl, by go_num, HJ4⟩
    case measure => simp [intOf]; omega
   | false =>
    have hcd' : (cd != 0) = true := by simpa using hcd
    have HN : Hid (kl q (k + 1) = kl q k ++ [k]) := by show _ = _; rw [kl_succ, if_neg (by rw [HBQ.out]; simp)]
    have O5 : Hid (OwnT wc w0.heap.size (some ⟨g, 0, none⟩) len cc (lsT (kl q k) S)) := HJ.out.2.1.below bc
    have B5 := below2 HJ.out.2.2 bc
    have hs5 := B5.size
    have lg := World.ownsRow.lt O5.out _ rfl
    have hc2 := (bc.cell (block_lt_of_cell hc1)).trans hc1
    clear bc hcd hc1
    go_wp2_with (at_builtin; refine wpList_append_all _ (by rfl) _ _ 27 (by rfl) w0.heap.size 9 i0 (.string ByteArray.empty) 1 16 Tryz.underlying27 hi0 hz0 hz1 hz2 rfl (by decide) g len cc _ (by rfl) (World.ownsRow.alloc O5.out _) ⟨wc.heap.size, 0, none⟩ 1 1 [.string sk] (by rfl) (by rfl) (World.news_of_block (cs := #[.string sk]) (t := 9) (fr := (0, 0)) (heap_alloc_new wc _)) (by simp [Value.oneCell']) (by unfold maxLen; omega) (by omega) (by simp; omega) ?_; intro g3 cap3 w7 hown3 hgrow3)
    have HJ7 : Hid ((kl q (k + 1)).length = len + 1 ∧ OwnT w7 w0.heap.size (some ⟨g3, 0, none⟩) (len + 1) cap3 (lsT (kl q (k + 1)) S) ∧ Below w0.heap.size w0 w7) := by
     refine ⟨by rw [HN.out, List.length_append, HJ.out.1]; rfl, ?_, (B5.alloc hs5 _).grown (show World.grownBy _ w7 (some g) from hgrow3) (by simp; omega) (fun j hj => by cases hj; exact lg.1)⟩
     show World.ownsRow _ _ _ _ _ _ _
     have e1 := lsT_snoc (kl q k) S k
     rw [HJ.out.1, HSK.out] at e1
     rw [HN.out, e1]
     exact hown3
    clear hown3 hgrow3 O5 B5 hs5 lg hc2
    go_roundw
    case rel => exact ⟨k + 1, len + 1, g3, cap3, by omega, by omega, rfl, by go_num, HJ7⟩
    case measure => simp [intOf]; omega
  ·obtain rfl : k = m := by omega
   have HF : Hid (OwnT wr w.heap.size (some ⟨g, 0, none⟩) (kl q k).length cc (lsT (kl q k) S) ∧ Below w.heap.size w wr) := ⟨by rw [HJ.out.1]; exact HJ.out.2.1.base KB0.out.size, below2 KB0.out HJ.out.2.2⟩
   have HLn : Hid ((kl q k).length = len) := HJ.out.1
   clear KR HJ
   go_wp2
   go_ret
   exact ⟨g, cc, congrArg (fun x => Ending.returned (.slice (some ⟨g, 0, none⟩) x cc)) HLn.out.symm, HF.out.1, HF.out.2⟩
theorem Trn.toM {w w' : World} {F : Nat → Prop} {B E : Nat} (h : Trn w w' F) (hF : ∀ g, F g → B ≤ g ∧ g < E) : TurnM w w' B E := ⟨h.os, h.tape, h.output, h.size, fun j hj hn => h.block j hj fun hf => by have := hF j hf; omega⟩
theorem walk_FnExactLost (f : Int) (a : Option Addr) (n c : Nat) (l : Option Addr) (zs : List Int) (d : Nat) (e : Option Addr) (m g : Nat) (N : Nat → Nd) (Y : Nat → Sy) (a1 : Option Addr) (len1 cap1 : Nat) (S1 : Nat → ByteArray) (w : World) (w0 : NetA w a n c l zs e m g N Y) (w1 : IsTxt w a1 len1 S1) (hE : ErrT w) :
  Calls Tryz.prog 3 #[.agg #[.int .i64 f, .slice a n c, .slice l zs.length d, .slice e m g], .slice a1 len1 cap1] w fun e w' => e = .returned (.bool true) ∧ Below w.heap.size w w' := by
 have hT := w0
 clear w0
 obtain ⟨hX, hlen, hSz⟩ := w1
 have KA : Hid (∀ W, Below w.heap.size w W → NetA W a n c l zs e m g N Y ∧ TxtAt W a1 len1 S1 ∧ ErrT W) := fun W hW => ⟨⟨hT.rn.below hW, hT.rl.below hW, hT.ry.below hW, hT.hn, hT.hl, hT.hm, hT.bn, hT.by'⟩, hX.below hW, hE.below hW⟩
 obtain ⟨B, HB⟩ : ∃ x, Hid (x = w.heap.size) := ⟨_, rfl⟩
 obtain ⟨w0, HW0⟩ : ∃ x, Hid (x = w.alloc (.cells #[.int .i64 f, .slice a n c, .slice l zs.length d, .slice e m g] 26)) := ⟨_, rfl⟩
 have HR0 : Hid (Row w0 B 26 #[.int .i64 f, .slice a n c, .slice l zs.length d, .slice e m g]) := by show Row _ _ _ _; rw [HW0.out, HB.out]; exact Row.new w _ _
 have hb0 : Below w.heap.size w w0 := by rw [HW0.out]; exact (Below.refl _ _).alloc (Nat.le_refl _) _
 have KZ : Hid (Calls Tryz.prog 4 #[.agg #[.int .i64 f, .slice a n c, .slice l zs.length d, .slice e m g], .int .i64 ((1048576 : Nat) : Int)] w0 _) := szNt_any f a n c l zs d e m g N Y 1048576 w0 (KA.out _ hb0).1 (by omega)
 have KB0 : Hid (Below w.heap.size w w0) := hb0
 have HBN : Hid (∀ i, i < n → NdB (N i)) := hT.bn
 have KZT : Hid (∀ (q : Nat) W, q ≤ 1048576 → Below w.heap.size w W → Calls Tryz.prog 5 #[.slice a1 len1 cap1, .int .i64 (q : Int)] W fun e w' => e = .returned (.int .i64 (szN q (len1 + tot (fun i => (S1 i).size) len1))) ∧ w' = W) := fun q W hq hW => szT_any a1 len1 cap1 S1 q W (hX.below hW) hq hlen hSz
 clear hb0 hT hX hE hlen hSz
 by_cases h0 : wtT n N zs m Y ≤ 1048576
 case neg =>
  rw [szN_no h0] at KZ
  clear h0
  go_enter Tryz.func3, Tryz.ntmps3
  go_wp2_with (rw [← HW0.out, ← HB.out]; refine wpList_load_row (by rfl) 26 _ (by rfl) B (by rfl) 26 #[.int .i64 f, .slice a n c, .slice l zs.length d, .slice e m g] (0, 0) _ ?_ Tryz.underlying26 (by rfl) Tryz.infoNtL2 ?_; exact HR0.out)
  refine Calls.mono KZ.out ?_
  rintro e' w1 ⟨rfl, b1⟩
  go_wp2
  go_ret
  exact ⟨rfl, below2 KB0.out b1⟩
 obtain ⟨left, hleft⟩ : ∃ q, 1048576 - wtT n N zs m Y = q := ⟨_, rfl⟩
 rw [szN_yes h0, hleft] at KZ
 have neg0 : ¬ ((left : Int) < 0) := by omega
 have KZ2 : Hid _ := fun W => KZT.out left W (by omega)
 by_cases hx0 : len1 + tot (fun i => (S1 i).size) len1 ≤ left
 case neg =>
  simp only [szN_no hx0] at KZ2
  clear h0 hx0 hleft
  go_enter Tryz.func3, Tryz.ntmps3
  go_wp2_with (rw [← HW0.out, ← HB.out]; refine wpList_load_row (by rfl) 26 _ (by rfl) B (by rfl) 26 #[.int .i64 f, .slice a n c, .slice l zs.length d, .slice e m g] (0, 0) _ ?_ Tryz.underlying26 (by rfl) Tryz.infoNtL2 ?_; exact HR0.out)
  refine Calls.mono KZ.out ?_
  rintro e' w1 ⟨rfl, b1⟩
  have KB1 : Hid (Below w.heap.size w w1) := below2 KB0.out b1
  clear b1
  go_wp2_with fail
  refine Calls.mono (KZ2.out _ KB1.out) ?_
  rintro e' w2 ⟨rfl, hw⟩
  obtain rfl := hw.symm
  clear hw
  go_wp2
  go_ret
  exact ⟨rfl, KB1.out⟩
 obtain ⟨left2, hleft2⟩ : ∃ q, left - (len1 + tot (fun i => (S1 i).size) len1) = q := ⟨_, rfl⟩
 simp only [szN_yes hx0, hleft2] at KZ2
 have neg2 : ¬ ((left2 : Int) < 0) := by omega
 obtain ⟨hQ, hW⟩ := wtT_little h0
 have hl1 : len1 ≤ 1048576 := by omega
 have hSs : ∀ i, i < len1 → (S1 i).size ≤ 1048576 := fun i hi => by have := tot_le (fun i => (S1 i).size) hi; omega
 have hKK : ∀ i, i < len1 → LoK f n N zs (S1 i) := fun i _ => gt_little f (S1 i) h0 HBN.out hleft (by show 0 + 0 ≤ _; omega) (fun i hi => absurd hi (Nat.not_lt_zero _))
 obtain ⟨L, HLL⟩ : ∃ x, Hid (kl (fun i => hdB f n N zs (S1 i)) len1 = x) := ⟨_, rfl⟩
 obtain ⟨ln, HLN⟩ : ∃ x, Hid (L.length = x) := ⟨_, rfl⟩
 have hl_L : ln ≤ 1048576 := by rw [← HLN.out, ← HLL.out]; have := kl_le (fun i => hdB f n N zs (S1 i)) len1; omega
 obtain ⟨T, HTT⟩ : ∃ x, Hid (lsT L S1 = x) := ⟨_, rfl⟩
 have KTo : Hid (∀ W, NetA W a n c l zs e m g N Y → Calls Tryz.prog 7 #[.agg #[.int .i64 f, .slice a n c, .slice l zs.length d, .slice e m g]] W fun r w' => ∃ g1 g2 g3, r = .returned (ntV f (.slice (some ⟨g1, 0, none⟩) n n) (.slice (some ⟨g2, 0, none⟩) zs.length zs.length) (.slice (some ⟨g3, 0, none⟩) m m)) ∧ (∃ F1 F2 F3, NtO w' W.heap.size n N zs m Y (.slice (some ⟨g1, 0, none⟩) n n) (.slice (some ⟨g2, 0, none⟩) zs.length zs.length) (.slice (some ⟨g3, 0, none⟩) m m) F1 F2 F3 ∧ ∀ x, F1 x ∨ F2 x ∨ F3 x → W.heap.size ≤ x ∧ x < w'.heap.size) ∧ Below W.heap.size W w') := fun W hW' => by
  refine (toNt_any f a n c l zs d e m g N Y W hW' hW.kn hW.kN hW.kz hW.km hW.kY).mono ?_
  rintro r w' ⟨g1, g2, g3, rfl, F1, F2, F3, o1, o2, o3, d1, d2, d3, bb⟩
  obtain ⟨G1, G2, G3, o, hd⟩ := NtO.cut (⟨o1, o2, o3, d1, d2, d3⟩ : NtO w' W.heap.size n N zs m Y _ _ _ F1 F2 F3)
  exact ⟨g1, g2, g3, rfl, ⟨G1, G2, G3, o, hd⟩, bb⟩
 have KTT : Hid (∀ W, TxtAt W a1 len1 S1 → Calls Tryz.prog 8 #[.slice a1 len1 cap1] W fun e w' => ∃ gx, e = .returned (.slice (some ⟨gx, 0, none⟩) len1 len1) ∧ OwnT w' W.heap.size (some ⟨gx, 0, none⟩) len1 len1 S1 ∧ Below W.heap.size W w') := fun W hW => (toT_any a1 len1 cap1 S1 W hW hl1).mono fun e w' ⟨he, ho, hb⟩ => ⟨_, he, ho, hb⟩
 have KSp : Hid (∀ g1 g2 g3 gx W, Rd W (ndsD n N) (.slice (some ⟨g1, 0, none⟩) n n) → IntsAt W (some ⟨g2, 0, none⟩) zs.length zs → TxtAt W (some ⟨gx, 0, none⟩) len1 S1 → Calls Tryz.prog 6 #[ntV f (.slice (some ⟨g1, 0, none⟩) n n) (.slice (some ⟨g2, 0, none⟩) zs.length zs.length) (.slice (some ⟨g3, 0, none⟩) m m), .slice (some ⟨gx, 0, none⟩) len1 len1] W fun r w' => ∃ gg cc, r = .returned (.slice (some ⟨gg, 0, none⟩) ln cc) ∧ OwnT w' W.heap.size (some ⟨gg, 0, none⟩) ln cc T ∧ Below W.heap.size W w') := fun g1 g2 g3 gx W h1 h2 h3 => by
  have := sLost_any f (some ⟨g1, 0, none⟩) n n (some ⟨g2, 0, none⟩) zs.length zs (.slice (some ⟨g3, 0, none⟩) m m) N (some ⟨gx, 0, none⟩) len1 len1 S1 W h1 h2 hW.kn hW.kz hQ h3 hl1 hKK
  rw [HLL.out, HLN.out, HTT.out] at this
  exact this
 have KIm : Hid (∀ g1 g2 g3 gx W, Rd W (ndsD n N) (.slice (some ⟨g1, 0, none⟩) n n) → IntsAt W (some ⟨g2, 0, none⟩) zs.length zs → TxtAt W (some ⟨gx, 0, none⟩) len1 S1 → ErrT W → Calls Tryz.prog 9 #[ntV f (.slice (some ⟨g1, 0, none⟩) n n) (.slice (some ⟨g2, 0, none⟩) zs.length zs.length) (.slice (some ⟨g3, 0, none⟩) m m), .slice (some ⟨gx, 0, none⟩) len1 len1] W fun r w' => ∃ gg cc, r = .returned (.slice (some ⟨gg, 0, none⟩) ln cc) ∧ OwnT w' W.heap.size (some ⟨gg, 0, none⟩) ln cc T ∧ Below W.heap.size W w') := fun g1 g2 g3 gx W h1 h2 h3 h4 => by
  have := lost_any f (some ⟨g1, 0, none⟩) n n (some ⟨g2, 0, none⟩) zs.length zs (.slice (some ⟨g3, 0, none⟩) m m) N (some ⟨gx, 0, none⟩) len1 len1 S1 W h1 h2 hW.kn hW.kz hQ h3 hl1 hSs h4 hKK
  rw [HLL.out, HLN.out, HTT.out] at this
  exact this
 have KEq : Hid (∀ g1 g2 g3 k1 k2 k3 W, (Rd W (ndsD n N) (.slice (some ⟨g1, 0, none⟩) n n) ∧ IntsAt W (some ⟨g2, 0, none⟩) zs.length zs ∧ Rd W (sysD m Y) (.slice (some ⟨g3, 0, none⟩) m m)) → (Rd W (ndsD n N) (.slice (some ⟨k1, 0, none⟩) n n) ∧ IntsAt W (some ⟨k2, 0, none⟩) zs.length zs ∧ Rd W (sysD m Y) (.slice (some ⟨k3, 0, none⟩) m m)) → Calls Tryz.prog 11 #[ntV f (.slice (some ⟨g1, 0, none⟩) n n) (.slice (some ⟨g2, 0, none⟩) zs.length zs.length) (.slice (some ⟨g3, 0, none⟩) m m), ntV f (.slice (some ⟨k1, 0, none⟩) n n) (.slice (some ⟨k2, 0, none⟩) zs.length zs.length) (.slice (some ⟨k3, 0, none⟩) m m)] W fun r w' => r = .returned (.bool true) ∧ Below W.heap.size W w') := fun g1 g2 g3 k1 k2 k3 W h1 h2 => eqNt_same f _ _ n n n _ _ zs zs.length zs.length _ _ m m m N Y W h1.1 h2.1 h1.2.1 h2.2.1 h1.2.2 h2.2.2 hW.kn hW.kN hW.kz hW.km hW.kY
 have KW : Hid (NtW n N zs m Y) := hW
 clear h0 hleft hQ hW hx0 hleft2 hSs hKK KZT HLL HLN HTT
 go_enter Tryz.func3, Tryz.ntmps3
 go_wp2_with (rw [← HW0.out, ← HB.out]; refine wpList_load_row (by rfl) 26 _ (by rfl) B (by rfl) 26 #[.int .i64 f, .slice a n c, .slice l zs.length d, .slice e m g] (0, 0) _ ?_ Tryz.underlying26 (by rfl) Tryz.infoNtL2 ?_; exact HR0.out)
 refine Calls.mono KZ.out ?_
 rintro e' w1 ⟨rfl, b1⟩
 have HR1 : Hid (Row w1 B 26 #[.int .i64 f, .slice a n c, .slice l zs.length d, .slice e m g]) := HR0.out.below b1 HR0.out.lt
 have KB1 : Hid (Below w.heap.size w w1) := below2 KB0.out b1
 clear b1 KZ HR0 HW0 KB0
 go_wp2_with fail
 refine Calls.mono (KZ2.out _ KB1.out) ?_
 rintro e' w2 ⟨rfl, hw⟩
 obtain rfl := hw.symm
 clear hw KZ2
 go_wp2_with (refine wpList_load_row (by rfl) 26 _ (by rfl) B (by rfl) 26 #[.int .i64 f, .slice a n c, .slice l zs.length d, .slice e m g] (0, 0) _ ?_ Tryz.underlying26 (by rfl) Tryz.infoNtL2 ?_; exact HR1.out)
 refine Calls.mono (KTo.out _ (KA.out _ KB1.out).1) ?_
 rintro e' w2 ⟨g21, g22, g23, rfl, ⟨_, _, _, O2, _⟩, b2⟩
 have HR2 : Hid (Row w2 B 26 #[.int .i64 f, .slice a n c, .slice l zs.length d, .slice e m g]) := HR1.out.below b2 HR1.out.lt
 have KB2 : Hid (Below w.heap.size w w2) := below2 KB1.out b2
 have KO2 : Hid ((Rd w2 (ndsD n N) (.slice (some ⟨g21, 0, none⟩) n n) ∧ IntsAt w2 (some ⟨g22, 0, none⟩) zs.length zs ∧ Rd w2 (sysD m Y) (.slice (some ⟨g23, 0, none⟩) m m))) := ⟨O2.n.rd, rd_ints.1 O2.z.rd, O2.y.rd⟩
 clear b2 O2 HR1 KB1
 go_wp2_with fail
 refine Calls.mono (KTT.out _ (KA.out _ KB2.out).2.1) ?_
 rintro e' w3 ⟨gx2, rfl, o3, b3⟩
 have HR3 : Hid (Row w3 B 26 #[.int .i64 f, .slice a n c, .slice l zs.length d, .slice e m g]) := HR2.out.below b3 HR2.out.lt
 have KB3 : Hid (Below w.heap.size w w3) := below2 KB2.out b3
 have KS3 : Hid _ := KSp.out g21 g22 g23 gx2 w3 (KO2.out.1.below b3) (KO2.out.2.1.below b3) o3.at
 clear b3 o3 HR2 KB2 KO2
 go_wp2_with fail
 refine Calls.mono KS3.out ?_
 rintro e' w4 ⟨gW, cW, rfl, o4, b4⟩
 have WI := o4.at
 have HR4 := HR3.out.below b4 HR3.out.lt
 have KB4 := below2 KB3.out b4
 have KE : Hid (∀ W, Below w4.heap.size w4 W → Row W B 26 #[.int .i64 f, .slice a n c, .slice l zs.length d, .slice e m g] ∧ TxtAt W (some ⟨gW, 0, none⟩) ln T ∧ NetA W a n c l zs e m g N Y ∧ TxtAt W a1 len1 S1 ∧ ErrT W ∧ Below w.heap.size w W) := fun W hW => ⟨HR4.below hW HR4.lt, WI.below hW, (KA.out _ (below2 KB4 hW)).1, (KA.out _ (below2 KB4 hW)).2.1, (KA.out _ (below2 KB4 hW)).2.2, below2 KB4 hW⟩
 have R4 := (KE.out w4 (Below.refl _ _)).1
 have RR4 : Hid (Row w4 B 26 #[.int .i64 f, .slice a n c, .slice l zs.length d, .slice e m g]) := R4
 have KT4 : Hid _ := KTo.out _ (KE.out w4 (Below.refl _ _)).2.2.1
 clear b4 o4 WI HR4 KB4 R4 KS3 HR3 KB3 KA
 go_wp2_with (refine wpList_load_row (by rfl) 26 _ (by rfl) B (by rfl) 26 #[.int .i64 f, .slice a n c, .slice l zs.length d, .slice e m g] (0, 0) _ ?_ Tryz.underlying26 (by rfl) Tryz.infoNtL2 ?_; exact RR4.out)
 refine Calls.mono KT4.out ?_
 rintro e' w5 ⟨g1, g2, g3, rfl, ⟨F1, F2, F3, O5, hF5⟩, b5⟩
 obtain ⟨w6, HW6⟩ : ∃ x, Hid (x = w5.alloc (.cells #[.int .i64 f, .slice (some ⟨g1, 0, none⟩) n n, .slice (some ⟨g2, 0, none⟩) zs.length zs.length, .slice (some ⟨g3, 0, none⟩) m m] 34)) := ⟨_, rfl⟩
 obtain ⟨D, HD⟩ : ∃ x, Hid (x = w5.heap.size) := ⟨_, rfl⟩
 have b56 : Below w5.heap.size w5 w6 := by rw [HW6.out]; exact (Below.refl _ _).alloc (Nat.le_refl _) _
 have KX6 : Hid (Row w6 D 34 #[.int .i64 f, .slice (some ⟨g1, 0, none⟩) n n, .slice (some ⟨g2, 0, none⟩) zs.length zs.length, .slice (some ⟨g3, 0, none⟩) m m]) := by show Row _ _ _ _; rw [HW6.out, HD.out]; exact Row.new w5 _ _
 have KO6 : Hid (NtO w6 w4.heap.size n N zs m Y (.slice (some ⟨g1, 0, none⟩) n n) (.slice (some ⟨g2, 0, none⟩) zs.length zs.length) (.slice (some ⟨g3, 0, none⟩) m m) F1 F2 F3) := O5.below b56
 have HFb : Hid (∀ x, F1 x ∨ F2 x ∨ F3 x → w4.heap.size ≤ x ∧ x < D) := fun x hx => by rw [HD.out]; exact hF5 x hx
 have cum6 : Hid (Below w4.heap.size w4 w6) := below2 b5 b56
 have HD4 : Hid (w4.heap.size ≤ D) := by show _ ≤ _; rw [HD.out]; exact b5.size
 have KX6T : Hid _ := KTT.out w6 (KE.out _ cum6.out).2.2.2.1
 clear b5 b56 O5 hF5 KT4 RR4
 go_wp2_with fail
 rw [← HW6.out, ← HD.out]
 refine Calls.mono KX6T.out ?_
 rintro e' w6b ⟨gX, rfl, oX, b6b⟩
 obtain ⟨bx, HBX⟩ : ∃ x, Hid (w6.heap.size = x) := ⟨_, rfl⟩
 obtain ⟨ex, HEX⟩ : ∃ x, Hid (w6b.heap.size = x) := ⟨_, rfl⟩
 have X6 := OwnT.row oX
 rw [HBX.out, HEX.out] at X6
 have HDx : Hid (D < bx ∧ bx ≤ ex) := ⟨by rw [← HBX.out]; exact KX6.out.lt, by rw [← HBX.out, ← HEX.out]; exact b6b.size⟩
 have KXR6 : Hid (RowT w6b bx ex (some ⟨gX, 0, none⟩) len1 len1 S1) := X6
 have KX6b : Hid (Row w6b D 34 #[.int .i64 f, .slice (some ⟨g1, 0, none⟩) n n, .slice (some ⟨g2, 0, none⟩) zs.length zs.length, .slice (some ⟨g3, 0, none⟩) m m]) := KX6.out.below b6b KX6.out.lt
 have KO6b : Hid (NtO w6b w4.heap.size n N zs m Y (.slice (some ⟨g1, 0, none⟩) n n) (.slice (some ⟨g2, 0, none⟩) zs.length zs.length) (.slice (some ⟨g3, 0, none⟩) m m) F1 F2 F3) := KO6.out.below b6b
 have cum6b : Hid (Below w4.heap.size w4 w6b) := below2 cum6.out b6b
 have KC6 : Hid _ := KIm.out g1 g2 g3 gX w6b KO6b.out.n.rd (rd_ints.1 KO6b.out.z.rd) X6.at (KE.out _ cum6b.out).2.2.2.2.1
 clear b6b oX X6 KX6T cum6 KX6 KO6 HW6 HD HBX
 go_wp2_with (refine wpList_load_row (by rfl) 34 _ (by rfl) D (by rfl) 34 #[.int .i64 f, .slice (some ⟨g1, 0, none⟩) n n, .slice (some ⟨g2, 0, none⟩) zs.length zs.length, .slice (some ⟨g3, 0, none⟩) m m] (0, 0) _ ?_ Tryz.underlying34 (by rfl) Tryz.infoNt ?_; exact KX6b.out)
 refine Calls.mono KC6.out ?_
 rintro e' w7 ⟨gG, cG, rfl, o7, b7⟩
 obtain ⟨eg, HEG⟩ : ∃ x, Hid (w7.heap.size = x) := ⟨_, rfl⟩
 have G7 := OwnT.row o7
 rw [HEX.out, HEG.out] at G7
 have GG7 : Hid (RowT w7 ex eg (some ⟨gG, 0, none⟩) ln cG T) := G7
 have HEx : Hid (ex ≤ eg) := by show _ ≤ _; rw [← HEX.out, ← HEG.out]; exact b7.size
 have cum7 : Hid (Below w4.heap.size w4 w7) := below2 cum6b.out b7
 have KX7 : Hid (Row w7 D 34 #[.int .i64 f, .slice (some ⟨g1, 0, none⟩) n n, .slice (some ⟨g2, 0, none⟩) zs.length zs.length, .slice (some ⟨g3, 0, none⟩) m m]) := KX6b.out.below b7 KX6b.out.lt
 have KO7 : Hid (NtO w7 w4.heap.size n N zs m Y (.slice (some ⟨g1, 0, none⟩) n n) (.slice (some ⟨g2, 0, none⟩) zs.length zs.length) (.slice (some ⟨g3, 0, none⟩) m m) F1 F2 F3) := KO6b.out.below b7
 have KXR7 : Hid (RowT w7 bx ex (some ⟨gX, 0, none⟩) len1 len1 S1) := KXR6.out.below b7
 have KC7 : Hid _ := eqT_same (some ⟨gG, 0, none⟩) (some ⟨gW, 0, none⟩) ln cG cW T w7 G7.at (KE.out _ cum7.out).2.1 hl_L
 clear b7 o7 G7 KC6 cum6b KX6b KO6b KXR6 HEX HEG
 go_wp2_with fail
 refine Calls.mono KC7.out ?_
 rintro e' w8 ⟨rfl, b8⟩
 have cum8 : Hid (Below w4.heap.size w4 w8) := below2 cum7.out b8
 have KX8 : Hid (Row w8 D 34 #[.int .i64 f, .slice (some ⟨g1, 0, none⟩) n n, .slice (some ⟨g2, 0, none⟩) zs.length zs.length, .slice (some ⟨g3, 0, none⟩) m m]) := KX7.out.below b8 KX7.out.lt
 have KO8 : Hid (NtO w8 w4.heap.size n N zs m Y (.slice (some ⟨g1, 0, none⟩) n n) (.slice (some ⟨g2, 0, none⟩) zs.length zs.length) (.slice (some ⟨g3, 0, none⟩) m m) F1 F2 F3) := KO7.out.below b8
 have KXR8 : Hid (RowT w8 bx ex (some ⟨gX, 0, none⟩) len1 len1 S1) := KXR7.out.below b8
 have GG8 : Hid (RowT w8 ex eg (some ⟨gG, 0, none⟩) ln cG T) := GG7.out.below b8
 clear b8 KC7 cum7 KX7 KO7 KXR7 GG7
 go_upto_region 14 with fail
 go_cut [44] from 40 to 44 (fun v wx => Hid (v = .bool false ∧ Below w8.heap.size w8 wx))
 case first =>
  have RB8 := (KE.out _ cum8.out).1
  have q0 := RB8.cell 0
  have y0 := KX8.out.cell 0
  have q1 := RB8.cell 1
  have y1 := KX8.out.cell 1
  have q2 := RB8.cell 2
  have y2 := KX8.out.cell 2
  have q3 := RB8.cell 3
  have y3 := KX8.out.cell 3
  simp at q0 y0 q1 y1 q2 y2 q3 y3
  have lB := RB8.lt
  have lD := KX8.out.lt
  have KTP : Hid _ := KTo.out w8.drew (KE.out w8.drew (below_drewN cum8.out 1)).2.2.1
  have KO8r : Hid (Rd w8 (ndsD n N) (.slice (some ⟨g1, 0, none⟩) n n) ∧ IntsAt w8 (some ⟨g2, 0, none⟩) zs.length zs ∧ Rd w8 (sysD m Y) (.slice (some ⟨g3, 0, none⟩) m m)) := ⟨KO8.out.n.rd, rd_ints.1 KO8.out.z.rd, KO8.out.y.rd⟩
  clear RB8
  go_region_held3 (fun w' => w'.cell? ⟨B, 0, none⟩ = some (.int .i64 f) ∧ w'.cell? ⟨B, 1, none⟩ = some (.slice a n c) ∧ w'.cell? ⟨B, 2, none⟩ = some (.slice l zs.length d) ∧ w'.cell? ⟨B, 3, none⟩ = some (.slice e m g) ∧ w'.cell? ⟨D, 0, none⟩ = some (.int .i64 f) ∧ w'.cell? ⟨D, 1, none⟩ = some (.slice (some ⟨g1, 0, none⟩) n n) ∧ w'.cell? ⟨D, 2, none⟩ = some (.slice (some ⟨g2, 0, none⟩) zs.length zs.length) ∧ w'.cell? ⟨D, 3, none⟩ = some (.slice (some ⟨g3, 0, none⟩) m m)) (go_keep) ((first | (go_at_call 7; refine Calls.mono (KTP.out) ?_; rintro e' v7 ⟨k1, k2, k3, rfl, ⟨_, _, _, O7, _⟩, b7'⟩; have v7b := below_of_drew b7'; clear b7'; have KO7 : Hid (Rd v7 (ndsD n N) (.slice (some ⟨k1, 0, none⟩) n n) ∧ IntsAt v7 (some ⟨k2, 0, none⟩) zs.length zs ∧ Rd v7 (sysD m Y) (.slice (some ⟨k3, 0, none⟩) m m)) := ⟨O7.n.rd, rd_ints.1 O7.z.rd, O7.y.rd⟩; clear O7; have p0 := (v7b.cell (p := ⟨B, 0, none⟩) lB).trans q0; have z0 := (v7b.cell (p := ⟨D, 0, none⟩) lD).trans y0; have p1 := (v7b.cell (p := ⟨B, 1, none⟩) lB).trans q1; have z1 := (v7b.cell (p := ⟨D, 1, none⟩) lD).trans y1; have p2 := (v7b.cell (p := ⟨B, 2, none⟩) lB).trans q2; have z2 := (v7b.cell (p := ⟨D, 2, none⟩) lD).trans y2; have p3 := (v7b.cell (p := ⟨B, 3, none⟩) lB).trans q3; have z3 := (v7b.cell (p := ⟨D, 3, none⟩) lD).trans y3) | (guard_hyp v7b; go_at_call 11; refine Calls.mono (KEq.out g1 g2 g3 k1 k2 k3 _ ⟨KO8r.out.1.below v7b, KO8r.out.2.1.below v7b, KO8r.out.2.2.below v7b⟩ KO7.out) ?_; rintro e' v8 ⟨rfl, b8'⟩; have b78 := below2 v7b b8'; have s0 := (b78.cell (p := ⟨B, 0, none⟩) lB).trans q0; have t0 := (b78.cell (p := ⟨D, 0, none⟩) lD).trans y0; have s1 := (b78.cell (p := ⟨B, 1, none⟩) lB).trans q1; have t1 := (b78.cell (p := ⟨D, 1, none⟩) lD).trans y1; have s2 := (b78.cell (p := ⟨B, 2, none⟩) lB).trans q2; have t2 := (b78.cell (p := ⟨D, 2, none⟩) lD).trans y2; have s3 := (b78.cell (p := ⟨B, 3, none⟩) lB).trans q3; have t3 := (b78.cell (p := ⟨D, 3, none⟩) lD).trans y3)))
  all_goals
   go_wp2_with fail
   go_meet
   exact ⟨rfl, b78⟩
 obtain ⟨rfl, bc⟩ := hcut.out
 clear hcut
 have cumc : Hid (Below w4.heap.size w4 wc) := below2 cum8.out bc
 have KXc : Hid (Row wc D 34 #[.int .i64 f, .slice (some ⟨g1, 0, none⟩) n n, .slice (some ⟨g2, 0, none⟩) zs.length zs.length, .slice (some ⟨g3, 0, none⟩) m m]) := KX8.out.below bc KX8.out.lt
 have KOc : Hid (NtO wc w4.heap.size n N zs m Y (.slice (some ⟨g1, 0, none⟩) n n) (.slice (some ⟨g2, 0, none⟩) zs.length zs.length) (.slice (some ⟨g3, 0, none⟩) m m) F1 F2 F3) := KO8.out.below bc
 have KXRc : Hid (RowT wc bx ex (some ⟨gX, 0, none⟩) len1 len1 S1) := KXR8.out.below bc
 have GGc : Hid (RowT wc ex eg (some ⟨gG, 0, none⟩) ln cG T) := GG8.out.below bc
 have KTc : Hid _ := KTT.out wc (KE.out _ cumc.out).2.2.2.1
 clear bc cum8 KX8 KO8 KXR8 GG8
 go_wp2_with fail
 refine Calls.mono KTc.out ?_
 rintro e' w9 ⟨gy, rfl, o9, b9⟩
 have cum9 : Hid (Below w4.heap.size w4 w9) := below2 cumc.out b9
 have KX9 : Hid (Row w9 D 34 #[.int .i64 f, .slice (some ⟨g1, 0, none⟩) n n, .slice (some ⟨g2, 0, none⟩) zs.length zs.length, .slice (some ⟨g3, 0, none⟩) m m]) := KXc.out.below b9 KXc.out.lt
 have KO9 : Hid (NtO w9 w4.heap.size n N zs m Y (.slice (some ⟨g1, 0, none⟩) n n) (.slice (some ⟨g2, 0, none⟩) zs.length zs.length) (.slice (some ⟨g3, 0, none⟩) m m) F1 F2 F3) := KOc.out.below b9
 have KXR9 : Hid (RowT w9 bx ex (some ⟨gX, 0, none⟩) len1 len1 S1) := KXRc.out.below b9
 have GG9 : Hid (RowT w9 ex eg (some ⟨gG, 0, none⟩) ln cG T) := GGc.out.below b9
 have KC9 : Hid _ := eqT_same (some ⟨gX, 0, none⟩) (some ⟨gy, 0, none⟩) len1 len1 len1 S1 w9 KXR9.out.at o9.at hl1
 clear b9 o9 KTc cumc KXc KOc KXRc GGc
 go_wp2_with fail
 refine Calls.mono KC9.out ?_
 rintro e' w10 ⟨rfl, b10⟩
 have cum10 : Hid (Below w4.heap.size w4 w10) := below2 cum9.out b10
 have KX10 : Hid (Row w10 D 34 #[.int .i64 f, .slice (some ⟨g1, 0, none⟩) n n, .slice (some ⟨g2, 0, none⟩) zs.length zs.length, .slice (some ⟨g3, 0, none⟩) m m]) := KX9.out.below b10 KX9.out.lt
 have KXR10 : Hid (RowT w10 bx ex (some ⟨gX, 0, none⟩) len1 len1 S1) := KXR9.out.below b10
 have GG10 : Hid (RowT w10 ex eg (some ⟨gG, 0, none⟩) ln cG T) := GG9.out.below b10
 have KM10 : Hid _ := markNt_any f w4.heap.size n N zs m Y (some ⟨g1, 0, none⟩) (some ⟨g2, 0, none⟩) (some ⟨g3, 0, none⟩) n zs.length m F1 F2 F3 w10 (KO9.out.below b10) KW.out
 obtain ⟨mq, HMQ⟩ : ∃ x, Hid (mq3 n N zs m Y = x) := ⟨_, rfl⟩
 have hmq : mq ≤ 40000000 := by rw [← HMQ.out]; exact KW.out.kq
 rw [HMQ.out] at KM10
 clear b10 KC9 cum9 KX9 KO9 KXR9 GG9
 go_wp2_with (refine wpList_load_row (by rfl) 34 _ (by rfl) D (by rfl) 34 #[.int .i64 f, .slice (some ⟨g1, 0, none⟩) n n, .slice (some ⟨g2, 0, none⟩) zs.length zs.length, .slice (some ⟨g3, 0, none⟩) m m] (0, 0) _ ?_ Tryz.underlying34 (by rfl) Tryz.infoNt ?_; exact KX10.out)
 refine Calls.mono KM10.out ?_
 rintro e' w12 ⟨rfl, _, T12⟩
 have cum12 : Hid (Below w4.heap.size w4 w12) := cum10.out.trans (T12.below (fun x hx => (HFb.out x hx).1) cum10.out.size)
 have M12 : TurnM w10 w12 w4.heap.size D := T12.toM HFb.out
 have X12 := KXR10.out.turned M12 (.inr (Nat.le_of_lt HDx.out.1))
 have GG12 : Hid (RowT w12 ex eg (some ⟨gG, 0, none⟩) ln cG T) := GG10.out.turned M12 (.inr (by have := HDx.out; omega))
 obtain ⟨mk, HMK⟩ : ∃ x, Hid (mq + len1 = x) := ⟨_, rfl⟩
 have KC12 : Hid _ := markT2_any bx ex (some ⟨gX, 0, none⟩) len1 len1 S1 mq mk w12 X12 hl1 (by omega) HMK.out
 have nk : ¬ ((mk : Int) < 0) := by omega
 clear T12 M12 X12 KM10 cum10 KX10 KXR10 GG10
 go_wp2_with fail
 refine Calls.mono KC12.out ?_
 rintro e' w13 ⟨rfl, _, T13⟩
 have cum13 : Hid (Below w4.heap.size w4 w13) := cum12.out.trans (T13.below (by have := HDx.out; have := HD4.out; omega) (by have := cum12.out.size; omega))
 have GG13 : Hid (RowT w13 ex eg (some ⟨gG, 0, none⟩) ln cG T) := GG12.out.turned T13 (.inr (Nat.le_refl _))
 have KC13 : Hid _ := eqT_same (some ⟨gG, 0, none⟩) (some ⟨gW, 0, none⟩) ln cG cW T w13 GG13.out.at (KE.out _ cum13.out).2.1 hl_L
 clear T13 KC12 cum12 GG12
 go_wp2_with fail
 refine Calls.mono KC13.out ?_
 rintro e' w14 ⟨rfl, b14⟩
 have cum14 : Hid (Below w4.heap.size w4 w14) := below2 cum13.out b14
 have G14 := GG13.out.below b14
 obtain ⟨kg, HKG⟩ : ∃ x, Hid (1 + ln = x) := ⟨_, rfl⟩
 have KC14 : Hid _ := markT2_any ex eg (some ⟨gG, 0, none⟩) ln cG T 1 kg w14 G14 hl_L (by omega) HKG.out
 have nkg : ¬ ((kg : Int) < 0) := by omega
 have nqq : ((kg : Int) != (kg : Int)) = false := by simp
 clear b14 G14 KC13 cum13 GG13
 go_wp2_with fail
 refine Calls.mono KC14.out ?_
 rintro e' w15 ⟨rfl, G15, T15⟩
 have cum15 : Hid (Below w4.heap.size w4 w15) := cum14.out.trans (T15.below (by have := HDx.out; have := HD4.out; omega) (by have := cum14.out.size; omega))
 have GG15 : Hid (RowT w15 ex eg (some ⟨gG, 0, none⟩) ln cG (fun i => mtxt (1 + i))) := G15
 have KHd : Hid (∀ W, RowT W ex eg (some ⟨gG, 0, none⟩) ln cG (fun i => mtxt (1 + i)) → Calls Tryz.prog 14 #[.slice (some ⟨gG, 0, none⟩) ln cG, .int .i64 ((1 : Nat) : Int)] W fun e w' => e = .returned (.int .i64 (kg : Int)) ∧ Below W.heap.size W w') := fun W hW => heldT2_any (some ⟨gG, 0, none⟩) ln cG 1 kg W hW.at hl_L (by omega) HKG.out
 have KC15 : Hid _ := KHd.out w15 G15
 clear T15 G15 KC14 cum14
 go_wp2_with fail
 refine Calls.mono KC15.out ?_
 rintro e' w16 ⟨rfl, b16⟩
 have cum16 : Hid (Below w4.heap.size w4 w16) := below2 cum15.out b16
 have GG16 : Hid (RowT w16 ex eg (some ⟨gG, 0, none⟩) ln cG (fun i => mtxt (1 + i))) := GG15.out.below b16
 have RB16 : Hid _ := (KE.out _ cum16.out).1
 have KT16 : Hid _ := KTo.out _ (KE.out _ cum16.out).2.2.1
 clear b16 cum15 GG15 KC15
 go_wp2_with (refine wpList_load_row (by rfl) 26 _ (by rfl) B (by rfl) 26 #[.int .i64 f, .slice a n c, .slice l zs.length d, .slice e m g] (0, 0) _ ?_ Tryz.underlying26 (by rfl) Tryz.infoNtL2 ?_; exact RB16.out)
 refine Calls.mono KT16.out ?_
 rintro e' w17 ⟨k1, k2, k3, rfl, ⟨_, _, _, O17, _⟩, b17⟩
 have cum17 : Hid (Below w4.heap.size w4 w17) := below2 cum16.out b17
 have GG17 : Hid (RowT w17 ex eg (some ⟨gG, 0, none⟩) ln cG (fun i => mtxt (1 + i))) := GG16.out.below b17
 have KO17 : Hid (Rd w17 (ndsD n N) (.slice (some ⟨k1, 0, none⟩) n n) ∧ IntsAt w17 (some ⟨k2, 0, none⟩) zs.length zs ∧ Rd w17 (sysD m Y) (.slice (some ⟨k3, 0, none⟩) m m)) := ⟨O17.n.rd, rd_ints.1 O17.z.rd, O17.y.rd⟩
 have KT17 : Hid _ := KTT.out w17 (KE.out _ cum17.out).2.2.2.1
 clear b17 O17 KT16 RB16 cum16 GG16
 go_wp2_with fail
 refine Calls.mono KT17.out ?_
 rintro e' w18 ⟨gz, rfl, o18, b18⟩
 have cum18 : Hid (Below w4.heap.size w4 w18) := below2 cum17.out b18
 have GG18 : Hid (RowT w18 ex eg (some ⟨gG, 0, none⟩) ln cG (fun i => mtxt (1 + i))) := GG17.out.below b18
 have KC18 : Hid _ := KIm.out k1 k2 k3 gz w18 (KO17.out.1.below b18) (KO17.out.2.1.below b18) o18.at (KE.out _ cum18.out).2.2.2.2.1
 clear b18 o18 KT17 cum17 GG17 KO17
 go_wp2_with fail
 refine Calls.mono KC18.out ?_
 rintro e' w19 ⟨gH, cH, rfl, o19, b19⟩
 have cum19 : Hid (Below w4.heap.size w4 w19) := below2 cum18.out b19
 have GG19 : Hid (RowT w19 ex eg (some ⟨gG, 0, none⟩) ln cG (fun i => mtxt (1 + i))) := GG18.out.below b19
 have KC19 : Hid _ := eqT_same (some ⟨gH, 0, none⟩) (some ⟨gW, 0, none⟩) ln cH cW T w19 o19.at (KE.out _ cum19.out).2.1 hl_L
 clear b19 o19 KC18 cum18 GG18
 go_wp2_with fail
 refine Calls.mono KC19.out ?_
 rintro e' w20 ⟨rfl, b20⟩
 have cum20 : Hid (Below w4.heap.size w4 w20) := below2 cum19.out b20
 have KC20 : Hid _ := KHd.out w20 (GG19.out.below b20)
 clear b20 KC19 cum19 GG19
 go_wp2_with fail
 refine Calls.mono KC20.out ?_
 rintro e' w21 ⟨rfl, b21⟩
 have KF : Hid (Below w.heap.size w w21) := below2 (KE.out _ cum20.out).2.2.2.2.2 b21
 clear b21
 go_wp2
 go_ret
 exact ⟨rfl, KF.out⟩
end Go.Proofs.YtgooamiggebibaaGreatDoor
