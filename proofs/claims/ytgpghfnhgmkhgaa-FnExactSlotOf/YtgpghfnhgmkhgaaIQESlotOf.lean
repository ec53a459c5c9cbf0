/- For every input: the function SlotOf of the program answers as its model does, whatever its node and its root are; it leaves the node as it was, and its answer owns its memory. No condition. Written by a program. -/
import Derived.Test.YtgpghfnhgmkhgaaI37
namespace Go.Proofs.Ytgpghfnhgmkhgaa
set_option maxRecDepth 2000
open Go.ChangeShapes Go.WideShapes Go.ChangeAt Go.RowKit
set_option maxHeartbeats 8000000 in
theorem walk_FnExactSlotOf (id f : Int) (a : Option Addr) (n c : Nat) (S : Nat → Sl) (root : ByteArray) (w : World) (w0 : Rd w (slsD n S) (.slice a n c) ∧ n ≤ maxLen ∧ ∀ i, i < n → SlB (S i)) (_w1 : root.size ≤ maxLen) :
    Calls Try.prog 4 #[.agg #[.int .i64 id, .int .i64 f, .slice a n c], .string root] w fun e w' => e = .returned (.bool true) ∧ Below w.heap.size w w' := by
  clear _w1
  obtain ⟨hT, hn, hB⟩ := w0
  obtain ⟨B, HB⟩ : ∃ x, Hid (x = w.heap.size) := ⟨_, rfl⟩
  obtain ⟨w0, HW0⟩ : ∃ x, Hid (x = w.alloc (.cells #[.int .i64 id, .int .i64 f, .slice a n c] 24)) := ⟨_, rfl⟩
  have HR0 : Hid (Row w0 B 24 #[.int .i64 id, .int .i64 f, .slice a n c]) := by show Row _ _ _ _; rw [HW0.out, HB.out]; exact Row.new w _ _
  have hb0 : Below w.heap.size w w0 := by rw [HW0.out]; exact (Below.refl _ _).alloc (Nat.le_refl _) _
  have KB0 : Hid (Below w.heap.size w w0) := hb0
  have KRd : Hid (∀ W, Below w.heap.size w W → Rd W (slsD n S) (.slice a n c)) := fun W hW => hT.below hW
  by_cases hrt : root.size ≤ 1048576
  case neg =>
    have hr1 : (root.size : Int) > 1048576 := by omega
    go_enter Try.func4, Try.ntmps4
    go_wp2_with fail
    rw [← HW0.out]
    go_ret
    exact ⟨rfl, KB0.out⟩
  have hr1 : ¬ ((root.size : Int) > 1048576) := by omega
  have KZ : Hid (Calls Try.prog 8 #[.agg #[.int .i64 id, .int .i64 f, .slice a n c], .int .i64 ((1048576 : Nat) : Int)] w0 _) := szNd_any id f a n c S 1048576 w0 (hT.below hb0) (by omega) hn hB
  clear hT hb0 hB hn hrt
  by_cases h0 : wtL n S ≤ 1048576
  case neg =>
    rw [szN_no h0] at KZ
    clear h0
    go_enter Try.func4, Try.ntmps4
    go_wp2_with (rw [← HW0.out, ← HB.out]; refine wpList_load_row (by rfl) 24 _ (by rfl) B (by rfl) 24 #[.int .i64 id, .int .i64 f, .slice a n c] (0, 0) _ ?_ Try.underlying24 (by rfl) Try.infoNdL2 ?_; exact HR0.out)
    refine Calls.mono KZ.out ?_
    rintro e w1 ⟨rfl, b1⟩
    go_wp2
    go_ret
    exact ⟨rfl, below2 KB0.out b1⟩
  obtain ⟨left, hleft⟩ : ∃ q, 1048576 - wtL n S = q := ⟨_, rfl⟩
  rw [szN_yes h0, hleft] at KZ
  have neg0 : ¬ ((left : Int) < 0) := by omega
  obtain ⟨hn1, hS, hK, hk⟩ := wtL_little h0
  obtain ⟨T, HT⟩ : ∃ x, Hid (soS S root n = x) := ⟨_, rfl⟩
  obtain ⟨okv, HOK⟩ : ∃ x, Hid (soB S root n = x) := ⟨_, rfl⟩
  have HTS : Hid (SlS T) := by rw [← HT.out]; exact soS_S hS
  have hff : (okv != okv) = false := by simp
  have KTo : Hid (∀ W, Rd W (slsD n S) (.slice a n c) → Calls Try.prog 10 #[.agg #[.int .i64 id, .int .i64 f, .slice a n c]] W fun e w' => ∃ g, e = .returned (.agg #[.int .i64 id, .int .i64 f, .slice (some ⟨g, 0, none⟩) n n]) ∧ Ow w' W.heap.size (slsD n S) (.slice (some ⟨g, 0, none⟩) n n) (rng W.heap.size w'.heap.size) ∧ Below W.heap.size W w') := fun W hW => toNd_any id f a n c S W hW hn1 hS
  have KSp : Hid (∀ g W, Rd W (slsD n S) (.slice (some ⟨g, 0, none⟩) n n) → Calls Try.prog 13 #[ndV id f (.slice (some ⟨g, 0, none⟩) n n), .string root] W fun e w' => ∃ (a6 a11 a12 : Option Addr) (c6 c11 c12 : Nat) (F6 F11 F12 : Nat → Prop), e = .returned (.tuple #[slV T (.slice a6 T.p.m c6) (.slice a11 T.ze.length c11) (.slice a12 T.zr.length c12), .bool okv]) ∧ SlO w' W.heap.size T (.slice a6 T.p.m c6) (.slice a11 T.ze.length c11) (.slice a12 T.zr.length c12) F6 F11 F12 ∧ Below W.heap.size W w') := fun g W hW => by
    have := sSlotOf_any id f (some ⟨g, 0, none⟩) n n S root W hW hn1 hS
    rw [HT.out, HOK.out] at this
    exact this
  have KIm : Hid (∀ g W, Rd W (slsD n S) (.slice (some ⟨g, 0, none⟩) n n) → Calls Try.prog 14 #[ndV id f (.slice (some ⟨g, 0, none⟩) n n), .string root] W fun e w' => ∃ (b6 b11 b12 : Option Addr) (d6 d11 d12 : Nat) (F6 F11 F12 : Nat → Prop), e = .returned (.tuple #[slV T (.slice b6 T.p.m d6) (.slice b11 T.ze.length d11) (.slice b12 T.zr.length d12), .bool okv]) ∧ SlO w' W.heap.size T (.slice b6 T.p.m d6) (.slice b11 T.ze.length d11) (.slice b12 T.zr.length d12) F6 F11 F12 ∧ Below W.heap.size W w') := fun g W hW => by
    have := slotOf_any id f (some ⟨g, 0, none⟩) n n S root W hW hn1 hK
    rw [HT.out, HOK.out] at this
    exact this
  have KEn : Hid (∀ g1 g2 W, Rd W (slsD n S) (.slice (some ⟨g1, 0, none⟩) n n) → Rd W (slsD n S) (.slice (some ⟨g2, 0, none⟩) n n) → Calls Try.prog 12 #[ndV id f (.slice (some ⟨g1, 0, none⟩) n n), ndV id f (.slice (some ⟨g2, 0, none⟩) n n)] W fun e w' => e = .returned (.bool true) ∧ Below W.heap.size W w') := fun g1 g2 W h1 h2 => eqNd_same id f _ _ n n n S W h1 h2 hn1 hS
  have KMn : Hid (∀ g b W F, Ow W b (slsD n S) (.slice (some ⟨g, 0, none⟩) n n) F → Calls Try.prog 16 #[.agg #[.int .i64 id, .int .i64 f, .slice (some ⟨g, 0, none⟩) n n], .int .i64 1] W fun e w' => ∃ q : Nat, e = .returned (.int .i64 (q : Int)) ∧ Trn W w' F) := fun g b W F hO => markNd_any id f b g n n F S W hO hn1 hS hk
  clear h0 hleft hS hK hk
  go_enter Try.func4, Try.ntmps4
  go_wp2_with (rw [← HW0.out, ← HB.out]; refine wpList_load_row (by rfl) 24 _ (by rfl) B (by rfl) 24 #[.int .i64 id, .int .i64 f, .slice a n c] (0, 0) _ ?_ Try.underlying24 (by rfl) Try.infoNdL2 ?_; exact HR0.out)
  refine Calls.mono KZ.out ?_
  rintro e w1 ⟨rfl, b1⟩
  have HR1 : Hid (Row w1 B 24 #[.int .i64 id, .int .i64 f, .slice a n c]) := HR0.out.below b1 HR0.out.lt
  have KB1 : Hid (Below w.heap.size w w1) := below2 KB0.out b1
  clear b1 KZ HR0 HW0 KB0
  go_wp2_with (refine wpList_load_row (by rfl) 24 _ (by rfl) B (by rfl) 24 #[.int .i64 id, .int .i64 f, .slice a n c] (0, 0) _ ?_ Try.underlying24 (by rfl) Try.infoNdL2 ?_; exact HR1.out)
  refine Calls.mono (KTo.out _ (KRd.out _ KB1.out)) ?_
  rintro e w2 ⟨g2, rfl, O2, b2⟩
  have KC2 : Hid _ := KSp.out g2 w2 O2.rd
  have HR2 : Hid (Row w2 B 24 #[.int .i64 id, .int .i64 f, .slice a n c]) := HR1.out.below b2 HR1.out.lt
  have KB2 : Hid (Below w.heap.size w w2) := below2 KB1.out b2
  clear b2 O2 HR1 KB1
  go_wp2_with fail
  refine Calls.mono KC2.out ?_
  rintro e w3 ⟨a6, a11, a12, c6, c11, c12, F6, F11, F12, rfl, SO3, b3⟩
  obtain ⟨E, HE⟩ : ∃ x, Hid (x = w3.heap.size) := ⟨_, rfl⟩
  obtain ⟨w4, HW4⟩ : ∃ x, Hid (x = w3.alloc (.cells (slC T (.slice a6 T.p.m c6) (.slice a11 T.ze.length c11) (.slice a12 T.zr.length c12)) 38)) := ⟨_, rfl⟩
  have b34 : Below w3.heap.size w3 w4 := by rw [HW4.out]; exact (Below.refl _ _).alloc (Nat.le_refl _) _
  have HE4 : Hid (Row w4 E 38 (slC T (.slice a6 T.p.m c6) (.slice a11 T.ze.length c11) (.slice a12 T.zr.length c12))) := by show Row _ _ _ _; rw [HW4.out, HE.out]; exact Row.new w3 _ _
  have HR4 : Hid (Row w4 B 24 #[.int .i64 id, .int .i64 f, .slice a n c]) := (HR2.out.below b3 HR2.out.lt).below b34 (Nat.lt_of_lt_of_le HR2.out.lt b3.size)
  have KB4 : Hid (Below w.heap.size w w4) := below2 KB2.out (below2 b3 b34)
  have KS4 : Hid (∃ F6 F11 F12, SlO w4 0 T (.slice a6 T.p.m c6) (.slice a11 T.ze.length c11) (.slice a12 T.zr.length c12) F6 F11 F12 ∧ ∀ g, F6 g ∨ F11 g ∨ F12 g → g < w4.heap.size) := by
    obtain ⟨H6, H11, H12, s1, s2⟩ := SO3.cut
    exact ⟨H6, H11, H12, (s1.base (Nat.zero_le _)).below b34, fun g hg => Nat.lt_of_lt_of_le (s2 g hg).2 b34.size⟩
  clear b3 b34 SO3 HR2 KB2 KC2
  go_wp2_with (rw [← HW4.out, ← HE.out]; refine wpList_load_row (by rfl) 24 _ (by rfl) B (by rfl) 24 #[.int .i64 id, .int .i64 f, .slice a n c] (0, 0) _ ?_ Try.underlying24 (by rfl) Try.infoNdL2 ?_; exact HR4.out)
  refine Calls.mono (KTo.out _ (KRd.out _ KB4.out)) ?_
  rintro e w5 ⟨gx, rfl, O5, b5⟩
  obtain ⟨X, HX⟩ : ∃ x, Hid (x = w5.heap.size) := ⟨_, rfl⟩
  obtain ⟨w6, HW6⟩ : ∃ x, Hid (x = w5.alloc (.cells #[.int .i64 id, .int .i64 f, .slice (some ⟨gx, 0, none⟩) n n] 29)) := ⟨_, rfl⟩
  have b56 : Below w5.heap.size w5 w6 := by rw [HW6.out]; exact (Below.refl _ _).alloc (Nat.le_refl _) _
  have b46 : Below w4.heap.size w4 w6 := below2 b5 b56
  have HX6 : Hid (Row w6 X 29 #[.int .i64 id, .int .i64 f, .slice (some ⟨gx, 0, none⟩) n n]) := by show Row _ _ _ _; rw [HW6.out, HX.out]; exact Row.new w5 _ _
  have KO6 : Hid (Ow w6 w4.heap.size (slsD n S) (.slice (some ⟨gx, 0, none⟩) n n) (rng w4.heap.size w5.heap.size)) := O5.below b56
  have K46 : Hid (Row w6 B 24 #[.int .i64 id, .int .i64 f, .slice a n c] ∧ Row w6 E 38 (slC T (.slice a6 T.p.m c6) (.slice a11 T.ze.length c11) (.slice a12 T.zr.length c12)) ∧ (∃ F6 F11 F12, SlO w6 0 T (.slice a6 T.p.m c6) (.slice a11 T.ze.length c11) (.slice a12 T.zr.length c12) F6 F11 F12 ∧ ∀ g, F6 g ∨ F11 g ∨ F12 g → g < w4.heap.size) ∧ Below w.heap.size w w6) := by
    obtain ⟨H6, H11, H12, s1, s2⟩ := KS4.out
    exact ⟨HR4.out.below b46 HR4.out.lt, HE4.out.below b46 HE4.out.lt, ⟨_, _, _, s1.below b46, s2⟩, below2 KB4.out b46⟩
  have HLs : Hid (B < w4.heap.size ∧ E < w4.heap.size ∧ X = w5.heap.size ∧ w4.heap.size ≤ w5.heap.size ∧ w.heap.size ≤ w4.heap.size) := ⟨HR4.out.lt, HE4.out.lt, HX.out, b5.size, KB4.out.size⟩
  have KC6 : Hid _ := KIm.out gx w6 KO6.out.rd
  clear b5 b56 b46 O5 HR4 HE4 KS4 KB4 HW4 HE
  go_wp2_with (rw [← HW6.out, ← HX.out]; refine wpList_load_row (by rfl) 29 _ (by rfl) X (by rfl) 29 #[.int .i64 id, .int .i64 f, .slice (some ⟨gx, 0, none⟩) n n] (0, 0) _ ?_ Try.underlying29 (by rfl) Try.infoNd ?_; exact HX6.out)
  refine Calls.mono KC6.out ?_
  rintro e w7 ⟨b6, b11, b12, d6, d11, d12, H6, H11, H12, rfl, SO7, b7⟩
  obtain ⟨G, HG⟩ : ∃ x, Hid (x = w7.heap.size) := ⟨_, rfl⟩
  obtain ⟨w8, HW8⟩ : ∃ x, Hid (x = w7.alloc (.cells (slC T (.slice b6 T.p.m d6) (.slice b11 T.ze.length d11) (.slice b12 T.zr.length d12)) 38)) := ⟨_, rfl⟩
  obtain ⟨bx, HBX⟩ : ∃ x, Hid (w4.heap.size = x) := ⟨_, rfl⟩
  obtain ⟨ex, HEX⟩ : ∃ x, Hid (w5.heap.size = x) := ⟨_, rfl⟩
  obtain ⟨bg, HBG⟩ : ∃ x, Hid (w6.heap.size = x) := ⟨_, rfl⟩
  have b78 : Below w7.heap.size w7 w8 := by rw [HW8.out]; exact (Below.refl _ _).alloc (Nat.le_refl _) _
  have b68 : Below w6.heap.size w6 w8 := below2 b7 b78
  rw [HBX.out, HEX.out] at HLs KO6
  have HLt : Hid (B < bx ∧ E < bx ∧ X = ex ∧ bx ≤ ex ∧ w.heap.size ≤ bx ∧ ex ≤ bg ∧ X < bg ∧ bg ≤ G) := ⟨HLs.out.1, HLs.out.2.1, HLs.out.2.2.1, HLs.out.2.2.2.1, HLs.out.2.2.2.2, by rw [← HBG.out]; have := HX6.out.lt; have := HLs.out.2.2.1; omega, by rw [← HBG.out]; exact HX6.out.lt, by rw [← HBG.out, HG.out]; exact b7.size⟩
  have F8 : Hid (SoF w B E X G bx bg id f a n c gx T T (.slice a6 T.p.m c6) (.slice a11 T.ze.length c11) (.slice a12 T.zr.length c12) (.slice b6 T.p.m d6) (.slice b11 T.ze.length d11) (.slice b12 T.zr.length d12) w8) := by
    obtain ⟨J6, J11, J12, s1, s2⟩ := K46.out.2.2.1
    obtain ⟨Y6, Y11, Y12, g1, g2⟩ := SO7.cut
    rw [HBX.out] at s2
    rw [HBG.out] at g1 g2
    exact ⟨K46.out.1.below b68 K46.out.1.lt, K46.out.2.1.below b68 K46.out.2.1.lt, HX6.out.below b68 HX6.out.lt, by rw [HW8.out, HG.out]; exact Row.new w7 _ _, ⟨_, _, _, s1.below b68, s2⟩, ⟨_, _, _, g1.below b78, fun g hg => ⟨(g2 g hg).1, by rw [HG.out]; exact (g2 g hg).2⟩⟩, below2 K46.out.2.2.2 b68⟩
  have KO8 : Hid (Ow w8 bx (slsD n S) (.slice (some ⟨gx, 0, none⟩) n n) (rng bx ex)) := KO6.out.below b68
  have KEq : Hid (∀ W TG, SoF w B E X G bx bg id f a n c gx T TG (.slice a6 T.p.m c6) (.slice a11 T.ze.length c11) (.slice a12 T.zr.length c12) (.slice b6 T.p.m d6) (.slice b11 T.ze.length d11) (.slice b12 T.zr.length d12) W → TG = T → Calls Try.prog 15 #[slV T (.slice b6 T.p.m d6) (.slice b11 T.ze.length d11) (.slice b12 T.zr.length d12), slV T (.slice a6 T.p.m c6) (.slice a11 T.ze.length c11) (.slice a12 T.zr.length c12)] W fun e w' => e = .returned (.bool true) ∧ Below W.heap.size W w') := fun W TG hF e => by
    subst e
    obtain ⟨J6, J11, J12, s1, _⟩ := hF.se
    obtain ⟨Y6, Y11, Y12, g1, _⟩ := hF.sg
    exact eqSl_same _ b6 a6 b11 a11 b12 a12 d6 c6 d11 c11 d12 c12 W g1.rd.1 s1.rd.1 g1.rd.2.1 s1.rd.2.1 g1.rd.2.2 s1.rd.2.2 HTS.out
  clear b7 b78 b68 SO7 K46 HX6 KO6 KC6 HW6 HLs
  go_wp2_with (first | ((try rw [← HW8.out, ← HG.out]); refine wpList_load_row (by rfl) 38 _ (by rfl) G (by rfl) 38 (slC T (.slice b6 T.p.m d6) (.slice b11 T.ze.length d11) (.slice b12 T.zr.length d12)) (0, 0) _ ?_ Try.underlying38 (by rfl) Try.infoSl ?_; exact F8.out.rg) | (refine wpList_load_row (by rfl) 38 _ (by rfl) E (by rfl) 38 (slC T (.slice a6 T.p.m c6) (.slice a11 T.ze.length c11) (.slice a12 T.zr.length c12)) (0, 0) _ ?_ Try.underlying38 (by rfl) Try.infoSl ?_; exact F8.out.re))
  refine Calls.mono (KEq.out _ _ F8.out rfl) ?_
  rintro e w9 ⟨rfl, b9⟩
  have F9 : Hid (SoF w B E X G bx bg id f a n c gx T T (.slice a6 T.p.m c6) (.slice a11 T.ze.length c11) (.slice a12 T.zr.length c12) (.slice b6 T.p.m d6) (.slice b11 T.ze.length d11) (.slice b12 T.zr.length d12) w9) := F8.out.below b9
  have KO9 : Hid (Ow w9 bx (slsD n S) (.slice (some ⟨gx, 0, none⟩) n n) (rng bx ex)) := KO8.out.below b9
  clear b9 F8 KO8 HW8 HG
  go_upto_region 12 with fail
  go_cut [52] from 48 to 52 (fun v wx => Hid (v = .bool false ∧ Below w9.heap.size w9 wx))
  case first =>
    have q0 := F9.out.rb.cell 0
    have q1 := F9.out.rb.cell 1
    have q2 := F9.out.rb.cell 2
    have y0 := F9.out.rx.cell 0
    have y1 := F9.out.rx.cell 1
    have y2 := F9.out.rx.cell 2
    simp at q0 q1 q2 y0 y1 y2
    have lB := F9.out.rb.lt
    have lX := F9.out.rx.lt
    have KTP : Hid _ := KTo.out w9.drew (KRd.out _ F9.out.bw).drew
    have KO9r : Hid (Rd w9 (slsD n S) (.slice (some ⟨gx, 0, none⟩) n n)) := KO9.out.rd
    go_region_held3 (fun w' => w'.cell? ⟨B, 0, none⟩ = some (.int .i64 id) ∧ w'.cell? ⟨B, 1, none⟩ = some (.int .i64 f) ∧ w'.cell? ⟨B, 2, none⟩ = some (.slice a n c) ∧ w'.cell? ⟨X, 0, none⟩ = some (.int .i64 id) ∧ w'.cell? ⟨X, 1, none⟩ = some (.int .i64 f) ∧ w'.cell? ⟨X, 2, none⟩ = some (.slice (some ⟨gx, 0, none⟩) n n)) (go_keep) ((first | (go_at_call 10; refine Calls.mono (KTP.out) ?_; rintro e v7 ⟨g7, rfl, O7, b7'⟩; have b7 := below_of_drew b7'; clear b7'; have KO7 : Hid (Rd v7 (slsD n S) (.slice (some ⟨g7, 0, none⟩) n n)) := O7.rd; clear O7; have p0 := (b7.cell (p := ⟨B, 0, none⟩) lB).trans q0; have z0 := (b7.cell (p := ⟨X, 0, none⟩) lX).trans y0; have p1 := (b7.cell (p := ⟨B, 1, none⟩) lB).trans q1; have z1 := (b7.cell (p := ⟨X, 1, none⟩) lX).trans y1; have p2 := (b7.cell (p := ⟨B, 2, none⟩) lB).trans q2; have z2 := (b7.cell (p := ⟨X, 2, none⟩) lX).trans y2) | (guard_hyp b7; go_at_call 12; refine Calls.mono (KEn.out gx g7 _ (KO9r.out.below b7) KO7.out) ?_; rintro e v8 ⟨rfl, b8⟩; have b78 := below2 b7 b8; have s0 := (b78.cell (p := ⟨B, 0, none⟩) lB).trans q0; have t0 := (b78.cell (p := ⟨X, 0, none⟩) lX).trans y0; have s1 := (b78.cell (p := ⟨B, 1, none⟩) lB).trans q1; have t1 := (b78.cell (p := ⟨X, 1, none⟩) lX).trans y1; have s2 := (b78.cell (p := ⟨B, 2, none⟩) lB).trans q2; have t2 := (b78.cell (p := ⟨X, 2, none⟩) lX).trans y2)))
    all_goals
      go_wp2_with fail
      go_meet
      exact ⟨rfl, b78⟩
  obtain ⟨rfl, bc⟩ := hcut.out
  clear hcut
  have Fc : Hid (SoF w B E X G bx bg id f a n c gx T T (.slice a6 T.p.m c6) (.slice a11 T.ze.length c11) (.slice a12 T.zr.length c12) (.slice b6 T.p.m d6) (.slice b11 T.ze.length d11) (.slice b12 T.zr.length d12) wc) := F9.out.below bc
  have KOc : Hid (Ow wc bx (slsD n S) (.slice (some ⟨gx, 0, none⟩) n n) (rng bx ex)) := KO9.out.below bc
  have KMc : Hid _ := KMn.out gx bx wc (rng bx ex) KOc.out
  clear bc F9 KO9 KOc
  go_wp2_with (refine wpList_load_row (by rfl) 29 _ (by rfl) X (by rfl) 29 #[.int .i64 id, .int .i64 f, .slice (some ⟨gx, 0, none⟩) n n] (0, 0) _ ?_ Try.underlying29 (by rfl) Try.infoNd ?_; exact Fc.out.rx)
  refine Calls.mono KMc.out ?_
  rintro e w12 ⟨qk, rfl, T12⟩
  have F12' : Hid (SoF w B E X G bx bg id f a n c gx T T (.slice a6 T.p.m c6) (.slice a11 T.ze.length c11) (.slice a12 T.zr.length c12) (.slice b6 T.p.m d6) (.slice b11 T.ze.length d11) (.slice b12 T.zr.length d12) w12) := Fc.out.turnX T12 HLt.out.1 HLt.out.2.1 (by have := HLt.out.2.2.1; omega) HLt.out.2.2.2.2.2.1 HLt.out.2.2.2.2.2.2.2 HLt.out.2.2.2.2.1
  have nk : ¬ ((qk : Int) < 0) := by omega
  have r0 := F12'.out.rg.cell 0
  have m0 := F12'.out.re.cell 0
  have r1 := F12'.out.rg.cell 1
  have m1 := F12'.out.re.cell 1
  have r2 := F12'.out.rg.cell 2
  have m2 := F12'.out.re.cell 2
  have r3 := F12'.out.rg.cell 3
  have m3 := F12'.out.re.cell 3
  have r4 := F12'.out.rg.cell 4
  have m4 := F12'.out.re.cell 4
  have r5 := F12'.out.rg.cell 5
  have m5 := F12'.out.re.cell 5
  have r6 := F12'.out.rg.cell 6
  have m6 := F12'.out.re.cell 6
  have r7 := F12'.out.rg.cell 7
  have m7 := F12'.out.re.cell 7
  have r8 := F12'.out.rg.cell 8
  have m8 := F12'.out.re.cell 8
  have r9 := F12'.out.rg.cell 9
  have m9 := F12'.out.re.cell 9
  have r10 := F12'.out.rg.cell 10
  have m10 := F12'.out.re.cell 10
  have r11 := F12'.out.rg.cell 11
  have m11 := F12'.out.re.cell 11
  have r12 := F12'.out.rg.cell 12
  have m12 := F12'.out.re.cell 12
  simp at r0 m0 r1 m1 r2 m2 r3 m3 r4 m4 r5 m5 r6 m6 r7 m7 r8 m8 r9 m9 r10 m10 r11 m11 r12 m12
  clear T12 Fc KMc
  go_wp2_with fail
  refine Calls.mono (KEq.out _ _ F12'.out rfl) ?_
  rintro e w13 ⟨rfl, b13⟩
  have F13 : Hid (SoF w B E X G bx bg id f a n c gx T T (.slice a6 T.p.m c6) (.slice a11 T.ze.length c11) (.slice a12 T.zr.length c12) (.slice b6 T.p.m d6) (.slice b11 T.ze.length d11) (.slice b12 T.zr.length d12) w13) := F12'.out.below b13
  clear b13 F12' r0 m0 r1 m1 r2 m2 r3 m3 r4 m4 r5 m5 r6 m6 r7 m7 r8 m8 r9 m9 r10 m10 r11 m11 r12 m12
  have KM13 : Hid (Calls Try.prog 17 #[slV T (.slice b6 T.p.m d6) (.slice b11 T.ze.length d11) (.slice b12 T.zr.length d12), .int .i64 1] w13 fun e w' => e = .returned (.int .i64 (mkQ T : Nat)) ∧ SoF w B E X G bx bg id f a n c gx T (mkS T) (.slice a6 T.p.m c6) (.slice a11 T.ze.length c11) (.slice a12 T.zr.length c12) (.slice b6 T.p.m d6) (.slice b11 T.ze.length d11) (.slice b12 T.zr.length d12) w') := by
    obtain ⟨Y6, Y11, Y12, g1, g2⟩ := F13.out.sg
    refine (markSl_any T bg b6 b11 b12 d6 d11 d12 Y6 Y11 Y12 w13 g1 HTS.out).mono ?_
    rintro e w' ⟨rfl, s1, t1⟩
    have hl := HLt.out
    exact ⟨rfl, F13.out.turnG t1 g2 s1 g2 (by omega) (by omega) (by omega) (by omega) (by omega)⟩
  have KHe : Hid (∀ W, SoF w B E X G bx bg id f a n c gx T (mkS T) (.slice a6 T.p.m c6) (.slice a11 T.ze.length c11) (.slice a12 T.zr.length c12) (.slice b6 T.p.m d6) (.slice b11 T.ze.length d11) (.slice b12 T.zr.length d12) W → Calls Try.prog 18 #[slV T (.slice b6 T.p.m d6) (.slice b11 T.ze.length d11) (.slice b12 T.zr.length d12), .int .i64 1] W fun e w' => e = .returned (.int .i64 (mkQ T : Nat)) ∧ Below W.heap.size W w') := fun W hF => by
    obtain ⟨Y6, Y11, Y12, g1, _⟩ := hF.sg
    have hr := g1.rd
    refine heldSl_any T b6 b11 b12 d6 d11 d12 W hr.1 ?_ ?_ HTS.out
    · have := hr.2.1
      simp only [mkS, marks_length] at this
      exact this
    · have := hr.2.2
      simp only [mkS, marks_length] at this
      exact this
  obtain ⟨mq, HMQ⟩ : ∃ x, Hid (mkQ T = x) := ⟨_, rfl⟩
  rw [HMQ.out] at KM13 KHe
  have nq : ¬ ((mq : Int) < 0) := by omega
  have nqq : ((mq : Int) != (mq : Int)) = false := by simp
  go_wp2_with (refine wpList_load_row (by rfl) 38 _ (by rfl) G (by rfl) 38 (slC T (.slice b6 T.p.m d6) (.slice b11 T.ze.length d11) (.slice b12 T.zr.length d12)) (0, 0) _ ?_ Try.underlying38 (by rfl) Try.infoSl ?_; exact F13.out.rg)
  refine Calls.mono KM13.out ?_
  rintro e w14 ⟨rfl, F14'⟩
  have F14 : Hid (SoF w B E X G bx bg id f a n c gx T (mkS T) (.slice a6 T.p.m c6) (.slice a11 T.ze.length c11) (.slice a12 T.zr.length c12) (.slice b6 T.p.m d6) (.slice b11 T.ze.length d11) (.slice b12 T.zr.length d12) w14) := F14'
  clear F14' F13 KM13
  go_wp2_with (refine wpList_load_row (by rfl) 38 _ (by rfl) G (by rfl) 38 (slC T (.slice b6 T.p.m d6) (.slice b11 T.ze.length d11) (.slice b12 T.zr.length d12)) (0, 0) _ ?_ Try.underlying38 (by rfl) Try.infoSl ?_; exact F14.out.rg)
  refine Calls.mono (KHe.out _ F14.out) ?_
  rintro e w15 ⟨rfl, b15⟩
  have F15 : Hid (SoF w B E X G bx bg id f a n c gx T (mkS T) (.slice a6 T.p.m c6) (.slice a11 T.ze.length c11) (.slice a12 T.zr.length c12) (.slice b6 T.p.m d6) (.slice b11 T.ze.length d11) (.slice b12 T.zr.length d12) w15) := F14.out.below b15
  clear b15 F14
  go_wp2_with (refine wpList_load_row (by rfl) 24 _ (by rfl) B (by rfl) 24 #[.int .i64 id, .int .i64 f, .slice a n c] (0, 0) _ ?_ Try.underlying24 (by rfl) Try.infoNdL2 ?_; exact F15.out.rb)
  refine Calls.mono (KTo.out _ (KRd.out _ F15.out.bw)) ?_
  rintro e w16 ⟨g16, rfl, O16, b16⟩
  have F16 : Hid (SoF w B E X G bx bg id f a n c gx T (mkS T) (.slice a6 T.p.m c6) (.slice a11 T.ze.length c11) (.slice a12 T.zr.length c12) (.slice b6 T.p.m d6) (.slice b11 T.ze.length d11) (.slice b12 T.zr.length d12) w16) := F15.out.below b16
  have KC16 : Hid _ := KIm.out g16 w16 O16.rd
  clear b16 O16 F15
  go_wp2_with fail
  refine Calls.mono KC16.out ?_
  rintro e w17 ⟨e6, e11, e12, h6, h11, h12, I6, I11, I12, rfl, SO17, b17⟩
  obtain ⟨H, HH⟩ : ∃ x, Hid (x = w17.heap.size) := ⟨_, rfl⟩
  obtain ⟨w18, HW18⟩ : ∃ x, Hid (x = w17.alloc (.cells (slC T (.slice e6 T.p.m h6) (.slice e11 T.ze.length h11) (.slice e12 T.zr.length h12)) 38)) := ⟨_, rfl⟩
  have b1718 : Below w17.heap.size w17 w18 := by rw [HW18.out]; exact (Below.refl _ _).alloc (Nat.le_refl _) _
  have RH : Hid (Row w18 H 38 (slC T (.slice e6 T.p.m h6) (.slice e11 T.ze.length h11) (.slice e12 T.zr.length h12))) := by show Row _ _ _ _; rw [HW18.out, HH.out]; exact Row.new w17 _ _
  have F18 : Hid (SoF w B E X G bx bg id f a n c gx T (mkS T) (.slice a6 T.p.m c6) (.slice a11 T.ze.length c11) (.slice a12 T.zr.length c12) (.slice b6 T.p.m d6) (.slice b11 T.ze.length d11) (.slice b12 T.zr.length d12) w18) := (F16.out.below b17).below b1718
  have KEq2 : Hid (Calls Try.prog 15 #[slV T (.slice e6 T.p.m h6) (.slice e11 T.ze.length h11) (.slice e12 T.zr.length h12), slV T (.slice a6 T.p.m c6) (.slice a11 T.ze.length c11) (.slice a12 T.zr.length c12)] w18 fun e w' => e = .returned (.bool true) ∧ Below w18.heap.size w18 w') := by
    obtain ⟨J6, J11, J12, s1, _⟩ := F18.out.se
    have g1 := SO17.below b1718
    exact eqSl_same _ e6 a6 e11 a11 e12 a12 h6 c6 h11 c11 h12 c12 w18 g1.rd.1 s1.rd.1 g1.rd.2.1 s1.rd.2.1 g1.rd.2.2 s1.rd.2.2 HTS.out
  clear b17 b1718 SO17 F16 KC16
  go_wp2_with (first | ((try rw [← HW18.out, ← HH.out]); refine wpList_load_row (by rfl) 38 _ (by rfl) H (by rfl) 38 (slC T (.slice e6 T.p.m h6) (.slice e11 T.ze.length h11) (.slice e12 T.zr.length h12)) (0, 0) _ ?_ Try.underlying38 (by rfl) Try.infoSl ?_; exact RH.out) | (refine wpList_load_row (by rfl) 38 _ (by rfl) E (by rfl) 38 (slC T (.slice a6 T.p.m c6) (.slice a11 T.ze.length c11) (.slice a12 T.zr.length c12)) (0, 0) _ ?_ Try.underlying38 (by rfl) Try.infoSl ?_; exact F18.out.re))
  refine Calls.mono KEq2.out ?_
  rintro e w19 ⟨rfl, b19⟩
  have F19 : Hid (SoF w B E X G bx bg id f a n c gx T (mkS T) (.slice a6 T.p.m c6) (.slice a11 T.ze.length c11) (.slice a12 T.zr.length c12) (.slice b6 T.p.m d6) (.slice b11 T.ze.length d11) (.slice b12 T.zr.length d12) w19) := F18.out.below b19
  clear b19 F18 KEq2 RH
  go_wp2_with (refine wpList_load_row (by rfl) 38 _ (by rfl) G (by rfl) 38 (slC T (.slice b6 T.p.m d6) (.slice b11 T.ze.length d11) (.slice b12 T.zr.length d12)) (0, 0) _ ?_ Try.underlying38 (by rfl) Try.infoSl ?_; exact F19.out.rg)
  refine Calls.mono (KHe.out _ F19.out) ?_
  rintro e w20 ⟨rfl, b20⟩
  have KF : Hid (Below w.heap.size w w20) := below2 F19.out.bw b20
  clear b20 F19
  go_wp2
  go_ret
  exact ⟨rfl, KF.out⟩
end Go.Proofs.Ytgpghfnhgmkhgaa
namespace Go.Proofs.Ytgpghfnhgmkhgaa.fnExactSlotOf
open Go.ChangeShapes Go.WideShapes Go.ChangeAt Go.RowKit
open Go.ChangeMaps (open_string shut_string)
set_option linter.unusedVariables false
theorem own : ownKnob Try.prog.godebug = none := by kernel_rfl
theorem laidOut : laidOutB Try.prog = true := by kernel_rfl
set_option maxRecDepth 100000 in
theorem lifted (os : Os) (started : os.Started) (H : Type) (enc : TypeId × Value → H) :
    ReturnsInHanded {} Try.checked os 4 .any (Rows.fnExactSlotOfSpec.pre6 enc Try.prog Try.f4 Rows.fnExactSlotOfRow.domain false) (Rows.fnExactSlotOfSpec.post enc Try.prog Try.f4 false true false false) := by
  refine returnsInHanded_of_change (C := Try.checked) own started (by kernel_rfl) Try.func4
    (ChangeSpec.witness6 (enc := enc) (C := Try.checked) false ⟨#[], #[.agg #[.int .i64 0, .int .i64 0, .slice none 0 0], .string ByteArray.empty], []⟩ 8 (by kernel_rfl) (by kernel_rfl) (by kernel_rfl) (by kernel_rfl)) ?_
  intro W base args ds gs before hval0 hW hcnd _
  have hval : ∀ (j : Nat) t v, Try.f4.params[j]? = some t → args[j]? = some v → Value.okWide Try.prog W .any base t v := hval0
  have hW' := hW
  obtain ⟨p, q, hA0, hV, rfl, hfz, hnd⟩ := hW
  have hA : DataW.TrodAll enc Try.prog W 0 (fun _ => true) true Try.f4.params.toList args.toList ds p := hA0
  rw [Try.params4] at hA hval
  obtain ⟨v0, vs0, d0, ds0, p0, q0, hargs, rfl, rfl, h0, r0⟩ := trodAll_cons hA
  obtain ⟨v1, vs1, d1, ds1, p1, q1, rfl, rfl, rfl, h1, r1⟩ := trodAll_cons r0
  obtain ⟨rfl, rfl, rfl⟩ := trodAll_nil r1
  obtain rfl : args = #[v0, v1] := by cases args; simp_all
  obtain ⟨rfl, rfl⟩ := trodVars_none hV
  obtain ⟨cs0, rfl, _, _⟩ : ∃ cs, v0 = .agg cs ∧ cs.size = Try.prog.cellsOf 24 ∧ Row.okWide Try.prog W .any base 24 cs := by
    have := hval 0 24 v0 rfl rfl
    simpa [Value.okWide, Try.underlying24] using this
  have k0 := h0
  have lt0 : ∀ x ∈ p0, x.block < W.heap.size := by obtain ⟨m, hm⟩ := k0; exact DataW.trod_lt m _ _ _ hm
  obtain ⟨r0i, r0f, r0a, r0m, r0c, r0S, hcs0, w0⟩ : ∃ (id f : Int) (a : Option Addr) (n c : Nat) (S : Nat → Sl), cs0.toList = [.int .i64 id, .int .i64 f, .slice a n c] ∧ Rd W (slsD n S) (.slice a n c) ∧ n ≤ maxLen ∧ ∀ i, i < n → SlB (S i) := by
    obtain ⟨fuel, hf⟩ := h0
    exact open_node (by simpa [Value.cells] using hf)
  obtain ⟨l0⟩ := cs0
  obtain rfl : l0 = _ := hcs0
  obtain ⟨a1, rfl, rfl, rfl, w1⟩ := open_string Try.underlying9 (hval 1 9 v1 rfl rfl) h1
  clear hA0 hval0
  refine (walk_FnExactSlotOf r0i r0f r0a r0m r0c r0S a1 W w0 w1).mono fun e W' ⟨he, bel⟩ => ?_
  subst he
  exact ⟨_, rfl, _, _, _, [], _, [], hW', trodAll_mk1 (shut_bool Try.underlying4 _), (trodAll_cons_mk (Below.trod laidOut (by kernel_rfl) (of_decide_eq_true (by kernel_rfl)) k0 bel lt0) (trodAll_cons_mk (shut_string Try.underlying9 w1) trodAll_mk0)), rfl, bel.frame _, fun h => by cases h⟩
theorem over : Rows.fnExactSlotOfRow.holds Try.pinned (OpenSpec.ofChange Rows.fnExactSlotOfSpec) :=
  OpenClaim.holds_of_wide 4 Try.f4 rfl rfl rfl rfl rfl rfl rfl ⟨rfl, rfl, rfl, rfl, rfl⟩ rfl rfl rfl rfl rfl (by kernel_rfl) Try.func4 (by kernel_rfl)
    (of_decide_eq_true (by kernel_rfl)) (by unfold Func.isWrapper; first | (rw [if_pos (by decide +kernel)]; kernel_rfl) | (rw [if_neg (by decide +kernel)]; exact ⟨rfl, rfl⟩))
    (fun os started H enc _ => lifted os started H enc)
theorem proved : Rows.FnExactSlotOfSaid := over
#print axioms proved
end Go.Proofs.Ytgpghfnhgmkhgaa.fnExactSlotOf
