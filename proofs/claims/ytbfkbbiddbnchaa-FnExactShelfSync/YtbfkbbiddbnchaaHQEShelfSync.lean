/- For every input: the function ShelfSync of the program answers as its model does, whatever the shelf is; it leaves the shelf as it was, and its answer owns its memory. No condition. -/
import Derived.Test.YtbfkbbiddbnchaaH39
import Derived.Test.YtbfkbbiddbnchaaH36
namespace Go.Proofs.Ytbfkbbiddbnchaa
set_option maxRecDepth 2000
open Go.ChangeShapes Go.WideShapes Go.ChangeAt Go.RowKit
/-- What stands in memory while the law is gone through. -/
structure HsF (w4 : World) (X bg G : Nat) (id f s ts : Int) (t : ByteArray) (n gx : Nat) (SG : Nat → Sl) (b : Option Addr) (d : Nat) (W : World) : Prop where
  bw : Below w4.heap.size w4 W
  rx : Row W X 32 (shC id f (.slice (some ⟨gx, 0, none⟩) n n) t s)
  rg : Row W G 32 (shC id f (.slice b n d) t ts)
  og : ∃ F, Ow W bg (slsD n SG) (.slice b n d) F ∧ ∀ g, F g → bg ≤ g ∧ g < G
section
variable {w4 W W' : World} {X bg G : Nat} {id f s ts : Int} {t : ByteArray} {n gx : Nat} {SG SH : Nat → Sl} {b : Option Addr} {d : Nat}
theorem HsF.below (h : HsF w4 X bg G id f s ts t n gx SG b d W) (hb : Below W.heap.size W W') : HsF w4 X bg G id f s ts t n gx SG b d W' := by
  obtain ⟨F, o, hd⟩ := h.og
  exact ⟨below2 h.bw hb, h.rx.below hb h.rx.lt, h.rg.below hb h.rg.lt, F, o.below hb, hd⟩
theorem HsF.turnX {e : Nat} (h : HsF w4 X bg G id f s ts t n gx SG b d W) (ht : Trn W W' (rng w4.heap.size e)) (hX : e ≤ X) (he : e ≤ bg) (hG : bg ≤ G) : HsF w4 X bg G id f s ts t n gx SG b d W' := by
  obtain ⟨F, o, hd⟩ := h.og
  refine ⟨h.bw.trans (ht.below (fun g k => k.1) h.bw.size), (ht.block X h.rx.lt (fun k => by have h2 : X < e := k.2; omega)).trans h.rx, (ht.block G h.rg.lt (fun k => by have h2 : G < e := k.2; omega)).trans h.rg, F, o.turned ht (fun g hg k => ?_), hd⟩
  have h1 := hd g hg
  have h2 : g < e := k.2
  omega
theorem HsF.turnG {F : Nat → Prop} (h : HsF w4 X bg G id f s ts t n gx SG b d W) (ht : Trn W W' F) (hF : ∀ g, F g → bg ≤ g ∧ g < G) (o : Ow W' bg (slsD n SH) (.slice b n d) F) (hb : w4.heap.size ≤ bg) (hX : X < bg) : HsF w4 X bg G id f s ts t n gx SH b d W' :=
  ⟨h.bw.trans (ht.below (fun g k => by have := hF g k; omega) h.bw.size), (ht.block X h.rx.lt (fun k => by have := hF X k; omega)).trans h.rx, (ht.block G h.rg.lt (fun k => by have := hF G k; omega)).trans h.rg, F, o, hF⟩
end
set_option maxHeartbeats 8000000 in
theorem walk_FnExactShelfSync (id f : Int) (a : Option Addr) (n c : Nat) (S : Nat → Sl) (t : ByteArray) (s : Int) (w : World) (w0 : Rd w (slsD n S) (.slice a n c) ∧ n ≤ maxLen ∧ (∀ i, i < n → SlB (S i)) ∧ t.size ≤ maxLen) :
    Calls Try.prog 3 #[shV id f (.slice a n c) t s] w fun e w' => e = .returned (.bool true) ∧ Below w.heap.size w w' := by
  obtain ⟨hT, hn, hB, ht⟩ := w0
  obtain ⟨B, HB⟩ : ∃ x, Hid (x = w.heap.size) := ⟨_, rfl⟩
  obtain ⟨w0, HW0⟩ : ∃ x, Hid (x = w.alloc (.cells (shC id f (.slice a n c) t s) 26)) := ⟨_, rfl⟩
  have HR0 : Hid (Row w0 B 26 (shC id f (.slice a n c) t s)) := by show Row _ _ _ _; rw [HW0.out, HB.out]; exact Row.new w _ _
  have hb0 : Below w.heap.size w w0 := by rw [HW0.out]; exact (Below.refl _ _).alloc (Nat.le_refl _) _
  have KB0 : Hid (Below w.heap.size w w0) := hb0
  have KRd : Hid (∀ W, Below w.heap.size w W → Rd W (slsD n S) (.slice a n c)) := fun W hW => hT.below hW
  have KZ : Hid (Calls Try.prog 4 #[shV id f (.slice a n c) t s, .int .i64 ((1048576 : Nat) : Int)] w0 _) := szSh_any id f s t a n c S 1048576 w0 (hT.below hb0) (by omega) hn hB ht
  clear hT hb0 hB hn ht
  by_cases h0 : wtL n S + t.size ≤ 1048576
  case neg =>
    rw [szN_no h0] at KZ
    clear h0
    go_enter Try.func3, Try.ntmps3
    go_wp2_with (rw [← HW0.out, ← HB.out]; refine wpList_load_row (by rfl) 26 _ (by rfl) B (by rfl) 26 (shC id f (.slice a n c) t s) (0, 0) _ ?_ Try.underlying26 (by rfl) Try.infoShL ?_; exact HR0.out)
    refine Calls.mono KZ.out ?_
    rintro e w1 ⟨rfl, b1⟩
    go_wp2
    go_ret
    exact ⟨rfl, below2 KB0.out b1⟩
  obtain ⟨left, hleft⟩ : ∃ q, 1048576 - (wtL n S + t.size) = q := ⟨_, rfl⟩
  rw [szN_yes h0, hleft] at KZ
  have neg0 : ¬ ((left : Int) < 0) := by omega
  obtain ⟨hn1, hS, hK, hk⟩ := wtL_little (show wtL n S ≤ 1048576 by omega)
  have ht1 : t.size ≤ 1048576 := by omega
  obtain ⟨ts, HTS⟩ : ∃ x, Hid ((t.size : Int) = x) := ⟨_, rfl⟩
  obtain ⟨mq, HMQ⟩ : ∃ x, 1 + tot (fun i => wkS (S i)) n = x := ⟨_, rfl⟩
  rw [HMQ] at hk
  have KTo : Hid (∀ W, Rd W (slsD n S) (.slice a n c) → Calls Try.prog 6 #[shV id f (.slice a n c) t s] W fun e w' => ∃ g, e = .returned (shV id f (.slice (some ⟨g, 0, none⟩) n n) t s) ∧ Ow w' W.heap.size (slsD n S) (.slice (some ⟨g, 0, none⟩) n n) (rng W.heap.size w'.heap.size) ∧ Below W.heap.size W w') := fun W hW => toSh_any id f s t a n c S W hW hn1 hS
  have KSp : Hid (∀ g W, Rd W (slsD n S) (.slice (some ⟨g, 0, none⟩) n n) → Calls Try.prog 5 #[shV id f (.slice (some ⟨g, 0, none⟩) n n) t s] W fun e w' => ∃ g c, e = .returned (shV id f (.slice (some ⟨g, 0, none⟩) n c) t ts) ∧ Ow w' W.heap.size (slsD n S) (.slice (some ⟨g, 0, none⟩) n c) (rng W.heap.size w'.heap.size) ∧ Below W.heap.size W w') := fun g W hW => by
    have := sSync_any id f s t (some ⟨g, 0, none⟩) n n S W hW hn1 hS ht1
    rw [HTS.out] at this
    exact this
  have KIm : Hid (∀ g W, Rd W (slsD n S) (.slice (some ⟨g, 0, none⟩) n n) → Calls Try.prog 7 #[shV id f (.slice (some ⟨g, 0, none⟩) n n) t s] W fun e w' => ∃ g c, e = .returned (shV id f (.slice (some ⟨g, 0, none⟩) n c) t ts) ∧ Ow w' W.heap.size (slsD n S) (.slice (some ⟨g, 0, none⟩) n c) (rng W.heap.size w'.heap.size) ∧ Below W.heap.size W w') := fun g W hW => by
    have := sync_any id f s t (some ⟨g, 0, none⟩) n n S W hW hn1 hK ht1
    rw [HTS.out] at this
    exact this
  have KEq : Hid (∀ x a1 c1 a2 c2 W, Rd W (slsD n S) (.slice a1 n c1) → Rd W (slsD n S) (.slice a2 n c2) → Calls Try.prog 8 #[shV id f (.slice a1 n c1) t x, shV id f (.slice a2 n c2) t x] W fun e w' => e = .returned (.bool true) ∧ Below W.heap.size W w') := fun x a1 c1 a2 c2 W h1 h2 => eqSh_same id f x t a1 a2 n c1 c2 S W h1 h2 hn1 hS
  have KMk : Hid (∀ x B a1 c1 F W, Ow W B (slsD n S) (.slice a1 n c1) F → Calls Try.prog 9 #[shV id f (.slice a1 n c1) t x, .int .i64 1] W fun e w' => e = .returned (.int .i64 (mq : Int)) ∧ Ow w' B (slsD n (mkL 1 S)) (.slice a1 n c1) F ∧ Trn W w' F) := fun x B a1 c1 F W h => markSh_any id f x t B a1 n c1 S 1 mq F W h hn1 hS HMQ hk
  have KHe : Hid (∀ x a1 c1 W, Rd W (slsD n (mkL 1 S)) (.slice a1 n c1) → Calls Try.prog 10 #[shV id f (.slice a1 n c1) t x, .int .i64 1] W fun e w' => e = .returned (.int .i64 (mq : Int)) ∧ Below W.heap.size W w') := fun x a1 c1 W h => heldSh_any id f x t a1 n c1 S 1 mq W h hn1 hS HMQ hk
  have nq : ¬ ((mq : Int) < 0) := by omega
  have nqq : ((mq : Int) != (mq : Int)) = false := by simp
  clear h0 hleft hS hK hk HTS HMQ ht1 hn1
  go_enter Try.func3, Try.ntmps3
  go_wp2_with (rw [← HW0.out, ← HB.out]; refine wpList_load_row (by rfl) 26 _ (by rfl) B (by rfl) 26 (shC id f (.slice a n c) t s) (0, 0) _ ?_ Try.underlying26 (by rfl) Try.infoShL ?_; exact HR0.out)
  refine Calls.mono KZ.out ?_
  rintro e w1 ⟨rfl, b1⟩
  have HR1 : Hid (Row w1 B 26 (shC id f (.slice a n c) t s)) := HR0.out.below b1 HR0.out.lt
  have KB1 : Hid (Below w.heap.size w w1) := below2 KB0.out b1
  clear b1 KZ HR0 HW0 KB0
  go_wp2_with (refine wpList_load_row (by rfl) 26 _ (by rfl) B (by rfl) 26 (shC id f (.slice a n c) t s) (0, 0) _ ?_ Try.underlying26 (by rfl) Try.infoShL ?_; exact HR1.out)
  refine Calls.mono (KTo.out _ (KRd.out _ KB1.out)) ?_
  rintro e w2 ⟨g2, rfl, O2, b2⟩
  have KC2 : Hid _ := KSp.out g2 w2 O2.rd
  have HR2 : Hid (Row w2 B 26 (shC id f (.slice a n c) t s)) := HR1.out.below b2 HR1.out.lt
  have KB2 : Hid (Below w.heap.size w w2) := below2 KB1.out b2
  clear b2 O2 HR1 KB1
  go_wp2_with fail
  refine Calls.mono KC2.out ?_
  rintro e w3 ⟨g3, c3, rfl, O3, b3⟩
  obtain ⟨E, HE⟩ : ∃ x, Hid (x = w3.heap.size) := ⟨_, rfl⟩
  obtain ⟨w4, HW4⟩ : ∃ x, Hid (x = w3.alloc (.cells (shC id f (.slice (some ⟨g3, 0, none⟩) n c3) t ts) 32)) := ⟨_, rfl⟩
  have b34 : Below w3.heap.size w3 w4 := by rw [HW4.out]; exact (Below.refl _ _).alloc (Nat.le_refl _) _
  have HE4 : Row w4 E 32 (shC id f (.slice (some ⟨g3, 0, none⟩) n c3) t ts) := by rw [HW4.out, HE.out]; exact Row.new w3 _ _
  have HR4 : Row w4 B 26 (shC id f (.slice a n c) t s) := (HR2.out.below b3 HR2.out.lt).below b34 (Nat.lt_of_lt_of_le HR2.out.lt b3.size)
  have KB4 : Hid (Below w.heap.size w w4) := below2 KB2.out (below2 b3 b34)
  have KE : Hid (∀ W, Below w4.heap.size w4 W → Row W E 32 (shC id f (.slice (some ⟨g3, 0, none⟩) n c3) t ts) ∧ Row W B 26 (shC id f (.slice a n c) t s) ∧ Rd W (slsD n S) (.slice (some ⟨g3, 0, none⟩) n c3) ∧ Rd W (slsD n S) (.slice a n c)) := fun W hW => ⟨HE4.below hW HE4.lt, HR4.below hW HR4.lt, (O3.rd.below b34).below hW, KRd.out _ (below2 KB4.out hW)⟩
  have HR4' : Hid _ := HR4
  clear b3 b34 O3 HR2 KB2 KC2 HE4 HR4
  go_wp2_with (rw [← HW4.out, ← HE.out]; refine wpList_load_row (by rfl) 26 _ (by rfl) B (by rfl) 26 (shC id f (.slice a n c) t s) (0, 0) _ ?_ Try.underlying26 (by rfl) Try.infoShL ?_; exact HR4'.out)
  refine Calls.mono (KTo.out _ (KRd.out _ KB4.out)) ?_
  rintro e w5 ⟨gx, rfl, O5, b5⟩
  obtain ⟨X, HX⟩ : ∃ x, Hid (x = w5.heap.size) := ⟨_, rfl⟩
  obtain ⟨w6, HW6⟩ : ∃ x, Hid (x = w5.alloc (.cells (shC id f (.slice (some ⟨gx, 0, none⟩) n n) t s) 32)) := ⟨_, rfl⟩
  have b56 : Below w5.heap.size w5 w6 := by rw [HW6.out]; exact (Below.refl _ _).alloc (Nat.le_refl _) _
  have b46 : Below w4.heap.size w4 w6 := below2 b5 b56
  have HX6 : Hid (Row w6 X 32 (shC id f (.slice (some ⟨gx, 0, none⟩) n n) t s)) := by show Row _ _ _ _; rw [HW6.out, HX.out]; exact Row.new w5 _ _
  obtain ⟨ex, HEX⟩ : ∃ x, Hid (w5.heap.size = x) := ⟨_, rfl⟩
  obtain ⟨bg, HBG⟩ : ∃ x, Hid (w6.heap.size = x) := ⟨_, rfl⟩
  have KO6 : Hid (Ow w6 w4.heap.size (slsD n S) (.slice (some ⟨gx, 0, none⟩) n n) (rng w4.heap.size ex)) := by rw [← HEX.out]; exact O5.below b56
  have HLs : Hid (ex ≤ X ∧ ex ≤ bg ∧ X < bg ∧ w4.heap.size ≤ bg) := ⟨by have := HX.out; have := HEX.out; omega, by rw [← HEX.out, ← HBG.out]; exact b56.size, by rw [← HBG.out]; exact HX6.out.lt, by rw [← HBG.out]; exact b46.size⟩
  have KB6 : Hid (Below w4.heap.size w4 w6) := b46
  have KC6 : Hid _ := KIm.out gx w6 KO6.out.rd
  clear b5 b56 b46 O5 HW4 HE HR4'
  go_wp2_with (rw [← HW6.out, ← HX.out]; refine wpList_load_row (by rfl) 32 _ (by rfl) X (by rfl) 32 (shC id f (.slice (some ⟨gx, 0, none⟩) n n) t s) (0, 0) _ ?_ Try.underlying32 (by rfl) Try.infoSh ?_; exact HX6.out)
  refine Calls.mono KC6.out ?_
  rintro e w7 ⟨g7, d7, rfl, O7, b7⟩
  obtain ⟨G, HG⟩ : ∃ x, Hid (x = w7.heap.size) := ⟨_, rfl⟩
  obtain ⟨w8, HW8⟩ : ∃ x, Hid (x = w7.alloc (.cells (shC id f (.slice (some ⟨g7, 0, none⟩) n d7) t ts) 32)) := ⟨_, rfl⟩
  have b78 : Below w7.heap.size w7 w8 := by rw [HW8.out]; exact (Below.refl _ _).alloc (Nat.le_refl _) _
  have b68 : Below w6.heap.size w6 w8 := below2 b7 b78
  have F8 : Hid (HsF w4 X bg G id f s ts t n gx S (some ⟨g7, 0, none⟩) d7 w8) := by
    refine ⟨below2 KB6.out b68, HX6.out.below b68 HX6.out.lt, by rw [HW8.out, HG.out]; exact Row.new w7 _ _, _, (O7.below b78).base (by rw [HBG.out]; exact Nat.le_refl _), fun g hg => ⟨by rw [← HBG.out]; exact hg.1, by rw [HG.out]; exact hg.2⟩⟩
  have HLt : Hid (ex ≤ X ∧ ex ≤ bg ∧ X < bg ∧ w4.heap.size ≤ bg ∧ bg ≤ G) := ⟨HLs.out.1, HLs.out.2.1, HLs.out.2.2.1, HLs.out.2.2.2, by rw [← HBG.out, HG.out]; exact b7.size⟩
  have KO8 : Hid (Ow w8 w4.heap.size (slsD n S) (.slice (some ⟨gx, 0, none⟩) n n) (rng w4.heap.size ex)) := KO6.out.below b68
  have KEg : Hid (∀ W, HsF w4 X bg G id f s ts t n gx S (some ⟨g7, 0, none⟩) d7 W → Calls Try.prog 8 #[shV id f (.slice (some ⟨g7, 0, none⟩) n d7) t ts, shV id f (.slice (some ⟨g3, 0, none⟩) n c3) t ts] W fun e w' => e = .returned (.bool true) ∧ Below W.heap.size W w') := fun W hF => by
    obtain ⟨J, o, _⟩ := hF.og
    exact KEq.out ts _ d7 _ c3 W o.rd (KE.out _ hF.bw).2.2.1
  have RE8 : Hid _ := (KE.out _ F8.out.bw).1
  clear b7 b78 b68 O7 HX6 KO6 KC6 HW6 HLs KB6 HBG HEX
  go_wp2_with (first | ((try rw [← HW8.out, ← HG.out]); refine wpList_load_row (by rfl) 32 _ (by rfl) G (by rfl) 32 (shC id f (.slice (some ⟨g7, 0, none⟩) n d7) t ts) (0, 0) _ ?_ Try.underlying32 (by rfl) Try.infoSh ?_; exact F8.out.rg) | (refine wpList_load_row (by rfl) 32 _ (by rfl) E (by rfl) 32 (shC id f (.slice (some ⟨g3, 0, none⟩) n c3) t ts) (0, 0) _ ?_ Try.underlying32 (by rfl) Try.infoSh ?_; exact RE8.out))
  refine Calls.mono (KEg.out _ F8.out) ?_
  rintro e w9 ⟨rfl, b9⟩
  have F9 : Hid (HsF w4 X bg G id f s ts t n gx S (some ⟨g7, 0, none⟩) d7 w9) := F8.out.below b9
  have KO9 : Hid (Ow w9 w4.heap.size (slsD n S) (.slice (some ⟨gx, 0, none⟩) n n) (rng w4.heap.size ex)) := KO8.out.below b9
  clear b9 F8 KO8 HW8 HG RE8
  go_upto_region 10 with fail
  go_cut [31] from 27 to 31 (fun v wx => Hid (v = .bool false ∧ Below w9.heap.size w9 wx))
  case first =>
    have RB := (KE.out _ F9.out.bw).2.1
    have q0 := RB.cell 0
    have q1 := RB.cell 1
    have q2 := RB.cell 2
    have q3 := RB.cell 3
    have q4 := RB.cell 4
    have y0 := F9.out.rx.cell 0
    have y1 := F9.out.rx.cell 1
    have y2 := F9.out.rx.cell 2
    have y3 := F9.out.rx.cell 3
    have y4 := F9.out.rx.cell 4
    simp at q0 q1 q2 q3 q4 y0 y1 y2 y3 y4
    have lB := RB.lt
    have lX := F9.out.rx.lt
    have KTP : Hid _ := KTo.out w9.drew (KE.out _ F9.out.bw).2.2.2.drew
    have KO9r : Hid (Rd w9 (slsD n S) (.slice (some ⟨gx, 0, none⟩) n n)) := KO9.out.rd
    have KS : Hid (∀ W, Below w9.heap.size w9 W → (W.cell? ⟨B, 0, none⟩ = some (.int .i64 id) ∧ W.cell? ⟨B, 1, none⟩ = some (.int .i64 f) ∧ W.cell? ⟨B, 2, none⟩ = some (.slice a n c) ∧ W.cell? ⟨B, 3, none⟩ = some (.string t) ∧ W.cell? ⟨B, 4, none⟩ = some (.int .i64 s)) ∧ W.cell? ⟨X, 0, none⟩ = some (.int .i64 id) ∧ W.cell? ⟨X, 1, none⟩ = some (.int .i64 f) ∧ W.cell? ⟨X, 2, none⟩ = some (.slice (some ⟨gx, 0, none⟩) n n) ∧ W.cell? ⟨X, 3, none⟩ = some (.string t) ∧ W.cell? ⟨X, 4, none⟩ = some (.int .i64 s)) := fun W hW => ⟨⟨(hW.cell (p := ⟨B, 0, none⟩) lB).trans q0, (hW.cell (p := ⟨B, 1, none⟩) lB).trans q1, (hW.cell (p := ⟨B, 2, none⟩) lB).trans q2, (hW.cell (p := ⟨B, 3, none⟩) lB).trans q3, (hW.cell (p := ⟨B, 4, none⟩) lB).trans q4⟩, (hW.cell (p := ⟨X, 0, none⟩) lX).trans y0, (hW.cell (p := ⟨X, 1, none⟩) lX).trans y1, (hW.cell (p := ⟨X, 2, none⟩) lX).trans y2, (hW.cell (p := ⟨X, 3, none⟩) lX).trans y3, (hW.cell (p := ⟨X, 4, none⟩) lX).trans y4⟩
    go_region_held3 (fun w' => (w'.cell? ⟨B, 0, none⟩ = some (.int .i64 id) ∧ w'.cell? ⟨B, 1, none⟩ = some (.int .i64 f) ∧ w'.cell? ⟨B, 2, none⟩ = some (.slice a n c) ∧ w'.cell? ⟨B, 3, none⟩ = some (.string t) ∧ w'.cell? ⟨B, 4, none⟩ = some (.int .i64 s)) ∧ w'.cell? ⟨X, 0, none⟩ = some (.int .i64 id) ∧ w'.cell? ⟨X, 1, none⟩ = some (.int .i64 f) ∧ w'.cell? ⟨X, 2, none⟩ = some (.slice (some ⟨gx, 0, none⟩) n n) ∧ w'.cell? ⟨X, 3, none⟩ = some (.string t) ∧ w'.cell? ⟨X, 4, none⟩ = some (.int .i64 s)) (go_keep) ((first | (go_at_call 6; refine Calls.mono (KTP.out) ?_; rintro e v7 ⟨g7', rfl, O7, b7'⟩; have b7 := below_of_drew b7'; clear b7'; have KO7 : Hid (Rd v7 (slsD n S) (.slice (some ⟨g7', 0, none⟩) n n)) := O7.rd; clear O7; obtain ⟨⟨p0, p1, p2, p3, p4⟩, z0, z1, z2, z3, z4⟩ := KS.out _ b7) | (guard_hyp b7; go_at_call 8; refine Calls.mono (KEq.out s _ n _ n _ (KO9r.out.below b7) KO7.out) ?_; rintro e v8 ⟨rfl, b8⟩; have b78 := below2 b7 b8; obtain ⟨⟨s0, s1, s2, s3, s4⟩, t0, t1, t2, t3, t4⟩ := KS.out _ b78)))
    all_goals
      go_wp2_with fail
      go_meet
      exact ⟨rfl, b78⟩
  obtain ⟨rfl, bc⟩ := hcut.out
  clear hcut
  have Fc : Hid (HsF w4 X bg G id f s ts t n gx S (some ⟨g7, 0, none⟩) d7 wc) := F9.out.below bc
  have KMc : Hid _ := KMk.out s w4.heap.size _ n _ wc (KO9.out.below bc)
  clear bc F9 KO9
  go_wp2_with (refine wpList_load_row (by rfl) 32 _ (by rfl) X (by rfl) 32 (shC id f (.slice (some ⟨gx, 0, none⟩) n n) t s) (0, 0) _ ?_ Try.underlying32 (by rfl) Try.infoSh ?_; exact Fc.out.rx)
  refine Calls.mono KMc.out ?_
  rintro e w12 ⟨rfl, _, T12⟩
  have F12 : Hid (HsF w4 X bg G id f s ts t n gx S (some ⟨g7, 0, none⟩) d7 w12) := Fc.out.turnX T12 HLt.out.1 HLt.out.2.1 HLt.out.2.2.2.2
  have RE12 := (KE.out _ F12.out.bw).1
  have r0 := F12.out.rg.cell 0
  have r1 := F12.out.rg.cell 1
  have r2 := F12.out.rg.cell 2
  have r3 := F12.out.rg.cell 3
  have r4 := F12.out.rg.cell 4
  have m0 := RE12.cell 0
  have m1 := RE12.cell 1
  have m2 := RE12.cell 2
  have m3 := RE12.cell 3
  have m4 := RE12.cell 4
  simp at r0 r1 r2 r3 r4 m0 m1 m2 m3 m4
  clear T12 Fc KMc RE12
  go_wp2_with fail
  refine Calls.mono (KEg.out _ F12.out) ?_
  rintro e w13 ⟨rfl, b13⟩
  have F13 : Hid (HsF w4 X bg G id f s ts t n gx S (some ⟨g7, 0, none⟩) d7 w13) := F12.out.below b13
  clear b13 F12 r0 r1 r2 r3 r4 m0 m1 m2 m3 m4
  have KM13 : Hid (Calls Try.prog 9 #[shV id f (.slice (some ⟨g7, 0, none⟩) n d7) t ts, .int .i64 1] w13 fun e w' => e = .returned (.int .i64 (mq : Int)) ∧ HsF w4 X bg G id f s ts t n gx (mkL 1 S) (some ⟨g7, 0, none⟩) d7 w') := by
    obtain ⟨J, o, hd⟩ := F13.out.og
    refine (KMk.out ts bg _ d7 J w13 o).mono ?_
    rintro e w' ⟨rfl, o', t'⟩
    exact ⟨rfl, F13.out.turnG t' hd o' HLt.out.2.2.2.1 HLt.out.2.2.1⟩
  have KHg : Hid (∀ W, HsF w4 X bg G id f s ts t n gx (mkL 1 S) (some ⟨g7, 0, none⟩) d7 W → Calls Try.prog 10 #[shV id f (.slice (some ⟨g7, 0, none⟩) n d7) t ts, .int .i64 1] W fun e w' => e = .returned (.int .i64 (mq : Int)) ∧ Below W.heap.size W w') := fun W hF => by
    obtain ⟨J, o, _⟩ := hF.og
    exact KHe.out ts _ d7 W o.rd
  go_wp2_with (refine wpList_load_row (by rfl) 32 _ (by rfl) G (by rfl) 32 (shC id f (.slice (some ⟨g7, 0, none⟩) n d7) t ts) (0, 0) _ ?_ Try.underlying32 (by rfl) Try.infoSh ?_; exact F13.out.rg)
  refine Calls.mono KM13.out ?_
  rintro e w14 ⟨rfl, F14'⟩
  have F14 : Hid (HsF w4 X bg G id f s ts t n gx (mkL 1 S) (some ⟨g7, 0, none⟩) d7 w14) := F14'
  clear F14' F13 KM13
  go_wp2_with (refine wpList_load_row (by rfl) 32 _ (by rfl) G (by rfl) 32 (shC id f (.slice (some ⟨g7, 0, none⟩) n d7) t ts) (0, 0) _ ?_ Try.underlying32 (by rfl) Try.infoSh ?_; exact F14.out.rg)
  refine Calls.mono (KHg.out _ F14.out) ?_
  rintro e w15 ⟨rfl, b15⟩
  have F15 : Hid (HsF w4 X bg G id f s ts t n gx (mkL 1 S) (some ⟨g7, 0, none⟩) d7 w15) := F14.out.below b15
  have RB15 : Hid _ := (KE.out _ F15.out.bw).2.1
  clear b15 F14
  go_wp2_with (refine wpList_load_row (by rfl) 26 _ (by rfl) B (by rfl) 26 (shC id f (.slice a n c) t s) (0, 0) _ ?_ Try.underlying26 (by rfl) Try.infoShL ?_; exact RB15.out)
  refine Calls.mono (KTo.out _ (KE.out _ F15.out.bw).2.2.2) ?_
  rintro e w16 ⟨g16, rfl, O16, b16⟩
  have F16 : Hid (HsF w4 X bg G id f s ts t n gx (mkL 1 S) (some ⟨g7, 0, none⟩) d7 w16) := F15.out.below b16
  have KC16 : Hid _ := KIm.out g16 w16 O16.rd
  clear b16 O16 F15 RB15
  go_wp2_with fail
  refine Calls.mono KC16.out ?_
  rintro e w17 ⟨g17, d17, rfl, O17, b17⟩
  obtain ⟨H, HH⟩ : ∃ x, Hid (x = w17.heap.size) := ⟨_, rfl⟩
  obtain ⟨w18, HW18⟩ : ∃ x, Hid (x = w17.alloc (.cells (shC id f (.slice (some ⟨g17, 0, none⟩) n d17) t ts) 32)) := ⟨_, rfl⟩
  have b1718 : Below w17.heap.size w17 w18 := by rw [HW18.out]; exact (Below.refl _ _).alloc (Nat.le_refl _) _
  have RH : Hid (Row w18 H 32 (shC id f (.slice (some ⟨g17, 0, none⟩) n d17) t ts)) := by show Row _ _ _ _; rw [HW18.out, HH.out]; exact Row.new w17 _ _
  have F18 : Hid (HsF w4 X bg G id f s ts t n gx (mkL 1 S) (some ⟨g7, 0, none⟩) d7 w18) := (F16.out.below b17).below b1718
  have KEq2 : Hid _ := KEq.out ts _ d17 _ c3 w18 (O17.rd.below b1718) (KE.out _ F18.out.bw).2.2.1
  have RE18 : Hid _ := (KE.out _ F18.out.bw).1
  clear b17 b1718 O17 F16 KC16
  go_wp2_with (first | ((try rw [← HW18.out, ← HH.out]); refine wpList_load_row (by rfl) 32 _ (by rfl) H (by rfl) 32 (shC id f (.slice (some ⟨g17, 0, none⟩) n d17) t ts) (0, 0) _ ?_ Try.underlying32 (by rfl) Try.infoSh ?_; exact RH.out) | (refine wpList_load_row (by rfl) 32 _ (by rfl) E (by rfl) 32 (shC id f (.slice (some ⟨g3, 0, none⟩) n c3) t ts) (0, 0) _ ?_ Try.underlying32 (by rfl) Try.infoSh ?_; exact RE18.out))
  refine Calls.mono KEq2.out ?_
  rintro e w19 ⟨rfl, b19⟩
  have F19 : Hid (HsF w4 X bg G id f s ts t n gx (mkL 1 S) (some ⟨g7, 0, none⟩) d7 w19) := F18.out.below b19
  clear b19 F18 KEq2 RH RE18
  go_wp2_with (refine wpList_load_row (by rfl) 32 _ (by rfl) G (by rfl) 32 (shC id f (.slice (some ⟨g7, 0, none⟩) n d7) t ts) (0, 0) _ ?_ Try.underlying32 (by rfl) Try.infoSh ?_; exact F19.out.rg)
  refine Calls.mono (KHg.out _ F19.out) ?_
  rintro e w20 ⟨rfl, b20⟩
  have KF : Hid (Below w.heap.size w w20) := below2 KB4.out (below2 F19.out.bw b20)
  clear b20 F19
  go_wp2
  go_ret
  exact ⟨rfl, KF.out⟩
end Go.Proofs.Ytbfkbbiddbnchaa
namespace Go.Proofs.Ytbfkbbiddbnchaa.fnExactShelfSync
open Go.ChangeShapes Go.WideShapes Go.ChangeAt Go.RowKit
open Go.ChangeMaps (open_string shut_string)
set_option linter.unusedVariables false
theorem own : ownKnob Try.prog.godebug = none := by kernel_rfl
theorem laidOut : laidOutB Try.prog = true := by kernel_rfl
set_option maxRecDepth 100000 in
theorem lifted (os : Os) (started : os.Started) (H : Type) (enc : TypeId × Value → H) :
    ReturnsInHanded {} Try.checked os 3 .any (Rows.fnExactShelfSyncSpec.pre6 enc Try.prog Try.f3 Rows.fnExactShelfSyncRow.domain false) (Rows.fnExactShelfSyncSpec.post enc Try.prog Try.f3 false true false false) := by
  refine returnsInHanded_of_change (C := Try.checked) own started (by kernel_rfl) Try.func3
    (ChangeSpec.witness6 (enc := enc) (C := Try.checked) false ⟨#[], #[.agg #[.int .i64 0, .int .i64 0, .slice none 0 0, .string ByteArray.empty, .int .i64 0]], []⟩ 8 (by kernel_rfl) (by kernel_rfl) (by kernel_rfl) (by kernel_rfl)) ?_
  intro W base args ds gs before hval0 hW hcnd _
  have hval : ∀ (j : Nat) t v, Try.f3.params[j]? = some t → args[j]? = some v → Value.okWide Try.prog W .any base t v := hval0
  have hW' := hW
  obtain ⟨p, q, hA0, hV, rfl, hfz, hnd⟩ := hW
  have hA : DataW.TrodAll enc Try.prog W 0 (fun _ => true) true Try.f3.params.toList args.toList ds p := hA0
  rw [Try.params3] at hA hval
  obtain ⟨v0, vs0, d0, ds0, p0, q0, hargs, rfl, rfl, h0, r0⟩ := trodAll_cons hA
  obtain ⟨rfl, rfl, rfl⟩ := trodAll_nil r0
  obtain rfl : args = #[v0] := by cases args; simp_all
  obtain ⟨rfl, rfl⟩ := trodVars_none hV
  obtain ⟨cs0, rfl, _, _⟩ : ∃ cs, v0 = .agg cs ∧ cs.size = Try.prog.cellsOf 26 ∧ Row.okWide Try.prog W .any base 26 cs := by
    have := hval 0 26 v0 rfl rfl
    simpa [Value.okWide, Try.underlying26] using this
  have k0 := h0
  have lt0 : ∀ x ∈ p0, x.block < W.heap.size := by obtain ⟨m, hm⟩ := k0; exact DataW.trod_lt m _ _ _ hm
  obtain ⟨r0i, r0f, r0a, r0m, r0c, r0S, r0t, r0s, hcs0, w0⟩ : ∃ (id f : Int) (a : Option Addr) (n c : Nat) (S : Nat → Sl) (t : ByteArray) (s : Int), cs0.toList = [.int .i64 id, .int .i64 f, .slice a n c, .string t, .int .i64 s] ∧ Rd W (slsD n S) (.slice a n c) ∧ n ≤ maxLen ∧ (∀ i, i < n → SlB (S i)) ∧ t.size ≤ maxLen := by
    obtain ⟨fuel, hf⟩ := h0
    exact open_shelf (by simpa [Value.cells] using hf)
  obtain ⟨l0⟩ := cs0
  obtain rfl : l0 = _ := hcs0
  clear hA0 hval0
  refine (walk_FnExactShelfSync r0i r0f r0a r0m r0c r0S r0t r0s W w0).mono fun e W' ⟨he, bel⟩ => ?_
  subst he
  exact ⟨_, rfl, _, _, _, [], _, [], hW', trodAll_mk1 (shut_bool Try.underlying4 _), (trodAll_cons_mk (Below.trod laidOut (by kernel_rfl) (of_decide_eq_true (by kernel_rfl)) k0 bel lt0) trodAll_mk0), rfl, bel.frame _, fun h => by cases h⟩
theorem over : Rows.fnExactShelfSyncRow.holds Try.pinned (OpenSpec.ofChange Rows.fnExactShelfSyncSpec) :=
  OpenClaim.holds_of_wide 3 Try.f3 rfl rfl rfl rfl rfl rfl rfl ⟨rfl, rfl, rfl, rfl, rfl⟩ rfl rfl rfl rfl rfl (by kernel_rfl) Try.func3 (by kernel_rfl)
    (of_decide_eq_true (by kernel_rfl)) (by unfold Func.isWrapper; first | (rw [if_pos (by decide +kernel)]; kernel_rfl) | (rw [if_neg (by decide +kernel)]; exact ⟨rfl, rfl⟩))
    (fun os started H enc _ => lifted os started H enc)
theorem proved : Rows.FnExactShelfSyncSaid := over
#print axioms proved
end Go.Proofs.Ytbfkbbiddbnchaa.fnExactShelfSync
