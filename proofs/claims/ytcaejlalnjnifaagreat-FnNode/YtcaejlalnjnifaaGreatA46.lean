import Derived.Test.YtcaejlalnjnifaaGreatA45
import Derived.Test.YtcaejlalnjnifaaGreatA10
set_option maxHeartbeats 8000000
set_option maxRecDepth 2000
open Go.ChangeShapes Go.WideShapes Go.ChangeAt Go.RowKit
namespace Go.Proofs.YtcaejlalnjnifaaGreat
def DnR (w w' : World) (e : Ending) : Prop := ∃ (id f : Int) (m : Nat) (S : Nat → Sl) (va : Option Addr) (vc : Nat) (y : Sy) (a9 : Option Addr) (c9 : Nat), e = .returned (.tuple #[ndV id f (.slice va m vc), syV y (.slice a9 y.p.m c9)]) ∧ Rd w' (slsD m S) (.slice va m vc) ∧ (∀ i, i < m → (S i).h = (S i).e ∧ SlK (S i)) ∧ m ≤ 64 ∧ SaS y ∧ TxtAt w' a9 y.p.m y.p.S ∧ Below w.heap.size w w'
theorem upRow {g D : Nat} {w W : World} {cs : Array Value} (h : Up g w W) (hD : D < g) : Up g w (W.setRow D cs) := fun b hb hl => (setRow_other W D b cs (by omega)).trans (h b hb hl)
theorem unRow {g D : Nat} {W U : World} {cs : Array Value} (h : Up g (W.setRow D cs) U) (hD : D < g) : Up g W U := fun b hb hl => (h b hb (by simpa using hl)).trans (setRow_other W D b cs (by omega))
theorem drawNodeHear_any (a : Option Addr) (n cap : Nat) (w : World) (hc : CodeAt w a n) :
  Calls Tryz.prog 8 #[.slice a n cap] w fun e w' => DnR w w' e := by
 obtain ⟨w0, HW0⟩ : ∃ x, Hid (x = (w.alloc (.cells #[.int .i64 0, .int .i64 0, .slice none 0 0] 26)).alloc (.cells #[.int .i64 0, .int .i64 0, .int .i64 0, .string ⟨#[]⟩, .string ⟨#[]⟩, .int .i64 0, .int .i64 0, .int .i64 0, .string ⟨#[]⟩, .slice none 0 0] 31)) := ⟨_, rfl⟩
 obtain ⟨D2, HD2⟩ : ∃ x, Hid (x = w.heap.size) := ⟨_, rfl⟩
 obtain ⟨D3, HD3⟩ : ∃ x, Hid (x = w.heap.size + 1) := ⟨_, rfl⟩
 have b0 : Below w.heap.size w w0 := by rw [HW0.out]; exact ((Below.refl _ _).alloc (Nat.le_refl _) _).alloc (by simp) _
 have R20 : Row w0 D2 26 #[.int .i64 0, .int .i64 0, .slice none 0 0] := by rw [HW0.out, HD2.out]; exact (Row.new w _ _).below ((Below.refl _ _).alloc (Nat.le_refl _) _) (by simp)
 have R30 : Row w0 D3 31 #[.int .i64 0, .int .i64 0, .int .i64 0, .string ⟨#[]⟩, .string ⟨#[]⟩, .int .i64 0, .int .i64 0, .int .i64 0, .string ⟨#[]⟩, .slice none 0 0] := by rw [HW0.out, HD3.out]; have := Row.new (w.alloc (.cells #[.int .i64 0, .int .i64 0, .slice none 0 0] 26)) #[.int .i64 0, .int .i64 0, .int .i64 0, .string ⟨#[]⟩, .string ⟨#[]⟩, .int .i64 0, .int .i64 0, .int .i64 0, .string ⟨#[]⟩, .slice none 0 0] 31; simpa using this
 have hc0 := hc.below b0
 have l23 : D2 < D3 ∧ w.heap.size ≤ D2 := by have h1 := HD2.out; have h2 := HD3.out; omega
 have l30 : D3 < w0.heap.size := R30.lt
 clear hc
 go_enter Tryz.func8, Tryz.ntmps8
 go_wp2_with fail
 have e2 := HD2.out
 have e3 := HD3.out
 rw [← HW0.out, ← e3, ← e2]
 clear e2 e3
 refine (new_any a n cap w0 hc0.1 hc0.bytes).mono ?_
 rintro e w1 ⟨g, rfl, hg, hb1, hc1⟩
 have hab := hc0.under hg
 have lwg : w.heap.size ≤ g := by omega
 have R21 := R20.below hb1 R20.lt
 have R31 := R30.below hb1 R30.lt
 have KB1 : Hid (Below w.heap.size w w1) := below2 b0 hb1
 clear b0 hb1 R20 R30 HW0 HD2 HD3
 go_wp2_with fail
 refine (node08_any g n cap a w1 hc1 hab).mono ?_
 rintro e w2 ⟨id, f, m, S, v, G, N, cc, P, rfl, ⟨F, hO, hFg, hS, hm⟩, id0, id1, hN0, hGg, hPi, hPs, hg2, hc2⟩
 obtain ⟨va, vc, rfl⟩ := nd_slice hO
 obtain ⟨X, HX⟩ : ∃ x, Hid (x = w2.heap.size) := ⟨_, rfl⟩
 obtain ⟨w3, HW3⟩ : ∃ x, Hid (x = w2.alloc (.cells #[.int .i64 id, .int .i64 f, .slice va m vc] 26)) := ⟨_, rfl⟩
 have b3 : Below w2.heap.size w2 w3 := by rw [HW3.out]; exact (Below.refl _ _).alloc (Nat.le_refl _) _
 have RX : Hid (Row w3 X 26 #[.int .i64 id, .int .i64 f, .slice va m vc]) := by show Row _ _ _ _; rw [HW3.out, HX.out]; exact Row.new w2 _ _
 have K3 : Hid (Cur w3 g a n cap) := curBelow hc2 b3
 have lgX : g < X := by rw [HX.out]; exact hc2.lt
 have R2 : Hid (Row w3 D2 26 #[.int .i64 0, .int .i64 0, .slice none 0 0]) := (R21.keptG hg2 (by omega)).below b3 (R21.keptG hg2 (by omega)).lt
 have R3 : Hid (Row w3 D3 31 #[.int .i64 0, .int .i64 0, .int .i64 0, .string ⟨#[]⟩, .string ⟨#[]⟩, .int .i64 0, .int .i64 0, .int .i64 0, .string ⟨#[]⟩, .slice none 0 0]) := (R31.keptG hg2 (by omega)).below b3 (R31.keptG hg2 (by omega)).lt
 have KO3 : Hid (Ow w3 (g + 1) (slsD m S) (.slice va m vc) F) := hO.below b3
 have HS : Hid (∀ i, i < m → (S i).h = (S i).e ∧ SlK (S i)) := hS
 have HM : Hid (m ≤ 64) := hm
 have KB3 : Hid (Below w.heap.size w w3) := by
  have h1 := KB1.out.grown hg2 KB1.out.size (fun k e => by cases e; exact lwg)
  exact below2 h1 b3
 have KX : Hid (∀ W, Up g w3 W → W.cell? ⟨X, 0, none⟩ = some (.int .i64 id) ∧ W.cell? ⟨X, 1, none⟩ = some (.int .i64 f) ∧ W.cell? ⟨X, 2, none⟩ = some (.slice va m vc)) := fun W hW => by
  have h9 : Row W X 26 #[.int .i64 id, .int .i64 f, .slice va m vc] := (hW X lgX RX.out.lt).trans RX.out
  have h0 := h9.cell 0
  have h1 := h9.cell 1
  have h2 := h9.cell 2
  simp at h0 h1 h2
  exact ⟨h0, h1, h2⟩
 have hpi3 : ∀ W, Up g w3 W → PiAt W (some ⟨G, 0, none⟩) N P := fun W hW => hPi W (fun b h1 h2 => (hW b h1 (Nat.lt_of_lt_of_le h2 b3.size)).trans (b3.block b h2))
 have KSayA : Hid (∀ (fz : Int) W, w3.grownBy W (some g) → Cur W g a n cap → Calls Tryz.prog 44 #[.pointer (some ⟨g, 0, none⟩), .int .i64 id, .int .i64 fz, .slice (some ⟨G, 0, none⟩) N cc] W fun e w' => ∃ (y : Sy) (a9 : Option Addr) (c9 : Nat), e = .returned (syV y (.slice a9 y.p.m c9)) ∧ SaS y ∧ (∀ U, Up g w' U → TxtAt U a9 y.p.m y.p.S) ∧ W.grownBy w' (some g) ∧ Cur w' g a n cap) := fun fz W hW hcW => say08_any g n cap a id fz G N cc P W hcW hab ⟨id0, id1⟩ hN0 (fun V hV => hpi3 V (Up.of hW hV)) hPs hGg
 have x1 := RX.out.cell 1
 simp at x1
 clear hO hFg hS hm hPi hPs hg2 hc2 b3 R21 R31 hc1 hpi3
 go_upto_region 3 with fail
 rw [← HW3.out, ← HX.out]
 go_wp2_with fail
 refine (sIn_any f 1 3 w3).mono ?_
 rintro e w3' ⟨rfl, hw3⟩
 obtain rfl := hw3.symm
 clear hw3
 cases hb : inB f 1 3 with
 | true =>
  have KSay := (fun W h1 h2 => KSayA.out f W h1 h2 : ∀ W, w3.grownBy W (some g) → Cur W g a n cap → _)
  have KSay : Hid _ := KSay
  go_wp2_with fail
  obtain ⟨Rn6, HRn6⟩ : ∃ R : Act → World → Prop, Hid (∀ A9 W, R A9 W ↔ ∃ (x26 : Value), A9 = ⟨#[.slice a n cap, undef, .pointer (some ⟨D2, 0, none⟩), .pointer (some ⟨D3, 0, none⟩), .pointer (some ⟨g, 0, none⟩), .pointer (some ⟨X, 0, none⟩), .slice (some ⟨G, 0, none⟩) N cc, .int .i64 f, .slice a n cap, .pointer (some ⟨g, 0, none⟩), .tuple #[ndV id f (.slice va m vc), .slice (some ⟨G, 0, none⟩) N cc], .pointer (some ⟨g, 0, none⟩), .tuple #[ndV id f (.slice va m vc), .slice (some ⟨G, 0, none⟩) N cc], ndV id f (.slice va m vc), .slice (some ⟨G, 0, none⟩) N cc, .pointer (some ⟨X, 1, none⟩), .int .i64 f, .int .i64 f, .bool true, .bool false, ndV id f (.slice va m vc), .pointer (some ⟨g, 0, none⟩), .pointer (some ⟨X, 0, none⟩), .int .i64 id, .int .i64 f, .slice (some ⟨G, 0, none⟩) N cc, x26], []⟩ ∧ (Below w.heap.size w W) ∧ (Up g w3 W ∧ w3.heap.size ≤ W.heap.size) ∧ (Row W D2 26 #[.int .i64 id, .int .i64 f, .slice va m vc]) ∧ (∃ y a9 c9, x26 = syV y (.slice a9 y.p.m c9) ∧ SaS y ∧ ∀ U, Up g W U → TxtAt U a9 y.p.m y.p.S) ∧ (∃ y a9 c9, x26 = syV y (.slice a9 y.p.m c9) ∧ SaS y ∧ Row W D3 31 (syC y (.slice a9 y.p.m c9)))) := ⟨fun A9 W => _, fun _ _ => Iff.rfl⟩
  refine wp_region_post Rn6 ?_ ?_
  rotate_left
  ·intro a9 wx hR9
   obtain ⟨x26, rfl, hf0, hf1, hf5, hf6, hf7⟩ := (HRn6.out a9 wx).1 hR9
   clear hR9 HRn6
   obtain ⟨y, a9, c9, rfl, hy, ht⟩ := hf6
   obtain ⟨y1, a1, c1, e1, _, rs⟩ := hf7
   rw [show syC y1 (.slice a1 y1.p.m c1) = syC y (.slice a9 y.p.m c9) from (by injection e1 with e1; exact e1.symm)] at rs
   have KRf : Hid (Rd wx (slsD m S) (.slice va m vc)) := (KO3.out.cut.frame (fun b hb hl => hf1.1 b (by have := hb.2.1; omega) hl)).rd
   have FP : Hid (DnR w wx (.returned (.tuple #[ndV id f (.slice va m vc), syV y (.slice a9 y.p.m c9)]))) := ⟨id, f, m, S, va, vc, y, a9, c9, rfl, KRf.out, HS.out, HM.out, hy, ht wx (Up.refl g wx), hf0⟩
   have RF2 : Hid (Row wx D2 26 #[.int .i64 id, .int .i64 f, .slice va m vc]) := hf5
   have RF3 : Hid (Row wx D3 31 (syC y (.slice a9 y.p.m c9))) := rs
   clear hf0 hf1 hf5 rs hy ht KRf e1
   go_wp2_with fail
   exact bodyPost_ret (v := .tuple #[ndV id f (.slice va m vc), syV y (.slice a9 y.p.m c9)]) (by
    have p0 := RF2.out.cell 0
    have p1 := RF2.out.cell 1
    have p2 := RF2.out.cell 2
    have q0 := RF3.out.cell 0
    have q1 := RF3.out.cell 1
    have q2 := RF3.out.cell 2
    have q3 := RF3.out.cell 3
    have q4 := RF3.out.cell 4
    have q5 := RF3.out.cell 5
    have q6 := RF3.out.cell 6
    have q7 := RF3.out.cell 7
    have q8 := RF3.out.cell 8
    have q9 := RF3.out.cell 9
    simp at p0 p1 p2 q0 q1 q2 q3 q4 q5 q6 q7 q8 q9
    simp [results, Tryz.results8, go_sem, p0, p1, p2, q0, q1, q2, q3, q4, q5, q6, q7, q8, q9]) rfl FP.out
  refine wp_region_cl Tryz.mixed (by kernel_rfl) (fun L A9 W => ∃ (x26 : Value), A9 = ⟨#[.slice a n cap, undef, .pointer (some ⟨D2, 0, none⟩), .pointer (some ⟨D3, 0, none⟩), .pointer (some ⟨g, 0, none⟩), .pointer (some ⟨X, 0, none⟩), .slice (some ⟨G, 0, none⟩) N cc, .int .i64 f, .slice a n cap, .pointer (some ⟨g, 0, none⟩), .tuple #[ndV id f (.slice va m vc), .slice (some ⟨G, 0, none⟩) N cc], .pointer (some ⟨g, 0, none⟩), .tuple #[ndV id f (.slice va m vc), .slice (some ⟨G, 0, none⟩) N cc], ndV id f (.slice va m vc), .slice (some ⟨G, 0, none⟩) N cc, .pointer (some ⟨X, 1, none⟩), .int .i64 f, .int .i64 f, .bool true, .bool false, cX (L 0) (ndV id f (.slice va m vc)) undef, cX (L 1) (.pointer (some ⟨g, 0, none⟩)) undef, cX (L 2) (.pointer (some ⟨X, 0, none⟩)) undef, cX (L 3) (.int .i64 id) undef, cX (L 4) (.int .i64 f) undef, cX (L 5) (.slice (some ⟨G, 0, none⟩) N cc) undef, x26], []⟩ ∧ (Below w.heap.size w W) ∧ (Up g w3 W ∧ w3.heap.size ≤ W.heap.size) ∧ (L 7 = false → L 8 = false → w3.grownBy W (some g) ∧ Cur W g a n cap) ∧ (L 7 = false → Row W D2 26 #[.int .i64 0, .int .i64 0, .slice none 0 0]) ∧ (L 8 = false → Row W D3 31 #[.int .i64 0, .int .i64 0, .int .i64 0, .string ⟨#[]⟩, .string ⟨#[]⟩, .int .i64 0, .int .i64 0, .int .i64 0, .string ⟨#[]⟩, .slice none 0 0]) ∧ (L 7 = true → Row W D2 26 #[.int .i64 id, .int .i64 f, .slice va m vc]) ∧ (L 6 = true → ∃ y a9 c9, x26 = syV y (.slice a9 y.p.m c9) ∧ SaS y ∧ ∀ U, Up g W U → TxtAt U a9 y.p.m y.p.S) ∧ (L 8 = true → ∃ y a9 c9, x26 = syV y (.slice a9 y.p.m c9) ∧ SaS y ∧ Row W D3 31 (syC y (.slice a9 y.p.m c9)))) ?_ ?_ ?_
  ·exact ⟨undef, rfl, below2 KB3.out (below_drew _), ⟨upG (grownB g (below_drew _)), Nat.le_refl _⟩, (fun _ _ => ⟨grownB g (below_drew _), curBelow K3.out (below_drew _)⟩), (fun _ => R2.out.below (below_drew _) R2.out.lt), (fun _ => R3.out.below (below_drew _) R3.out.lt), (fun h => by cases h), (fun h => by cases h), (fun h => by cases h)⟩
  ·intro q9 hq9 L a9 W hl hd hcl hI9
   obtain ⟨x26, rfl, h0, h1, h2, h3, h4, h5, h6, h7⟩ := hI9
   match q9, hq9 with
   | 0, _ =>
    have e0 := hl
    have e7 : L 7 = false := by cases h9 : L 7 with | false => rfl | true => rw [((hcl 7 h9).dep 0 (by kernel_rfl))] at hl; cases hl
    obtain ⟨o0, o1, o2⟩ := KX.out W h1.1
    refine wpOp_plain rfl (fun _ => rfl) fun K hK => ?_
    go_simp
    exact hK _ _ ⟨x26, (by simp only [Nat.reduceBEq, Bool.false_or, Bool.true_or, cX_y]), (h0), (h1), (fun k0 k1 => (h2 (show L 7 = false from k0) (show L 8 = false from k1))), (fun k0 => (h3 (show L 7 = false from k0))), (fun k0 => (h4 (show L 8 = false from k0))), (fun k0 => absurd (show L 7 = true from k0) (by rw [e7]; simp)), (fun k0 => (h6 (show L 6 = true from k0))), (fun k0 => (h7 (show L 8 = true from k0)))⟩
   | 1, _ =>
    have e1 := hl
    have e6 : L 6 = false := by cases h9 : L 6 with | false => rfl | true => rw [((hcl 6 h9).dep 1 (by kernel_rfl))] at hl; cases hl
    have e7 : L 7 = false := by cases h9 : L 7 with | false => rfl | true => rw [((hcl 6 ((hcl 7 h9).dep 6 (by kernel_rfl))).dep 1 (by kernel_rfl))] at hl; cases hl
    have e8 : L 8 = false := by cases h9 : L 8 with | false => rfl | true => rw [((hcl 6 ((hcl 8 h9).dep 6 (by kernel_rfl))).dep 1 (by kernel_rfl))] at hl; cases hl
    refine wpOp_plain rfl (fun _ => rfl) fun K hK => ?_
    go_simp
    exact hK _ _ ⟨x26, (by simp only [Nat.reduceBEq, Bool.false_or, Bool.true_or, cX_y]), (h0), (h1), (fun k0 k1 => (h2 (show L 7 = false from k0) (show L 8 = false from k1))), (fun k0 => (h3 (show L 7 = false from k0))), (fun k0 => (h4 (show L 8 = false from k0))), (fun k0 => absurd (show L 7 = true from k0) (by rw [e7]; simp)), (fun k0 => absurd (show L 6 = true from k0) (by rw [e6]; simp)), (fun k0 => absurd (show L 8 = true from k0) (by rw [e8]; simp))⟩
   | 2, _ =>
    have e2 := hl
    have e6 : L 6 = false := by cases h9 : L 6 with | false => rfl | true => rw [((hcl 3 ((hcl 6 h9).dep 3 (by kernel_rfl))).dep 2 (by kernel_rfl))] at hl; cases hl
    have e7 : L 7 = false := by cases h9 : L 7 with | false => rfl | true => rw [((hcl 3 ((hcl 6 ((hcl 7 h9).dep 6 (by kernel_rfl))).dep 3 (by kernel_rfl))).dep 2 (by kernel_rfl))] at hl; cases hl
    have e8 : L 8 = false := by cases h9 : L 8 with | false => rfl | true => rw [((hcl 3 ((hcl 6 ((hcl 8 h9).dep 6 (by kernel_rfl))).dep 3 (by kernel_rfl))).dep 2 (by kernel_rfl))] at hl; cases hl
    refine wpOp_plain rfl (fun _ => rfl) fun K hK => ?_
    go_simp
    exact hK _ _ ⟨x26, (by simp only [Nat.reduceBEq, Bool.false_or, Bool.true_or, cX_y]), (h0), (h1), (fun k0 k1 => (h2 (show L 7 = false from k0) (show L 8 = false from k1))), (fun k0 => (h3 (show L 7 = false from k0))), (fun k0 => (h4 (show L 8 = false from k0))), (fun k0 => absurd (show L 7 = true from k0) (by rw [e7]; simp)), (fun k0 => absurd (show L 6 = true from k0) (by rw [e6]; simp)), (fun k0 => absurd (show L 8 = true from k0) (by rw [e8]; simp))⟩
   | 3, _ =>
    have d2 := hd.dep 2 (by kernel_rfl)
    have e3 := hl
    have e6 : L 6 = false := by cases h9 : L 6 with | false => rfl | true => rw [((hcl 6 h9).dep 3 (by kernel_rfl))] at hl; cases hl
    have e7 : L 7 = false := by cases h9 : L 7 with | false => rfl | true => rw [((hcl 6 ((hcl 7 h9).dep 6 (by kernel_rfl))).dep 3 (by kernel_rfl))] at hl; cases hl
    have e8 : L 8 = false := by cases h9 : L 8 with | false => rfl | true => rw [((hcl 6 ((hcl 8 h9).dep 6 (by kernel_rfl))).dep 3 (by kernel_rfl))] at hl; cases hl
    obtain ⟨o0, o1, o2⟩ := KX.out W h1.1
    refine wpOp_plain rfl (fun _ => rfl) fun K hK => ?_
    simp only [d2, cX_y]
    go_simp
    exact hK _ _ ⟨x26, (by simp only [Nat.reduceBEq, Bool.false_or, Bool.true_or, cX_y, d2]), (h0), (h1), (fun k0 k1 => (h2 (show L 7 = false from k0) (show L 8 = false from k1))), (fun k0 => (h3 (show L 7 = false from k0))), (fun k0 => (h4 (show L 8 = false from k0))), (fun k0 => absurd (show L 7 = true from k0) (by rw [e7]; simp)), (fun k0 => absurd (show L 6 = true from k0) (by rw [e6]; simp)), (fun k0 => absurd (show L 8 = true from k0) (by rw [e8]; simp))⟩
   | 4, _ =>
    have e4 := hl
    have e6 : L 6 = false := by cases h9 : L 6 with | false => rfl | true => rw [((hcl 6 h9).dep 4 (by kernel_rfl))] at hl; cases hl
    have e7 : L 7 = false := by cases h9 : L 7 with | false => rfl | true => rw [((hcl 6 ((hcl 7 h9).dep 6 (by kernel_rfl))).dep 4 (by kernel_rfl))] at hl; cases hl
    have e8 : L 8 = false := by cases h9 : L 8 with | false => rfl | true => rw [((hcl 6 ((hcl 8 h9).dep 6 (by kernel_rfl))).dep 4 (by kernel_rfl))] at hl; cases hl
    refine wpOp_plain rfl (fun _ => rfl) fun K hK => ?_
    go_simp
    exact hK _ _ ⟨x26, (by simp only [Nat.reduceBEq, Bool.false_or, Bool.true_or, cX_y]), (h0), (h1), (fun k0 k1 => (h2 (show L 7 = false from k0) (show L 8 = false from k1))), (fun k0 => (h3 (show L 7 = false from k0))), (fun k0 => (h4 (show L 8 = false from k0))), (fun k0 => absurd (show L 7 = true from k0) (by rw [e7]; simp)), (fun k0 => absurd (show L 6 = true from k0) (by rw [e6]; simp)), (fun k0 => absurd (show L 8 = true from k0) (by rw [e8]; simp))⟩
   | 5, _ =>
    have e5 := hl
    have e6 : L 6 = false := by cases h9 : L 6 with | false => rfl | true => rw [((hcl 6 h9).dep 5 (by kernel_rfl))] at hl; cases hl
    have e7 : L 7 = false := by cases h9 : L 7 with | false => rfl | true => rw [((hcl 6 ((hcl 7 h9).dep 6 (by kernel_rfl))).dep 5 (by kernel_rfl))] at hl; cases hl
    have e8 : L 8 = false := by cases h9 : L 8 with | false => rfl | true => rw [((hcl 6 ((hcl 8 h9).dep 6 (by kernel_rfl))).dep 5 (by kernel_rfl))] at hl; cases hl
    refine wpOp_plain rfl (fun _ => rfl) fun K hK => ?_
    go_simp
    exact hK _ _ ⟨x26, (by simp only [Nat.reduceBEq, Bool.false_or, Bool.true_or, cX_y]), (h0), (h1), (fun k0 k1 => (h2 (show L 7 = false from k0) (show L 8 = false from k1))), (fun k0 => (h3 (show L 7 = false from k0))), (fun k0 => (h4 (show L 8 = false from k0))), (fun k0 => absurd (show L 7 = true from k0) (by rw [e7]; simp)), (fun k0 => absurd (show L 6 = true from k0) (by rw [e6]; simp)), (fun k0 => absurd (show L 8 = true from k0) (by rw [e8]; simp))⟩
   | 6, _ =>
    have d1 := hd.dep 1 (by kernel_rfl)
    have d3 := hd.dep 3 (by kernel_rfl)
    have d4 := hd.dep 4 (by kernel_rfl)
    have d5 := hd.dep 5 (by kernel_rfl)
    have e6 := hl
    have e7 : L 7 = false := by cases h9 : L 7 with | false => rfl | true => rw [((hcl 7 h9).dep 6 (by kernel_rfl))] at hl; cases hl
    have e8 : L 8 = false := by cases h9 : L 8 with | false => rfl | true => rw [((hcl 8 h9).dep 6 (by kernel_rfl))] at hl; cases hl
    have k2 := h2 e7 e8
    have r2 := h3 e7
    have r3 := h4 e8
    refine wpOp_plain rfl (fun _ => rfl) fun K hK => ?_
    simp only [d1, d3, d4, d5, cX_y]
    go_simp
    refine Calls.mono (KSay.out W k2.1 k2.2) ?_
    rintro e w9 ⟨y, a9, c9, rfl, hy, ht, kg, kc⟩
    exact hK _ _ ⟨syV y (.slice a9 y.p.m c9), (by simp only [Nat.reduceBEq, Bool.false_or, d1, d3, d4, d5, cX_y]), (h0.grown kg h0.size (fun k e => by cases e; exact lwg)), (⟨upG (grownBy_trans k2.1 kg), Nat.le_trans h1.2 kg.size⟩), (fun k0 k1 => ⟨grownBy_trans k2.1 kg, kc⟩), (fun k0 => r2.keptG kg (by omega)), (fun k0 => r3.keptG kg (by omega)), (fun k0 => absurd (show L 7 = true from k0) (by rw [e7]; simp)), (fun k0 => ⟨y, a9, c9, rfl, hy, ht⟩), (fun k0 => absurd (show L 8 = true from k0) (by rw [e8]; simp))⟩
   | 7, _ =>
    have d0 := hd.dep 0 (by kernel_rfl)
    have d6 := hd.dep 6 (by kernel_rfl)
    have e7 := hl
    have r2 := h3 e7
    refine wpOp_plain rfl (fun _ => rfl) fun K hK => ?_
    simp only [d0, cX_y]
    refine wp_store_row 26 _ _ rfl D2 #[.int .i64 id, .int .i64 f, .slice va m vc] (by rfl) (by rfl) 26 #[.int .i64 0, .int .i64 0, .slice none 0 0] r2 Tryz.infoNd rfl (by simp [Value.oneCell']) ?_
    exact hK _ _ ⟨x26, (by simp [Act.put, cX_y, d0]), (belowSetRow h0 (by omega) _), (⟨upRow h1.1 (by omega), by simpa using h1.2⟩), (fun k0 k1 => by cases k0), (fun k0 => by cases k0), (fun k0 => (setRow_other W D2 D3 _ (by omega)).trans (h4 (show L 8 = false from k0))), (fun k0 => r2.row), (fun k0 => by obtain ⟨y, a9, c9, q1, q2, q3⟩ := h6 (show L 6 = true from k0); exact ⟨y, a9, c9, q1, q2, fun U hU => q3 U (unRow hU (by omega))⟩), (fun k0 => by obtain ⟨y, a9, c9, q1, q2, q3⟩ := h7 (show L 8 = true from k0); exact ⟨y, a9, c9, q1, q2, (setRow_other W D2 D3 _ (by omega)).trans q3⟩)⟩
   | 8, _ =>
    have d6 := hd.dep 6 (by kernel_rfl)
    have e8 := hl
    have r3 := h4 e8
    obtain ⟨y, a9, c9, rfl, hy, ht⟩ := h6 d6
    refine wpOp_plain rfl (fun _ => rfl) fun K hK => ?_
    refine wp_store_row 31 _ _ rfl D3 (syC y (.slice a9 y.p.m c9)) (by rfl) (by rfl) 31 #[.int .i64 0, .int .i64 0, .int .i64 0, .string ⟨#[]⟩, .string ⟨#[]⟩, .int .i64 0, .int .i64 0, .int .i64 0, .string ⟨#[]⟩, .slice none 0 0] r3 Tryz.infoSy rfl (by simp [Value.oneCell']) ?_
    exact hK _ _ ⟨syV y (.slice a9 y.p.m c9), (by simp [Act.put]), (belowSetRow h0 (by omega) _), (⟨upRow h1.1 (by omega), by simpa using h1.2⟩), (fun k0 k1 => by cases k1), (fun k0 => (setRow_other W D3 D2 _ (by omega)).trans (h3 (show L 7 = false from k0))), (fun k0 => by cases k0), (fun k0 => (setRow_other W D3 D2 _ (by omega)).trans (h5 (show L 7 = true from k0))), (fun k0 => ⟨y, a9, c9, rfl, hy, fun U hU => ht U (unRow hU (by omega))⟩), (fun k0 => ⟨y, a9, c9, rfl, hy, r3.row⟩)⟩
   | n9 + 9, h => exact absurd h (by simp)
  ·intro L a9 W hall hI9
   obtain ⟨x26, rfl, h0, h1, h2, h3, h4, h5, h6, h7⟩ := hI9
   have e0 := hall 0 (by decide)
   have e1 := hall 1 (by decide)
   have e2 := hall 2 (by decide)
   have e3 := hall 3 (by decide)
   have e4 := hall 4 (by decide)
   have e5 := hall 5 (by decide)
   have e6 := hall 6 (by decide)
   have e7 := hall 7 (by decide)
   have e8 := hall 8 (by decide)
   simp only [e0, e1, e2, e3, e4, e5, cX_y]
   exact (HRn6.out _ _).2 ⟨x26, rfl, h0, h1, h5 e7, h6 e6, h7 e8⟩
 | false =>
  have KSay := (fun W h1 h2 => KSayA.out 1 W h1 h2 : ∀ W, w3.grownBy W (some g) → Cur W g a n cap → _)
  have KSay : Hid _ := KSay
  go_wp2_with fail
  obtain ⟨Rn6, HRn6⟩ : ∃ R : Act → World → Prop, Hid (∀ A9 W, R A9 W ↔ ∃ (x26 : Value), A9 = ⟨#[.slice a n cap, undef, .pointer (some ⟨D2, 0, none⟩), .pointer (some ⟨D3, 0, none⟩), .pointer (some ⟨g, 0, none⟩), .pointer (some ⟨X, 0, none⟩), .slice (some ⟨G, 0, none⟩) N cc, .int .i64 1, .slice a n cap, .pointer (some ⟨g, 0, none⟩), .tuple #[ndV id f (.slice va m vc), .slice (some ⟨G, 0, none⟩) N cc], .pointer (some ⟨g, 0, none⟩), .tuple #[ndV id f (.slice va m vc), .slice (some ⟨G, 0, none⟩) N cc], ndV id f (.slice va m vc), .slice (some ⟨G, 0, none⟩) N cc, .pointer (some ⟨X, 1, none⟩), .int .i64 f, .int .i64 f, .bool false, .bool true, ndV id f (.slice va m vc), .pointer (some ⟨g, 0, none⟩), .pointer (some ⟨X, 0, none⟩), .int .i64 id, .int .i64 1, .slice (some ⟨G, 0, none⟩) N cc, x26], []⟩ ∧ (Below w.heap.size w W) ∧ (Up g w3 W ∧ w3.heap.size ≤ W.heap.size) ∧ (Row W D2 26 #[.int .i64 id, .int .i64 f, .slice va m vc]) ∧ (∃ y a9 c9, x26 = syV y (.slice a9 y.p.m c9) ∧ SaS y ∧ ∀ U, Up g W U → TxtAt U a9 y.p.m y.p.S) ∧ (∃ y a9 c9, x26 = syV y (.slice a9 y.p.m c9) ∧ SaS y ∧ Row W D3 31 (syC y (.slice a9 y.p.m c9)))) := ⟨fun A9 W => _, fun _ _ => Iff.rfl⟩
  refine wp_region_post Rn6 ?_ ?_
  rotate_left
  ·intro a9 wx hR9
   obtain ⟨x26, rfl, hf0, hf1, hf5, hf6, hf7⟩ := (HRn6.out a9 wx).1 hR9
   clear hR9 HRn6
   obtain ⟨y, a9, c9, rfl, hy, ht⟩ := hf6
   obtain ⟨y1, a1, c1, e1, _, rs⟩ := hf7
   rw [show syC y1 (.slice a1 y1.p.m c1) = syC y (.slice a9 y.p.m c9) from (by injection e1 with e1; exact e1.symm)] at rs
   have KRf : Hid (Rd wx (slsD m S) (.slice va m vc)) := (KO3.out.cut.frame (fun b hb hl => hf1.1 b (by have := hb.2.1; omega) hl)).rd
   have FP : Hid (DnR w wx (.returned (.tuple #[ndV id f (.slice va m vc), syV y (.slice a9 y.p.m c9)]))) := ⟨id, f, m, S, va, vc, y, a9, c9, rfl, KRf.out, HS.out, HM.out, hy, ht wx (Up.refl g wx), hf0⟩
   have RF2 : Hid (Row wx D2 26 #[.int .i64 id, .int .i64 f, .slice va m vc]) := hf5
   have RF3 : Hid (Row wx D3 31 (syC y (.slice a9 y.p.m c9))) := rs
   clear hf0 hf1 hf5 rs hy ht KRf e1
   go_wp2_with fail
   exact bodyPost_ret (v := .tuple #[ndV id f (.slice va m vc), syV y (.slice a9 y.p.m c9)]) (by
    have p0 := RF2.out.cell 0
    have p1 := RF2.out.cell 1
    have p2 := RF2.out.cell 2
    have q0 := RF3.out.cell 0
    have q1 := RF3.out.cell 1
    have q2 := RF3.out.cell 2
    have q3 := RF3.out.cell 3
    have q4 := RF3.out.cell 4
    have q5 := RF3.out.cell 5
    have q6 := RF3.out.cell 6
    have q7 := RF3.out.cell 7
    have q8 := RF3.out.cell 8
    have q9 := RF3.out.cell 9
    simp at p0 p1 p2 q0 q1 q2 q3 q4 q5 q6 q7 q8 q9
    simp [results, Tryz.results8, go_sem, p0, p1, p2, q0, q1, q2, q3, q4, q5, q6, q7, q8, q9]) rfl FP.out
  refine wp_region_cl Tryz.mixed (by kernel_rfl) (fun L A9 W => ∃ (x26 : Value), A9 = ⟨#[.slice a n cap, undef, .pointer (some ⟨D2, 0, none⟩), .pointer (some ⟨D3, 0, none⟩), .pointer (some ⟨g, 0, none⟩), .pointer (some ⟨X, 0, none⟩), .slice (some ⟨G, 0, none⟩) N cc, .int .i64 1, .slice a n cap, .pointer (some ⟨g, 0, none⟩), .tuple #[ndV id f (.slice va m vc), .slice (some ⟨G, 0, none⟩) N cc], .pointer (some ⟨g, 0, none⟩), .tuple #[ndV id f (.slice va m vc), .slice (some ⟨G, 0, none⟩) N cc], ndV id f (.slice va m vc), .slice (some ⟨G, 0, none⟩) N cc, .pointer (some ⟨X, 1, none⟩), .int .i64 f, .int .i64 f, .bool false, .bool true, cX (L 0) (ndV id f (.slice va m vc)) undef, cX (L 1) (.pointer (some ⟨g, 0, none⟩)) undef, cX (L 2) (.pointer (some ⟨X, 0, none⟩)) undef, cX (L 3) (.int .i64 id) undef, cX (L 4) (.int .i64 1) undef, cX (L 5) (.slice (some ⟨G, 0, none⟩) N cc) undef, x26], []⟩ ∧ (Below w.heap.size w W) ∧ (Up g w3 W ∧ w3.heap.size ≤ W.heap.size) ∧ (L 7 = false → L 8 = false → w3.grownBy W (some g) ∧ Cur W g a n cap) ∧ (L 7 = false → Row W D2 26 #[.int .i64 0, .int .i64 0, .slice none 0 0]) ∧ (L 8 = false → Row W D3 31 #[.int .i64 0, .int .i64 0, .int .i64 0, .string ⟨#[]⟩, .string ⟨#[]⟩, .int .i64 0, .int .i64 0, .int .i64 0, .string ⟨#[]⟩, .slice none 0 0]) ∧ (L 7 = true → Row W D2 26 #[.int .i64 id, .int .i64 f, .slice va m vc]) ∧ (L 6 = true → ∃ y a9 c9, x26 = syV y (.slice a9 y.p.m c9) ∧ SaS y ∧ ∀ U, Up g W U → TxtAt U a9 y.p.m y.p.S) ∧ (L 8 = true → ∃ y a9 c9, x26 = syV y (.slice a9 y.p.m c9) ∧ SaS y ∧ Row W D3 31 (syC y (.slice a9 y.p.m c9)))) ?_ ?_ ?_
  ·exact ⟨undef, rfl, below2 KB3.out (below_drew _), ⟨upG (grownB g (below_drew _)), Nat.le_refl _⟩, (fun _ _ => ⟨grownB g (below_drew _), curBelow K3.out (below_drew _)⟩), (fun _ => R2.out.below (below_drew _) R2.out.lt), (fun _ => R3.out.below (below_drew _) R3.out.lt), (fun h => by cases h), (fun h => by cases h), (fun h => by cases h)⟩
  ·intro q9 hq9 L a9 W hl hd hcl hI9
   obtain ⟨x26, rfl, h0, h1, h2, h3, h4, h5, h6, h7⟩ := hI9
   match q9, hq9 with
   | 0, _ =>
    have e0 := hl
    have e7 : L 7 = false := by cases h9 : L 7 with | false => rfl | true => rw [((hcl 7 h9).dep 0 (by kernel_rfl))] at hl; cases hl
    obtain ⟨o0, o1, o2⟩ := KX.out W h1.1
    refine wpOp_plain rfl (fun _ => rfl) fun K hK => ?_
    go_simp
    exact hK _ _ ⟨x26, (by simp only [Nat.reduceBEq, Bool.false_or, Bool.true_or, cX_y]), (h0), (h1), (fun k0 k1 => (h2 (show L 7 = false from k0) (show L 8 = false from k1))), (fun k0 => (h3 (show L 7 = false from k0))), (fun k0 => (h4 (show L 8 = false from k0))), (fun k0 => absurd (show L 7 = true from k0) (by rw [e7]; simp)), (fun k0 => (h6 (show L 6 = true from k0))), (fun k0 => (h7 (show L 8 = true from k0)))⟩
   | 1, _ =>
    have e1 := hl
    have e6 : L 6 = false := by cases h9 : L 6 with | false => rfl | true => rw [((hcl 6 h9).dep 1 (by kernel_rfl))] at hl; cases hl
    have e7 : L 7 = false := by cases h9 : L 7 with | false => rfl | true => rw [((hcl 6 ((hcl 7 h9).dep 6 (by kernel_rfl))).dep 1 (by kernel_rfl))] at hl; cases hl
    have e8 : L 8 = false := by cases h9 : L 8 with | false => rfl | true => rw [((hcl 6 ((hcl 8 h9).dep 6 (by kernel_rfl))).dep 1 (by kernel_rfl))] at hl; cases hl
    refine wpOp_plain rfl (fun _ => rfl) fun K hK => ?_
    go_simp
    exact hK _ _ ⟨x26, (by simp only [Nat.reduceBEq, Bool.false_or, Bool.true_or, cX_y]), (h0), (h1), (fun k0 k1 => (h2 (show L 7 = false from k0) (show L 8 = false from k1))), (fun k0 => (h3 (show L 7 = false from k0))), (fun k0 => (h4 (show L 8 = false from k0))), (fun k0 => absurd (show L 7 = true from k0) (by rw [e7]; simp)), (fun k0 => absurd (show L 6 = true from k0) (by rw [e6]; simp)), (fun k0 => absurd (show L 8 = true from k0) (by rw [e8]; simp))⟩
   | 2, _ =>
    have e2 := hl
    have e6 : L 6 = false := by cases h9 : L 6 with | false => rfl | true => rw [((hcl 3 ((hcl 6 h9).dep 3 (by kernel_rfl))).dep 2 (by kernel_rfl))] at hl; cases hl
    have e7 : L 7 = false := by cases h9 : L 7 with | false => rfl | true => rw [((hcl 3 ((hcl 6 ((hcl 7 h9).dep 6 (by kernel_rfl))).dep 3 (by kernel_rfl))).dep 2 (by kernel_rfl))] at hl; cases hl
    have e8 : L 8 = false := by cases h9 : L 8 with | false => rfl | true => rw [((hcl 3 ((hcl 6 ((hcl 8 h9).dep 6 (by kernel_rfl))).dep 3 (by kernel_rfl))).dep 2 (by kernel_rfl))] at hl; cases hl
    refine wpOp_plain rfl (fun _ => rfl) fun K hK => ?_
    go_simp
    exact hK _ _ ⟨x26, (by simp only [Nat.reduceBEq, Bool.false_or, Bool.true_or, cX_y]), (h0), (h1), (fun k0 k1 => (h2 (show L 7 = false from k0) (show L 8 = false from k1))), (fun k0 => (h3 (show L 7 = false from k0))), (fun k0 => (h4 (show L 8 = false from k0))), (fun k0 => absurd (show L 7 = true from k0) (by rw [e7]; simp)), (fun k0 => absurd (show L 6 = true from k0) (by rw [e6]; simp)), (fun k0 => absurd (show L 8 = true from k0) (by rw [e8]; simp))⟩
   | 3, _ =>
    have d2 := hd.dep 2 (by kernel_rfl)
    have e3 := hl
    have e6 : L 6 = false := by cases h9 : L 6 with | false => rfl | true => rw [((hcl 6 h9).dep 3 (by kernel_rfl))] at hl; cases hl
    have e7 : L 7 = false := by cases h9 : L 7 with | false => rfl | true => rw [((hcl 6 ((hcl 7 h9).dep 6 (by kernel_rfl))).dep 3 (by kernel_rfl))] at hl; cases hl
    have e8 : L 8 = false := by cases h9 : L 8 with | false => rfl | true => rw [((hcl 6 ((hcl 8 h9).dep 6 (by kernel_rfl))).dep 3 (by kernel_rfl))] at hl; cases hl
    obtain ⟨o0, o1, o2⟩ := KX.out W h1.1
    refine wpOp_plain rfl (fun _ => rfl) fun K hK => ?_
    simp only [d2, cX_y]
    go_simp
    exact hK _ _ ⟨x26, (by simp only [Nat.reduceBEq, Bool.false_or, Bool.true_or, cX_y, d2]), (h0), (h1), (fun k0 k1 => (h2 (show L 7 = false from k0) (show L 8 = false from k1))), (fun k0 => (h3 (show L 7 = false from k0))), (fun k0 => (h4 (show L 8 = false from k0))), (fun k0 => absurd (show L 7 = true from k0) (by rw [e7]; simp)), (fun k0 => absurd (show L 6 = true from k0) (by rw [e6]; simp)), (fun k0 => absurd (show L 8 = true from k0) (by rw [e8]; simp))⟩
   | 4, _ =>
    have e4 := hl
    have e6 : L 6 = false := by cases h9 : L 6 with | false => rfl | true => rw [((hcl 6 h9).dep 4 (by kernel_rfl))] at hl; cases hl
    have e7 : L 7 = false := by cases h9 : L 7 with | false => rfl | true => rw [((hcl 6 ((hcl 7 h9).dep 6 (by kernel_rfl))).dep 4 (by kernel_rfl))] at hl; cases hl
    have e8 : L 8 = false := by cases h9 : L 8 with | false => rfl | true => rw [((hcl 6 ((hcl 8 h9).dep 6 (by kernel_rfl))).dep 4 (by kernel_rfl))] at hl; cases hl
    refine wpOp_plain rfl (fun _ => rfl) fun K hK => ?_
    go_simp
    exact hK _ _ ⟨x26, (by simp only [Nat.reduceBEq, Bool.false_or, Bool.true_or, cX_y]), (h0), (h1), (fun k0 k1 => (h2 (show L 7 = false from k0) (show L 8 = false from k1))), (fun k0 => (h3 (show L 7 = false from k0))), (fun k0 => (h4 (show L 8 = false from k0))), (fun k0 => absurd (show L 7 = true from k0) (by rw [e7]; simp)), (fun k0 => absurd (show L 6 = true from k0) (by rw [e6]; simp)), (fun k0 => absurd (show L 8 = true from k0) (by rw [e8]; simp))⟩
   | 5, _ =>
    have e5 := hl
    have e6 : L 6 = false := by cases h9 : L 6 with | false => rfl | true => rw [((hcl 6 h9).dep 5 (by kernel_rfl))] at hl; cases hl
    have e7 : L 7 = false := by cases h9 : L 7 with | false => rfl | true => rw [((hcl 6 ((hcl 7 h9).dep 6 (by kernel_rfl))).dep 5 (by kernel_rfl))] at hl; cases hl
    have e8 : L 8 = false := by cases h9 : L 8 with | false => rfl | true => rw [((hcl 6 ((hcl 8 h9).dep 6 (by kernel_rfl))).dep 5 (by kernel_rfl))] at hl; cases hl
    refine wpOp_plain rfl (fun _ => rfl) fun K hK => ?_
    go_simp
    exact hK _ _ ⟨x26, (by simp only [Nat.reduceBEq, Bool.false_or, Bool.true_or, cX_y]), (h0), (h1), (fun k0 k1 => (h2 (show L 7 = false from k0) (show L 8 = false from k1))), (fun k0 => (h3 (show L 7 = false from k0))), (fun k0 => (h4 (show L 8 = false from k0))), (fun k0 => absurd (show L 7 = true from k0) (by rw [e7]; simp)), (fun k0 => absurd (show L 6 = true from k0) (by rw [e6]; simp)), (fun k0 => absurd (show L 8 = true from k0) (by rw [e8]; simp))⟩
   | 6, _ =>
    have d1 := hd.dep 1 (by kernel_rfl)
    have d3 := hd.dep 3 (by kernel_rfl)
    have d4 := hd.dep 4 (by kernel_rfl)
    have d5 := hd.dep 5 (by kernel_rfl)
    have e6 := hl
    have e7 : L 7 = false := by cases h9 : L 7 with | false => rfl | true => rw [((hcl 7 h9).dep 6 (by kernel_rfl))] at hl; cases hl
    have e8 : L 8 = false := by cases h9 : L 8 with | false => rfl | true => rw [((hcl 8 h9).dep 6 (by kernel_rfl))] at hl; cases hl
    have k2 := h2 e7 e8
    have r2 := h3 e7
    have r3 := h4 e8
    refine wpOp_plain rfl (fun _ => rfl) fun K hK => ?_
    simp only [d1, d3, d4, d5, cX_y]
    go_simp
    refine Calls.mono (KSay.out W k2.1 k2.2) ?_
    rintro e w9 ⟨y, a9, c9, rfl, hy, ht, kg, kc⟩
    exact hK _ _ ⟨syV y (.slice a9 y.p.m c9), (by simp only [Nat.reduceBEq, Bool.false_or, d1, d3, d4, d5, cX_y]), (h0.grown kg h0.size (fun k e => by cases e; exact lwg)), (⟨upG (grownBy_trans k2.1 kg), Nat.le_trans h1.2 kg.size⟩), (fun k0 k1 => ⟨grownBy_trans k2.1 kg, kc⟩), (fun k0 => r2.keptG kg (by omega)), (fun k0 => r3.keptG kg (by omega)), (fun k0 => absurd (show L 7 = true from k0) (by rw [e7]; simp)), (fun k0 => ⟨y, a9, c9, rfl, hy, ht⟩), (fun k0 => absurd (show L 8 = true from k0) (by rw [e8]; simp))⟩
   | 7, _ =>
    have d0 := hd.dep 0 (by kernel_rfl)
    have d6 := hd.dep 6 (by kernel_rfl)
    have e7 := hl
    have r2 := h3 e7
    refine wpOp_plain rfl (fun _ => rfl) fun K hK => ?_
    simp only [d0, cX_y]
    refine wp_store_row 26 _ _ rfl D2 #[.int .i64 id, .int .i64 f, .slice va m vc] (by rfl) (by rfl) 26 #[.int .i64 0, .int .i64 0, .slice none 0 0] r2 Tryz.infoNd rfl (by simp [Value.oneCell']) ?_
    exact hK _ _ ⟨x26, (by simp [Act.put, cX_y, d0]), (belowSetRow h0 (by omega) _), (⟨upRow h1.1 (by omega), by simpa using h1.2⟩), (fun k0 k1 => by cases k0), (fun k0 => by cases k0), (fun k0 => (setRow_other W D2 D3 _ (by omega)).trans (h4 (show L 8 = false from k0))), (fun k0 => r2.row), (fun k0 => by obtain ⟨y, a9, c9, q1, q2, q3⟩ := h6 (show L 6 = true from k0); exact ⟨y, a9, c9, q1, q2, fun U hU => q3 U (unRow hU (by omega))⟩), (fun k0 => by obtain ⟨y, a9, c9, q1, q2, q3⟩ := h7 (show L 8 = true from k0); exact ⟨y, a9, c9, q1, q2, (setRow_other W D2 D3 _ (by omega)).trans q3⟩)⟩
   | 8, _ =>
    have d6 := hd.dep 6 (by kernel_rfl)
    have e8 := hl
    have r3 := h4 e8
    obtain ⟨y, a9, c9, rfl, hy, ht⟩ := h6 d6
    refine wpOp_plain rfl (fun _ => rfl) fun K hK => ?_
    refine wp_store_row 31 _ _ rfl D3 (syC y (.slice a9 y.p.m c9)) (by rfl) (by rfl) 31 #[.int .i64 0, .int .i64 0, .int .i64 0, .string ⟨#[]⟩, .string ⟨#[]⟩, .int .i64 0, .int .i64 0, .int .i64 0, .string ⟨#[]⟩, .slice none 0 0] r3 Tryz.infoSy rfl (by simp [Value.oneCell']) ?_
    exact hK _ _ ⟨syV y (.slice a9 y.p.m c9), (by simp [Act.put]), (belowSetRow h0 (by omega) _), (⟨upRow h1.1 (by omega), by simpa using h1.2⟩), (fun k0 k1 => by cases k1), (fun k0 => (setRow_other W D3 D2 _ (by omega)).trans (h3 (show L 7 = false from k0))), (fun k0 => by cases k0), (fun k0 => (setRow_other W D3 D2 _ (by omega)).trans (h5 (show L 7 = true from k0))), (fun k0 => ⟨y, a9, c9, rfl, hy, fun U hU => ht U (unRow hU (by omega))⟩), (fun k0 => ⟨y, a9, c9, rfl, hy, r3.row⟩)⟩
   | n9 + 9, h => exact absurd h (by simp)
  ·intro L a9 W hall hI9
   obtain ⟨x26, rfl, h0, h1, h2, h3, h4, h5, h6, h7⟩ := hI9
   have e0 := hall 0 (by decide)
   have e1 := hall 1 (by decide)
   have e2 := hall 2 (by decide)
   have e3 := hall 3 (by decide)
   have e4 := hall 4 (by decide)
   have e5 := hall 5 (by decide)
   have e6 := hall 6 (by decide)
   have e7 := hall 7 (by decide)
   have e8 := hall 8 (by decide)
   simp only [e0, e1, e2, e3, e4, e5, cX_y]
   exact (HRn6.out _ _).2 ⟨x26, rfl, h0, h1, h5 e7, h6 e6, h7 e8⟩
end Go.Proofs.YtcaejlalnjnifaaGreat
