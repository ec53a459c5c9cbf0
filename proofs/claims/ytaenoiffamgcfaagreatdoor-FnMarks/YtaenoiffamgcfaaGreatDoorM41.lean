import Derived.Test.YtaenoiffamgcfaaGreatDoorM40
import Derived.Test.YtaenoiffamgcfaaGreatDoorM10
import Derived.Test.YtaenoiffamgcfaaGreatDoorM30
import Derived.Test.YtaenoiffamgcfaaGreatDoorM19
import Derived.Test.YtaenoiffamgcfaaGreatDoorM5
import Derived.Test.YtaenoiffamgcfaaGreatDoorM16
set_option maxHeartbeats 8000000
set_option maxRecDepth 2000
open Go.ChangeShapes Go.WideShapes Go.ChangeAt Go.RowKit
namespace Go.Proofs.YtaenoiffamgcfaaGreatDoor
theorem upRow {g D : Nat} {w W : World} {cs : Array Value} (h : Up g w W) (hD : D < g) : Up g w (W.setRow D cs) := fun b hb hl => (setRow_other W D b cs (by omega)).trans (h b hb hl)
def DeR (w w' : World) (e : Ending) : Prop := ∃ (p : Pc) (ap : Option Addr) (cp : Nat) (s : ByteArray), e = .returned (.tuple #[pcV p.r p.k p.n p.i p.b (.slice ap p.m cp), .string s]) ∧ PcS p ∧ TxtAt w' ap p.m p.S ∧ Below w.heap.size w w'
theorem drawExpect_any (a : Option Addr) (n cap : Nat) (w : World) (hc : CodeAt w a n) :
  Calls Tryz.prog 8 #[.slice a n cap] w fun e w' => DeR w w' e := by
 obtain ⟨w0, HW0⟩ : ∃ x, Hid (x = w.alloc (.cells #[.string ⟨#[]⟩, .int .i64 0, .int .i64 0, .int .i64 0, .string ⟨#[]⟩, .slice none 0 0] 32)) := ⟨_, rfl⟩
 obtain ⟨D, HD⟩ : ∃ x, Hid (x = w.heap.size) := ⟨_, rfl⟩
 have b0 : Below w.heap.size w w0 := by rw [HW0.out]; exact (Below.refl _ _).alloc (Nat.le_refl _) _
 have R20 : Row w0 D 32 #[.string ⟨#[]⟩, .int .i64 0, .int .i64 0, .int .i64 0, .string ⟨#[]⟩, .slice none 0 0] := by rw [HW0.out, HD.out]; exact Row.new w _ _
 have hc0 := hc.below b0
 have lD : w.heap.size ≤ D := by have h1 := HD.out; omega
 have lD0 : D < w0.heap.size := R20.lt
 clear hc
 go_enter Tryz.func8, Tryz.ntmps8
 go_wp2_with fail
 rw [← HW0.out, ← HD.out]
 refine (new_any a n cap w0 hc0.1 hc0.bytes).mono ?_
 rintro e w1 ⟨g, rfl, hg, hb1, hc1⟩
 have hab := hc0.under hg
 have lwg : w.heap.size ≤ g := by omega
 have lDg : D < g := by omega
 have R21 := R20.below hb1 R20.lt
 have KB1 : Hid (Below w.heap.size w w1) := below2 b0 hb1
 clear b0 hb1 R20 HW0 HD
 go_wp2_with fail
 refine (piece07_any g n cap a w1 hc1 hab).mono ?_
 rintro e w2 ⟨p, ap, cp, rfl, hP, hO, hg2, hc2⟩
 obtain ⟨X, HX⟩ : ∃ x, Hid (x = w2.heap.size) := ⟨_, rfl⟩
 obtain ⟨w3, HW3⟩ : ∃ x, Hid (x = w2.alloc (.cells #[.string p.r, .int .i64 p.k, .int .i64 p.n, .int .i64 p.i, .string p.b, .slice ap p.m cp] 32)) := ⟨_, rfl⟩
 have b3 : Below w2.heap.size w2 w3 := by rw [HW3.out]; exact (Below.refl _ _).alloc (Nat.le_refl _) _
 have RX : Hid (Row w3 X 32 #[.string p.r, .int .i64 p.k, .int .i64 p.n, .int .i64 p.i, .string p.b, .slice ap p.m cp]) := by show Row _ _ _ _; rw [HW3.out, HX.out]; exact Row.new w2 _ _
 have K3 : Hid (Cur w3 g a n cap) := curBelow hc2 b3
 have lgX : g < X := by rw [HX.out]; exact hc2.lt
 have R2 : Hid (Row w3 D 32 #[.string ⟨#[]⟩, .int .i64 0, .int .i64 0, .int .i64 0, .string ⟨#[]⟩, .slice none 0 0]) := (R21.keptG hg2 (by omega)).below b3 (R21.keptG hg2 (by omega)).lt
 have KO3 : Hid (OwnT w3 (g + 1) ap p.m cp p.S) := (hO.below b3).base hc1.lt
 have HP : Hid (PcS p) := hP
 have HAB : Hid (Under a n g) := hab
 have KB3 : Hid (Below w.heap.size w w3) := by
  have h1 := KB1.out.grown hg2 KB1.out.size (fun k e => by cases e; exact lwg)
  exact below2 h1 b3
 clear hP hO hg2 hc2 b3 R21 hc1 hab hc0
 go_upto_region 3 with fail
 rw [← HW3.out, ← HX.out]
 obtain ⟨Rde, HRde⟩ : ∃ R : Act → World → Prop, Hid (∀ A9 W, R A9 W ↔ ∃ (x12 : Value), A9 = ⟨#[.slice a n cap, undef, .pointer (some ⟨D, 0, none⟩), x12, .pointer (some ⟨g, 0, none⟩), .pointer (some ⟨X, 0, none⟩), .slice a n cap, .pointer (some ⟨g, 0, none⟩), .pointer (some ⟨g, 0, none⟩), .agg #[.string p.r, .int .i64 p.k, .int .i64 p.n, .int .i64 p.i, .string p.b, .slice ap p.m cp], .agg #[.string p.r, .int .i64 p.k, .int .i64 p.n, .int .i64 p.i, .string p.b, .slice ap p.m cp], .pointer (some ⟨g, 0, none⟩), x12], []⟩ ∧ (Below w.heap.size w W) ∧ (Up g w3 W ∧ w3.heap.size ≤ W.heap.size) ∧ (Row W D 32 #[.string p.r, .int .i64 p.k, .int .i64 p.n, .int .i64 p.i, .string p.b, .slice ap p.m cp]) ∧ (∃ s, x12 = .string s)) := ⟨fun A9 W => _, fun _ _ => Iff.rfl⟩
 refine wp_region_post Rde ?_ ?_
 rotate_left
 ·intro a9 wx hR9
  obtain ⟨x12, rfl, hf0, hf1, hf4, hf5⟩ := (HRde.out a9 wx).1 hR9
  clear hR9 HRde
  obtain ⟨s, rfl⟩ := hf5
  have KT : Hid (OwnT wx (g + 1) ap p.m cp p.S) := own_blkF KO3.out (fun b e _ _ => by subst e; have hq := World.ownsRow.lt KO3.out b.block rfl; exact hf1.1 b.block (by omega) hq.2)
  have FP : Hid (DeR w wx (.returned (.tuple #[pcV p.r p.k p.n p.i p.b (.slice ap p.m cp), .string s]))) := ⟨p, ap, cp, s, rfl, HP.out, KT.out.at, hf0⟩
  have RF2 : Hid (Row wx D 32 #[.string p.r, .int .i64 p.k, .int .i64 p.n, .int .i64 p.i, .string p.b, .slice ap p.m cp]) := hf4
  clear hf0 hf1 hf4 KT
  go_wp2_with fail
  exact bodyPost_ret (v := .tuple #[.agg #[.string p.r, .int .i64 p.k, .int .i64 p.n, .int .i64 p.i, .string p.b, .slice ap p.m cp], .string s]) (by
   have p0 := RF2.out.cell 0
   have p1 := RF2.out.cell 1
   have p2 := RF2.out.cell 2
   have p3 := RF2.out.cell 3
   have p4 := RF2.out.cell 4
   have p5 := RF2.out.cell 5
   simp at p0 p1 p2 p3 p4 p5
   simp [results, Tryz.results8, go_sem, p0, p1, p2, p3, p4, p5]) rfl FP.out
 refine wp_region_cl Tryz.mixed (by kernel_rfl) (fun L A9 W => ∃ (x12 : Value), A9 = ⟨#[.slice a n cap, undef, .pointer (some ⟨D, 0, none⟩), cX (L 4) (x12) (.string ⟨#[]⟩), .pointer (some ⟨g, 0, none⟩), .pointer (some ⟨X, 0, none⟩), .slice a n cap, .pointer (some ⟨g, 0, none⟩), .pointer (some ⟨g, 0, none⟩), .agg #[.string p.r, .int .i64 p.k, .int .i64 p.n, .int .i64 p.i, .string p.b, .slice ap p.m cp], cX (L 0) (.agg #[.string p.r, .int .i64 p.k, .int .i64 p.n, .int .i64 p.i, .string p.b, .slice ap p.m cp]) undef, cX (L 1) (.pointer (some ⟨g, 0, none⟩)) undef, x12], []⟩ ∧ (Below w.heap.size w W) ∧ (Up g w3 W ∧ w3.heap.size ≤ W.heap.size) ∧ (L 3 = false → w3.grownBy W (some g) ∧ Cur W g a n cap) ∧ (L 3 = false → Row W D 32 #[.string ⟨#[]⟩, .int .i64 0, .int .i64 0, .int .i64 0, .string ⟨#[]⟩, .slice none 0 0]) ∧ (L 3 = true → Row W D 32 #[.string p.r, .int .i64 p.k, .int .i64 p.n, .int .i64 p.i, .string p.b, .slice ap p.m cp]) ∧ (L 2 = true → ∃ s, x12 = .string s)) ?_ ?_ ?_
 ·exact ⟨undef, rfl, below2 KB3.out (below_drew _), ⟨upG (grownB g (below_drew _)), Nat.le_refl _⟩, (fun _ => ⟨grownB g (below_drew _), curBelow K3.out (below_drew _)⟩), (fun _ => R2.out.below (below_drew _) R2.out.lt), (fun h => by cases h), (fun h => by cases h)⟩
 ·intro q9 hq9 L a9 W hl hd hcl hI9
  obtain ⟨x12, rfl, h0, h1, h2, h3, h4, h5⟩ := hI9
  match q9, hq9 with
  | 0, _ =>
   have e0 := hl
   have e3 : L 3 = false := by cases h9 : L 3 with | false => rfl | true => rw [((hcl 3 h9).dep 0 (by kernel_rfl))] at hl; cases hl
   have r3 : Row W X 32 #[.string p.r, .int .i64 p.k, .int .i64 p.n, .int .i64 p.i, .string p.b, .slice ap p.m cp] := (h1.1 X lgX RX.out.lt).trans RX.out
   refine wpOp_plain rfl (fun _ => rfl) fun K hK => ?_
   refine wp_load_row 32 _ (by rfl) X (by rfl) 32 #[.string p.r, .int .i64 p.k, .int .i64 p.n, .int .i64 p.i, .string p.b, .slice ap p.m cp] (0, 0) _ r3 Tryz.underlying32 (by rfl) Tryz.infoPc ?_
   exact hK _ _ ⟨x12, (by simp [Act.put, cX_y]), (h0), (h1), (fun k0 => (h2 (show L 3 = false from k0))), (fun k0 => (h3 (show L 3 = false from k0))), (fun k0 => absurd (show L 3 = true from k0) (by rw [e3]; simp)), (fun k0 => (h5 (show L 2 = true from k0)))⟩
  | 1, _ =>
   have e1 := hl
   have e2 : L 2 = false := by cases h9 : L 2 with | false => rfl | true => rw [((hcl 2 h9).dep 1 (by kernel_rfl))] at hl; cases hl
   have e3 : L 3 = false := by cases h9 : L 3 with | false => rfl | true => rw [((hcl 2 ((hcl 3 h9).dep 2 (by kernel_rfl))).dep 1 (by kernel_rfl))] at hl; cases hl
   refine wpOp_plain rfl (fun _ => rfl) fun K hK => ?_
   go_simp
   exact hK _ _ ⟨x12, (by simp only [Nat.reduceBEq, Bool.false_or, Bool.true_or, cX_y]), (h0), (h1), (fun k0 => (h2 (show L 3 = false from k0))), (fun k0 => (h3 (show L 3 = false from k0))), (fun k0 => absurd (show L 3 = true from k0) (by rw [e3]; simp)), (fun k0 => absurd (show L 2 = true from k0) (by rw [e2]; simp))⟩
  | 2, _ =>
   have d1 := hd.dep 1 (by kernel_rfl)
   have e2 := hl
   have e3 : L 3 = false := by cases h9 : L 3 with | false => rfl | true => rw [((hcl 3 h9).dep 2 (by kernel_rfl))] at hl; cases hl
   have e4 : L 4 = false := by cases h9 : L 4 with | false => rfl | true => rw [((hcl 4 h9).dep 2 (by kernel_rfl))] at hl; cases hl
   have k2 := h2 e3
   have r2 := h3 e3
   refine wpOp_plain rfl (fun _ => rfl) fun K hK => ?_
   simp only [d1, cX_y]
   go_simp
   refine Calls.mono (salt_any g n cap a W k2.2 HAB.out) ?_
   rintro e w9 ⟨s, rfl, _, kg, kc⟩
   exact hK _ _ ⟨.string s, (by simp only [Nat.reduceBEq, Bool.false_or, cX_y, cX_n, d1, e4]), (h0.grown kg h0.size (fun k e => by cases e; exact lwg)), (⟨upG (grownBy_trans k2.1 kg), Nat.le_trans h1.2 kg.size⟩), (fun k0 => ⟨grownBy_trans k2.1 kg, kc⟩), (fun k0 => r2.keptG kg (by omega)), (fun k0 => absurd (show L 3 = true from k0) (by rw [e3]; simp)), (fun k0 => ⟨s, rfl⟩)⟩
  | 3, _ =>
   have d0 := hd.dep 0 (by kernel_rfl)
   have d2 := hd.dep 2 (by kernel_rfl)
   have e3 := hl
   have r2 := h3 hl
   refine wpOp_plain rfl (fun _ => rfl) fun K hK => ?_
   simp only [d0, cX_y]
   refine wp_store_row 32 _ _ rfl D #[.string p.r, .int .i64 p.k, .int .i64 p.n, .int .i64 p.i, .string p.b, .slice ap p.m cp] (by rfl) (by rfl) 32 #[.string ⟨#[]⟩, .int .i64 0, .int .i64 0, .int .i64 0, .string ⟨#[]⟩, .slice none 0 0] r2 Tryz.infoPc rfl (by simp [Value.oneCell']) ?_
   exact hK _ _ ⟨x12, (by simp [Act.put, cX_y, d0]), (belowSetRow h0 (by omega) _), (⟨upRow h1.1 (by omega), by simpa using h1.2⟩), (fun k0 => by cases k0), (fun k0 => by cases k0), (fun k0 => r2.row), (fun k0 => (h5 (show L 2 = true from k0)))⟩
  | 4, _ =>
   have d2 := hd.dep 2 (by kernel_rfl)
   have e4 := hl
   refine wpOp_plain rfl (fun _ => rfl) fun K hK => ?_
   go_simp
   exact hK _ _ ⟨x12, (by simp only [Nat.reduceBEq, Bool.false_or, Bool.true_or, cX_y]), (h0), (h1), (fun k0 => (h2 (show L 3 = false from k0))), (fun k0 => (h3 (show L 3 = false from k0))), (fun k0 => (h4 (show L 3 = true from k0))), (fun k0 => (h5 (show L 2 = true from k0)))⟩
  | n9 + 5, h => exact absurd h (by simp)
 ·intro L a9 W hall hI9
  obtain ⟨x12, rfl, h0, h1, h2, h3, h4, h5⟩ := hI9
  have e0 := hall 0 (by decide)
  have e1 := hall 1 (by decide)
  have e2 := hall 2 (by decide)
  have e3 := hall 3 (by decide)
  have e4 := hall 4 (by decide)
  simp only [e0, e1, e4, cX_y]
  exact (HRde.out _ _).2 ⟨x12, rfl, (h0), (h1), (h4 e3), (h5 e2)⟩
def DrR (w w' : World) (e : Ending) : Prop := ∃ (id f : Int) (m : Nat) (S : Nat → Sl) (va : Option Addr) (vc : Nat) (rt s : ByteArray), e = .returned (.tuple #[ndV id f (.slice va m vc), .string rt, .string s]) ∧ Rd w' (slsD m S) (.slice va m vc) ∧ (∀ i, i < m → (S i).h = (S i).e ∧ SlK (S i)) ∧ m ≤ 64 ∧ Below w.heap.size w w'
set_option maxRecDepth 4000 in
theorem drawRespond_any (a : Option Addr) (n cap : Nat) (w : World) (hc : CodeAt w a n) :
  Calls Tryz.prog 9 #[.slice a n cap] w fun e w' => DrR w w' e := by
 obtain ⟨w0, HW0⟩ : ∃ x, Hid (x = w.alloc (.cells #[.int .i64 0, .int .i64 0, .slice none 0 0] 37)) := ⟨_, rfl⟩
 obtain ⟨D, HD⟩ : ∃ x, Hid (x = w.heap.size) := ⟨_, rfl⟩
 have b0 : Below w.heap.size w w0 := by rw [HW0.out]; exact (Below.refl _ _).alloc (Nat.le_refl _) _
 have R20 : Row w0 D 37 #[.int .i64 0, .int .i64 0, .slice none 0 0] := by rw [HW0.out, HD.out]; exact Row.new w _ _
 have hc0 := hc.below b0
 have lD : w.heap.size ≤ D := by have h1 := HD.out; omega
 have lD0 : D < w0.heap.size := R20.lt
 clear hc
 go_enter Tryz.func9, Tryz.ntmps9
 go_wp2_with fail
 rw [← HW0.out, ← HD.out]
 refine (new_any a n cap w0 hc0.1 hc0.bytes).mono ?_
 rintro e w1 ⟨g, rfl, hg, hb1, hc1⟩
 have hab := hc0.under hg
 have lwg : w.heap.size ≤ g := by omega
 have lDg : D < g := by omega
 have R21 := R20.below hb1 R20.lt
 have KB1 : Hid (Below w.heap.size w w1) := below2 b0 hb1
 clear b0 hb1 R20 HW0 HD
 go_wp2_with fail
 refine (node08_any g n cap a w1 hc1 hab).mono ?_
 rintro e w2 ⟨id, f, m, S, v, G, N, cc, P, rfl, ⟨F, hO, hFg, hS, hm⟩, id0, id1, hN0, hGg, hPi, hPs, hg2, hc2⟩
 obtain ⟨va, vc, rfl⟩ := nd_slice hO
 obtain ⟨X, HX⟩ : ∃ x, Hid (x = w2.heap.size) := ⟨_, rfl⟩
 obtain ⟨w3, HW3⟩ : ∃ x, Hid (x = w2.alloc (.cells #[.int .i64 id, .int .i64 f, .slice va m vc] 37)) := ⟨_, rfl⟩
 have b3 : Below w2.heap.size w2 w3 := by rw [HW3.out]; exact (Below.refl _ _).alloc (Nat.le_refl _) _
 have RX : Hid (Row w3 X 37 #[.int .i64 id, .int .i64 f, .slice va m vc]) := by show Row _ _ _ _; rw [HW3.out, HX.out]; exact Row.new w2 _ _
 have K3 : Hid (Cur w3 g a n cap) := curBelow hc2 b3
 have lgX : g < X := by rw [HX.out]; exact hc2.lt
 have R2 : Hid (Row w3 D 37 #[.int .i64 0, .int .i64 0, .slice none 0 0]) := (R21.keptG hg2 (by omega)).below b3 (R21.keptG hg2 (by omega)).lt
 have KO3 : Hid (Ow w3 (g + 1) (slsD m S) (.slice va m vc) F) := hO.below b3
 have HS : Hid (∀ i, i < m → (S i).h = (S i).e ∧ SlK (S i)) := hS
 have HM : Hid (m ≤ 64) := hm
 have HAB : Hid (Under a n g) := hab
 have KB3 : Hid (Below w.heap.size w w3) := by
  have h1 := KB1.out.grown hg2 KB1.out.size (fun k e => by cases e; exact lwg)
  exact below2 h1 b3
 have hNi : (0 : Int) < (N : Int) := by omega
 have KX : Hid (∀ W, Up g w3 W → W.cell? ⟨G, 0, none⟩ = some (.string (P 0).r)) := fun W hW => by
  obtain ⟨b9, o9, ap9, cp9, e9, hc9, _⟩ := hPi W (fun b h1 h2 => (hW b h1 (Nat.lt_of_lt_of_le h2 b3.size)).trans (b3.block b h2)) 0 hN0
  cases e9
  exact hc9 0 (by omega)
 obtain ⟨LZ, HLZ⟩ : ∃ q, Hid (Gt.lf ⟨#[122]⟩ = q) := ⟨_, rfl⟩
 have KLf : Hid (∀ W, Calls Tryz.prog 29 #[.string ⟨#[122]⟩] W fun e w' => e = .returned (.string LZ) ∧ Below W.heap.size W w') := fun W => by
  have h := sleaf_any ⟨#[122]⟩ W (by decide)
  rw [HLZ.out] at h
  exact h
 obtain ⟨TT, KT⟩ : ∃ q : Nat → ByteArray, Hid (q = fun i => if i = 3 then LZ else (P 0).r) := ⟨_, rfl⟩
 have KTc : Hid (∀ (W : World) i, i < 4 → (W.alloc (.cells #[.string (P 0).r, .string (P 0).r, .string (P 0).r, .string LZ] 9)).cell? ⟨W.heap.size, i, none⟩ = some (.string (TT i))) := fun W i hi => by
  have hr := (Row.new W #[.string (P 0).r, .string (P 0).r, .string (P 0).r, .string LZ] 9).cell i
  rw [hr, KT.out]
  match i, hi with
  | 0, _ | 1, _ | 2, _ | 3, _ => rfl
 clear hO hFg hS hm hPi hPs hg2 hc2 b3 R21 hc1 hab hc0 id0 id1
 go_upto_region 3 with fail
 rw [← HW3.out, ← HX.out]
 obtain ⟨Rdq, HRdq⟩ : ∃ R : Act → World → Prop, Hid (∀ A9 W, R A9 W ↔ ∃ (x30 : Value) (x31 : Value), A9 = ⟨(List.toArray (α := Value) ((.slice a n cap) :: undef :: (.pointer (some ⟨D, 0, none⟩)) :: (.string ⟨#[]⟩) :: (.string ⟨#[]⟩) :: (.pointer (some ⟨g, 0, none⟩)) :: (.pointer (some ⟨X, 0, none⟩)) :: (.slice (some ⟨G, 0, none⟩) N cc) :: x31 :: (.slice a n cap) :: (.pointer (some ⟨g, 0, none⟩)) :: (.tuple #[.agg #[.int .i64 id, .int .i64 f, .slice va m vc], .slice (some ⟨G, 0, none⟩) N cc]) :: (.pointer (some ⟨g, 0, none⟩)) :: (.tuple #[.agg #[.int .i64 id, .int .i64 f, .slice va m vc], .slice (some ⟨G, 0, none⟩) N cc]) :: (.agg #[.int .i64 id, .int .i64 f, .slice va m vc]) :: (.slice (some ⟨G, 0, none⟩) N cc) :: (.pointer (some ⟨g, 0, none⟩)) :: (.slice (some ⟨G, 0, none⟩) N cc) :: (.pointer (some ⟨G, 0, none⟩)) :: (.pointer (some ⟨G, 0, none⟩)) :: (.string (P 0).r) :: (.slice (some ⟨G, 0, none⟩) N cc) :: (.pointer (some ⟨G, 0, none⟩)) :: (.pointer (some ⟨G, 0, none⟩)) :: (.string (P 0).r) :: (.slice (some ⟨G, 0, none⟩) N cc) :: (.pointer (some ⟨G, 0, none⟩)) :: (.pointer (some ⟨G, 0, none⟩)) :: (.string (P 0).r) :: (.string LZ) :: x30 :: x31 :: undef :: undef :: undef :: undef :: [])), []⟩ ∧ (w3.grownBy W (some g) ∧ Cur W g a n cap) ∧ (∃ s, x31 = .string s)) := ⟨fun A9 W => _, fun _ _ => Iff.rfl⟩
 refine wp_region_post Rdq ?_ ?_
 rotate_left
 ·intro a9 wx hR9
  obtain ⟨x30, x31, rfl, hf0, hf2⟩ := (HRdq.out a9 wx).1 hR9
  clear hR9 HRdq
  obtain ⟨rt, rfl⟩ := hf2
  have KG5 : Hid (w3.grownBy wx (some g)) := hf0.1
  have K5 : Hid (Cur wx g a n cap) := hf0.2
  clear hf0
  obtain ⟨w5, hw5⟩ : ∃ q, q = wx := ⟨_, rfl⟩
  subst hw5
  have R5 : Hid (Row w5 D 37 #[.int .i64 0, .int .i64 0, .slice none 0 0]) := R2.out.keptG KG5.out (by omega)
  have RX5 : Hid (Row w5 X 37 #[.int .i64 id, .int .i64 f, .slice va m vc]) := RX.out.keptG KG5.out (by omega)
  have KO5 : Hid (∀ W, Up g w5 W → Rd W (slsD m S) (.slice va m vc)) := fun W hU => (KO3.out.cut.frame (fun b hb hl => Up.of KG5.out hU b (by have := hb.2.1; omega) hl)).rd
  have KB5 : Hid (Below w.heap.size w w5) := KB3.out.grown KG5.out KB3.out.size (fun k e => by cases e; exact lwg)
  have lX5 : X < w5.heap.size := RX5.out.lt
  clear KLf KT KTc KX KG5 K3 KB3 R2 RX KO3
  go_upto_region 4 with fail
  obtain ⟨Rdr, HRdr⟩ : ∃ R : Act → World → Prop, Hid (∀ A9 W, R A9 W ↔ ∃ (x35 : Value), A9 = ⟨(List.toArray (α := Value) ((.slice a n cap) :: undef :: (.pointer (some ⟨D, 0, none⟩)) :: (.string rt) :: x35 :: (.pointer (some ⟨g, 0, none⟩)) :: (.pointer (some ⟨X, 0, none⟩)) :: (.slice (some ⟨G, 0, none⟩) N cc) :: (.string rt) :: (.slice a n cap) :: (.pointer (some ⟨g, 0, none⟩)) :: (.tuple #[.agg #[.int .i64 id, .int .i64 f, .slice va m vc], .slice (some ⟨G, 0, none⟩) N cc]) :: (.pointer (some ⟨g, 0, none⟩)) :: (.tuple #[.agg #[.int .i64 id, .int .i64 f, .slice va m vc], .slice (some ⟨G, 0, none⟩) N cc]) :: (.agg #[.int .i64 id, .int .i64 f, .slice va m vc]) :: (.slice (some ⟨G, 0, none⟩) N cc) :: (.pointer (some ⟨g, 0, none⟩)) :: (.slice (some ⟨G, 0, none⟩) N cc) :: (.pointer (some ⟨G, 0, none⟩)) :: (.pointer (some ⟨G, 0, none⟩)) :: (.string (P 0).r) :: (.slice (some ⟨G, 0, none⟩) N cc) :: (.pointer (some ⟨G, 0, none⟩)) :: (.pointer (some ⟨G, 0, none⟩)) :: (.string (P 0).r) :: (.slice (some ⟨G, 0, none⟩) N cc) :: (.pointer (some ⟨G, 0, none⟩)) :: (.pointer (some ⟨G, 0, none⟩)) :: (.string (P 0).r) :: (.string LZ) :: x30 :: (.string rt) :: (.agg #[.int .i64 id, .int .i64 f, .slice va m vc]) :: (.string rt) :: (.pointer (some ⟨g, 0, none⟩)) :: x35 :: [])), []⟩ ∧ (Below w.heap.size w W) ∧ (Up g w5 W ∧ w5.heap.size ≤ W.heap.size) ∧ (Row W D 37 #[.int .i64 id, .int .i64 f, .slice va m vc]) ∧ (∃ s, x35 = .string s)) := ⟨fun A9 W => _, fun _ _ => Iff.rfl⟩
  refine wp_region_post Rdr ?_ ?_
  rotate_left
  ·intro a9 wx hR9
   obtain ⟨x35, rfl, hf0, hf1, hf4, hf5⟩ := (HRdr.out a9 wx).1 hR9
   clear hR9 HRdr
   obtain ⟨s, rfl⟩ := hf5
   have KRf : Hid (Rd wx (slsD m S) (.slice va m vc)) := KO5.out wx hf1.1
   have FP : Hid (DrR w wx (.returned (.tuple #[ndV id f (.slice va m vc), .string rt, .string s]))) := ⟨id, f, m, S, va, vc, rt, s, rfl, KRf.out, HS.out, HM.out, hf0⟩
   have RF2 : Hid (Row wx D 37 #[.int .i64 id, .int .i64 f, .slice va m vc]) := hf4
   clear hf0 hf1 hf4 KRf
   go_wp2_with fail
   exact bodyPost_ret (v := .tuple #[ndV id f (.slice va m vc), .string rt, .string s]) (by
    have p0 := RF2.out.cell 0
    have p1 := RF2.out.cell 1
    have p2 := RF2.out.cell 2
    simp at p0 p1 p2
    simp [results, Tryz.results9, go_sem, p0, p1, p2]) rfl FP.out
  refine wp_region_cl Tryz.mixed (by kernel_rfl) (fun L A9 W => ∃ (x35 : Value), A9 = ⟨(List.toArray (α := Value) ((.slice a n cap) :: undef :: (.pointer (some ⟨D, 0, none⟩)) :: (cX (L 5) (.string rt) (.string ⟨#[]⟩)) :: (cX (L 6) (x35) (.string ⟨#[]⟩)) :: (.pointer (some ⟨g, 0, none⟩)) :: (.pointer (some ⟨X, 0, none⟩)) :: (.slice (some ⟨G, 0, none⟩) N cc) :: (.string rt) :: (.slice a n cap) :: (.pointer (some ⟨g, 0, none⟩)) :: (.tuple #[.agg #[.int .i64 id, .int .i64 f, .slice va m vc], .slice (some ⟨G, 0, none⟩) N cc]) :: (.pointer (some ⟨g, 0, none⟩)) :: (.tuple #[.agg #[.int .i64 id, .int .i64 f, .slice va m vc], .slice (some ⟨G, 0, none⟩) N cc]) :: (.agg #[.int .i64 id, .int .i64 f, .slice va m vc]) :: (.slice (some ⟨G, 0, none⟩) N cc) :: (.pointer (some ⟨g, 0, none⟩)) :: (.slice (some ⟨G, 0, none⟩) N cc) :: (.pointer (some ⟨G, 0, none⟩)) :: (.pointer (some ⟨G, 0, none⟩)) :: (.string (P 0).r) :: (.slice (some ⟨G, 0, none⟩) N cc) :: (.pointer (some ⟨G, 0, none⟩)) :: (.pointer (some ⟨G, 0, none⟩)) :: (.string (P 0).r) :: (.slice (some ⟨G, 0, none⟩) N cc) :: (.pointer (some ⟨G, 0, none⟩)) :: (.pointer (some ⟨G, 0, none⟩)) :: (.string (P 0).r) :: (.string LZ) :: x30 :: (.string rt) :: (cX (L 0) (.agg #[.int .i64 id, .int .i64 f, .slice va m vc]) undef) :: (cX (L 1) (.string rt) undef) :: (cX (L 2) (.pointer (some ⟨g, 0, none⟩)) undef) :: x35 :: [])), []⟩ ∧ (Below w.heap.size w W) ∧ (Up g w5 W ∧ w5.heap.size ≤ W.heap.size) ∧ (L 4 = false → w5.grownBy W (some g) ∧ Cur W g a n cap) ∧ (L 4 = false → Row W D 37 #[.int .i64 0, .int .i64 0, .slice none 0 0]) ∧ (L 4 = true → Row W D 37 #[.int .i64 id, .int .i64 f, .slice va m vc]) ∧ (L 3 = true → ∃ s, x35 = .string s)) ?_ ?_ ?_
  ·exact ⟨undef, rfl, below2 KB5.out (below_drew _), ⟨upG (grownB g (below_drew _)), Nat.le_refl _⟩, (fun _ => ⟨grownB g (below_drew _), curBelow K5.out (below_drew _)⟩), (fun _ => R5.out.below (below_drew _) R5.out.lt), (fun h => by cases h), (fun h => by cases h)⟩
  ·intro q9 hq9 L a9 W hl hd hcl hI9
   obtain ⟨x35, rfl, h0, h1, h2, h3, h4, h5⟩ := hI9
   match q9, hq9 with
   | 0, _ =>
    have e0 := hl
    have e4 : L 4 = false := by cases h9 : L 4 with | false => rfl | true => rw [((hcl 4 h9).dep 0 (by kernel_rfl))] at hl; cases hl
    have r3 : Row W X 37 #[.int .i64 id, .int .i64 f, .slice va m vc] := (h1.1 X lgX lX5).trans RX5.out
    refine wpOp_plain rfl (fun _ => rfl) fun K hK => ?_
    refine wp_load_row 37 _ (by rfl) X (by rfl) 37 #[.int .i64 id, .int .i64 f, .slice va m vc] (0, 0) _ r3 Tryz.underlying37 (by rfl) Tryz.infoNd ?_
    exact hK _ _ ⟨x35, (by simp [Act.put, cX_y]), (h0), (h1), (fun k0 => (h2 (show L 4 = false from k0))), (fun k0 => (h3 (show L 4 = false from k0))), (fun k0 => absurd (show L 4 = true from k0) (by rw [e4]; simp)), (fun k0 => (h5 (show L 3 = true from k0)))⟩
   | 1, _ =>
    have e1 := hl
    refine wpOp_plain rfl (fun _ => rfl) fun K hK => ?_
    go_simp
    exact hK _ _ ⟨x35, (by simp only [Nat.reduceBEq, Bool.false_or, Bool.true_or, cX_y]), (h0), (h1), (fun k0 => (h2 (show L 4 = false from k0))), (fun k0 => (h3 (show L 4 = false from k0))), (fun k0 => (h4 (show L 4 = true from k0))), (fun k0 => (h5 (show L 3 = true from k0)))⟩
   | 2, _ =>
    have e2 := hl
    have e3 : L 3 = false := by cases h9 : L 3 with | false => rfl | true => rw [((hcl 3 h9).dep 2 (by kernel_rfl))] at hl; cases hl
    have e4 : L 4 = false := by cases h9 : L 4 with | false => rfl | true => rw [((hcl 3 ((hcl 4 h9).dep 3 (by kernel_rfl))).dep 2 (by kernel_rfl))] at hl; cases hl
    refine wpOp_plain rfl (fun _ => rfl) fun K hK => ?_
    go_simp
    exact hK _ _ ⟨x35, (by simp only [Nat.reduceBEq, Bool.false_or, Bool.true_or, cX_y]), (h0), (h1), (fun k0 => (h2 (show L 4 = false from k0))), (fun k0 => (h3 (show L 4 = false from k0))), (fun k0 => absurd (show L 4 = true from k0) (by rw [e4]; simp)), (fun k0 => absurd (show L 3 = true from k0) (by rw [e3]; simp))⟩
   | 3, _ =>
    have d2 := hd.dep 2 (by kernel_rfl)
    have e3 := hl
    have e4 : L 4 = false := by cases h9 : L 4 with | false => rfl | true => rw [((hcl 4 h9).dep 3 (by kernel_rfl))] at hl; cases hl
    have e6 : L 6 = false := by cases h9 : L 6 with | false => rfl | true => rw [((hcl 6 h9).dep 3 (by kernel_rfl))] at hl; cases hl
    have k2 := h2 e4
    have r2 := h3 e4
    refine wpOp_plain rfl (fun _ => rfl) fun K hK => ?_
    simp only [d2, cX_y]
    go_simp
    refine Calls.mono (salt_any g n cap a W k2.2 HAB.out) ?_
    rintro e w9 ⟨s, rfl, _, kg, kc⟩
    exact hK _ _ ⟨.string s, (by simp only [Nat.reduceBEq, Bool.false_or, cX_y, cX_n, d2, e6]), (h0.grown kg h0.size (fun k e => by cases e; exact lwg)), (⟨upG (grownBy_trans k2.1 kg), Nat.le_trans h1.2 kg.size⟩), (fun k0 => ⟨grownBy_trans k2.1 kg, kc⟩), (fun k0 => r2.keptG kg (by omega)), (fun k0 => absurd (show L 4 = true from k0) (by rw [e4]; simp)), (fun k0 => ⟨s, rfl⟩)⟩
   | 4, _ =>
    have d0 := hd.dep 0 (by kernel_rfl)
    have d3 := hd.dep 3 (by kernel_rfl)
    have e4 := hl
    have r2 := h3 hl
    refine wpOp_plain rfl (fun _ => rfl) fun K hK => ?_
    simp only [d0, cX_y]
    refine wp_store_row 37 _ _ rfl D #[.int .i64 id, .int .i64 f, .slice va m vc] (by rfl) (by rfl) 37 #[.int .i64 0, .int .i64 0, .slice none 0 0] r2 Tryz.infoNd rfl (by simp [Value.oneCell']) ?_
    exact hK _ _ ⟨x35, (by simp [Act.put, cX_y, d0]), (belowSetRow h0 (by omega) _), (⟨upRow h1.1 (by omega), by simpa using h1.2⟩), (fun k0 => by cases k0), (fun k0 => by cases k0), (fun k0 => r2.row), (fun k0 => (h5 (show L 3 = true from k0)))⟩
   | 5, _ =>
    have d1 := hd.dep 1 (by kernel_rfl)
    have e5 := hl
    refine wpOp_plain rfl (fun _ => rfl) fun K hK => ?_
    simp only [d1, cX_y]
    go_simp
    exact hK _ _ ⟨x35, (by simp only [Nat.reduceBEq, Bool.false_or, Bool.true_or, cX_y, d1]), (h0), (h1), (fun k0 => (h2 (show L 4 = false from k0))), (fun k0 => (h3 (show L 4 = false from k0))), (fun k0 => (h4 (show L 4 = true from k0))), (fun k0 => (h5 (show L 3 = true from k0)))⟩
   | 6, _ =>
    have d3 := hd.dep 3 (by kernel_rfl)
    have e6 := hl
    refine wpOp_plain rfl (fun _ => rfl) fun K hK => ?_
    go_simp
    exact hK _ _ ⟨x35, (by simp only [Nat.reduceBEq, Bool.false_or, Bool.true_or, cX_y]), (h0), (h1), (fun k0 => (h2 (show L 4 = false from k0))), (fun k0 => (h3 (show L 4 = false from k0))), (fun k0 => (h4 (show L 4 = true from k0))), (fun k0 => (h5 (show L 3 = true from k0)))⟩
   | n9 + 7, h => exact absurd h (by simp)
  ·intro L a9 W hall hI9
   obtain ⟨x35, rfl, h0, h1, h2, h3, h4, h5⟩ := hI9
   have e0 := hall 0 (by decide)
   have e1 := hall 1 (by decide)
   have e2 := hall 2 (by decide)
   have e3 := hall 3 (by decide)
   have e4 := hall 4 (by decide)
   have e5 := hall 5 (by decide)
   have e6 := hall 6 (by decide)
   simp only [e0, e1, e2, e5, e6, cX_y]
   exact (HRdr.out _ _).2 ⟨x35, rfl, (h0), (h1), (h4 e4), (h5 e3)⟩
 refine wp_region_cl Tryz.mixed (by kernel_rfl) (fun L A9 W => ∃ (x30 : Value) (x31 : Value), A9 = ⟨(List.toArray (α := Value) ((.slice a n cap) :: undef :: (.pointer (some ⟨D, 0, none⟩)) :: (.string ⟨#[]⟩) :: (.string ⟨#[]⟩) :: (.pointer (some ⟨g, 0, none⟩)) :: (.pointer (some ⟨X, 0, none⟩)) :: (.slice (some ⟨G, 0, none⟩) N cc) :: (cX (L 16) (x31) undef) :: (.slice a n cap) :: (.pointer (some ⟨g, 0, none⟩)) :: (.tuple #[.agg #[.int .i64 id, .int .i64 f, .slice va m vc], .slice (some ⟨G, 0, none⟩) N cc]) :: (.pointer (some ⟨g, 0, none⟩)) :: (.tuple #[.agg #[.int .i64 id, .int .i64 f, .slice va m vc], .slice (some ⟨G, 0, none⟩) N cc]) :: (.agg #[.int .i64 id, .int .i64 f, .slice va m vc]) :: (.slice (some ⟨G, 0, none⟩) N cc) :: (cX (L 0) (.pointer (some ⟨g, 0, none⟩)) undef) :: (cX (L 1) (.slice (some ⟨G, 0, none⟩) N cc) undef) :: (cX (L 2) (.pointer (some ⟨G, 0, none⟩)) undef) :: (cX (L 3) (.pointer (some ⟨G, 0, none⟩)) undef) :: (cX (L 4) (.string (P 0).r) undef) :: (cX (L 5) (.slice (some ⟨G, 0, none⟩) N cc) undef) :: (cX (L 6) (.pointer (some ⟨G, 0, none⟩)) undef) :: (cX (L 7) (.pointer (some ⟨G, 0, none⟩)) undef) :: (cX (L 8) (.string (P 0).r) undef) :: (cX (L 9) (.slice (some ⟨G, 0, none⟩) N cc) undef) :: (cX (L 10) (.pointer (some ⟨G, 0, none⟩)) undef) :: (cX (L 11) (.pointer (some ⟨G, 0, none⟩)) undef) :: (cX (L 12) (.string (P 0).r) undef) :: (cX (L 13) (.string LZ) undef) :: x30 :: x31 :: undef :: undef :: undef :: undef :: [])), []⟩ ∧ (w3.grownBy W (some g) ∧ Cur W g a n cap) ∧ (L 14 = true → L 15 = false → ∃ (Lb : Nat) (T : Nat → ByteArray), x30 = .slice (some ⟨Lb, 0, none⟩) 4 4 ∧ Lb ≠ g ∧ ∀ i, i < 4 → W.cell? ⟨Lb, i, none⟩ = some (.string (T i))) ∧ (L 15 = true → ∃ s, x31 = .string s)) ?_ ?_ ?_
 ·exact ⟨undef, undef, rfl, ⟨grownB g (below_drew _), curBelow K3.out (below_drew _)⟩, (fun h => by cases h), (fun h => by cases h)⟩
 ·intro q9 hq9 L a9 W hl hd hcl hI9
  obtain ⟨x30, x31, rfl, h0, h1, h2⟩ := hI9
  match q9, hq9 with
  | 0, _ =>
   have e0 := hl
   have e15 : L 15 = false := by cases h9 : L 15 with | false => rfl | true => rw [((hcl 15 h9).dep 0 (by kernel_rfl))] at hl; cases hl
   refine wpOp_plain rfl (fun _ => rfl) fun K hK => ?_
   go_simp
   exact hK _ _ ⟨x30, x31, (by simp only [Nat.reduceBEq, Bool.false_or, Bool.true_or, cX_y]), (h0), (fun k0 k1 => (h1 (show L 14 = true from k0) (show L 15 = false from k1))), (fun k0 => absurd (show L 15 = true from k0) (by rw [e15]; simp))⟩
  | 1, _ =>
   have e1 := hl
   have e14 : L 14 = false := by cases h9 : L 14 with | false => rfl | true => rw [((hcl 2 ((hcl 3 ((hcl 4 ((hcl 14 h9).dep 4 (by kernel_rfl))).dep 3 (by kernel_rfl))).dep 2 (by kernel_rfl))).dep 1 (by kernel_rfl))] at hl; cases hl
   have e15 : L 15 = false := by cases h9 : L 15 with | false => rfl | true => rw [((hcl 2 ((hcl 3 ((hcl 4 ((hcl 14 ((hcl 15 h9).dep 14 (by kernel_rfl))).dep 4 (by kernel_rfl))).dep 3 (by kernel_rfl))).dep 2 (by kernel_rfl))).dep 1 (by kernel_rfl))] at hl; cases hl
   refine wpOp_plain rfl (fun _ => rfl) fun K hK => ?_
   go_simp
   exact hK _ _ ⟨x30, x31, (by simp only [Nat.reduceBEq, Bool.false_or, Bool.true_or, cX_y]), (h0), (fun k0 k1 => absurd (show L 14 = true from k0) (by rw [e14]; simp)), (fun k0 => absurd (show L 15 = true from k0) (by rw [e15]; simp))⟩
  | 2, _ =>
   have d1 := hd.dep 1 (by kernel_rfl)
   have e2 := hl
   have e14 : L 14 = false := by cases h9 : L 14 with | false => rfl | true => rw [((hcl 3 ((hcl 4 ((hcl 14 h9).dep 4 (by kernel_rfl))).dep 3 (by kernel_rfl))).dep 2 (by kernel_rfl))] at hl; cases hl
   have e15 : L 15 = false := by cases h9 : L 15 with | false => rfl | true => rw [((hcl 3 ((hcl 4 ((hcl 14 ((hcl 15 h9).dep 14 (by kernel_rfl))).dep 4 (by kernel_rfl))).dep 3 (by kernel_rfl))).dep 2 (by kernel_rfl))] at hl; cases hl
   refine wpOp_plain rfl (fun _ => rfl) fun K hK => ?_
   simp only [d1, cX_y]
   go_simp
   exact hK _ _ ⟨x30, x31, (by simp only [Nat.reduceBEq, Bool.false_or, Bool.true_or, cX_y, d1]), (h0), (fun k0 k1 => absurd (show L 14 = true from k0) (by rw [e14]; simp)), (fun k0 => absurd (show L 15 = true from k0) (by rw [e15]; simp))⟩
  | 3, _ =>
   have d2 := hd.dep 2 (by kernel_rfl)
   have e3 := hl
   have e14 : L 14 = false := by cases h9 : L 14 with | false => rfl | true => rw [((hcl 4 ((hcl 14 h9).dep 4 (by kernel_rfl))).dep 3 (by kernel_rfl))] at hl; cases hl
   have e15 : L 15 = false := by cases h9 : L 15 with | false => rfl | true => rw [((hcl 4 ((hcl 14 ((hcl 15 h9).dep 14 (by kernel_rfl))).dep 4 (by kernel_rfl))).dep 3 (by kernel_rfl))] at hl; cases hl
   refine wpOp_plain rfl (fun _ => rfl) fun K hK => ?_
   simp only [d2, cX_y]
   go_simp
   exact hK _ _ ⟨x30, x31, (by simp only [Nat.reduceBEq, Bool.false_or, Bool.true_or, cX_y, d2]), (h0), (fun k0 k1 => absurd (show L 14 = true from k0) (by rw [e14]; simp)), (fun k0 => absurd (show L 15 = true from k0) (by rw [e15]; simp))⟩
  | 4, _ =>
   have d3 := hd.dep 3 (by kernel_rfl)
   have e4 := hl
   have e14 : L 14 = false := by cases h9 : L 14 with | false => rfl | true => rw [((hcl 14 h9).dep 4 (by kernel_rfl))] at hl; cases hl
   have e15 : L 15 = false := by cases h9 : L 15 with | false => rfl | true => rw [((hcl 14 ((hcl 15 h9).dep 14 (by kernel_rfl))).dep 4 (by kernel_rfl))] at hl; cases hl
   have x0 := KX.out W (upG h0.1)
   refine wpOp_plain rfl (fun _ => rfl) fun K hK => ?_
   simp only [d3, cX_y]
   go_simp
   exact hK _ _ ⟨x30, x31, (by simp only [Nat.reduceBEq, Bool.false_or, Bool.true_or, cX_y, d3]), (h0), (fun k0 k1 => absurd (show L 14 = true from k0) (by rw [e14]; simp)), (fun k0 => absurd (show L 15 = true from k0) (by rw [e15]; simp))⟩
  | 5, _ =>
   have e5 := hl
   have e14 : L 14 = false := by cases h9 : L 14 with | false => rfl | true => rw [((hcl 6 ((hcl 7 ((hcl 8 ((hcl 14 h9).dep 8 (by kernel_rfl))).dep 7 (by kernel_rfl))).dep 6 (by kernel_rfl))).dep 5 (by kernel_rfl))] at hl; cases hl
   have e15 : L 15 = false := by cases h9 : L 15 with | false => rfl | true => rw [((hcl 6 ((hcl 7 ((hcl 8 ((hcl 14 ((hcl 15 h9).dep 14 (by kernel_rfl))).dep 8 (by kernel_rfl))).dep 7 (by kernel_rfl))).dep 6 (by kernel_rfl))).dep 5 (by kernel_rfl))] at hl; cases hl
   refine wpOp_plain rfl (fun _ => rfl) fun K hK => ?_
   go_simp
   exact hK _ _ ⟨x30, x31, (by simp only [Nat.reduceBEq, Bool.false_or, Bool.true_or, cX_y]), (h0), (fun k0 k1 => absurd (show L 14 = true from k0) (by rw [e14]; simp)), (fun k0 => absurd (show L 15 = true from k0) (by rw [e15]; simp))⟩
  | 6, _ =>
   have d5 := hd.dep 5 (by kernel_rfl)
   have e6 := hl
   have e14 : L 14 = false := by cases h9 : L 14 with | false => rfl | true => rw [((hcl 7 ((hcl 8 ((hcl 14 h9).dep 8 (by kernel_rfl))).dep 7 (by kernel_rfl))).dep 6 (by kernel_rfl))] at hl; cases hl
   have e15 : L 15 = false := by cases h9 : L 15 with | false => rfl | true => rw [((hcl 7 ((hcl 8 ((hcl 14 ((hcl 15 h9).dep 14 (by kernel_rfl))).dep 8 (by kernel_rfl))).dep 7 (by kernel_rfl))).dep 6 (by kernel_rfl))] at hl; cases hl
   refine wpOp_plain rfl (fun _ => rfl) fun K hK => ?_
   simp only [d5, cX_y]
   go_simp
   exact hK _ _ ⟨x30, x31, (by simp only [Nat.reduceBEq, Bool.false_or, Bool.true_or, cX_y, d5]), (h0), (fun k0 k1 => absurd (show L 14 = true from k0) (by rw [e14]; simp)), (fun k0 => absurd (show L 15 = true from k0) (by rw [e15]; simp))⟩
  | 7, _ =>
   have d6 := hd.dep 6 (by kernel_rfl)
   have e7 := hl
   have e14 : L 14 = false := by cases h9 : L 14 with | false => rfl | true => rw [((hcl 8 ((hcl 14 h9).dep 8 (by kernel_rfl))).dep 7 (by kernel_rfl))] at hl; cases hl
   have e15 : L 15 = false := by cases h9 : L 15 with | false => rfl | true => rw [((hcl 8 ((hcl 14 ((hcl 15 h9).dep 14 (by kernel_rfl))).dep 8 (by kernel_rfl))).dep 7 (by kernel_rfl))] at hl; cases hl
   refine wpOp_plain rfl (fun _ => rfl) fun K hK => ?_
   simp only [d6, cX_y]
   go_simp
   exact hK _ _ ⟨x30, x31, (by simp only [Nat.reduceBEq, Bool.false_or, Bool.true_or, cX_y, d6]), (h0), (fun k0 k1 => absurd (show L 14 = true from k0) (by rw [e14]; simp)), (fun k0 => absurd (show L 15 = true from k0) (by rw [e15]; simp))⟩
  | 8, _ =>
   have d7 := hd.dep 7 (by kernel_rfl)
   have e8 := hl
   have e14 : L 14 = false := by cases h9 : L 14 with | false => rfl | true => rw [((hcl 14 h9).dep 8 (by kernel_rfl))] at hl; cases hl
   have e15 : L 15 = false := by cases h9 : L 15 with | false => rfl | true => rw [((hcl 14 ((hcl 15 h9).dep 14 (by kernel_rfl))).dep 8 (by kernel_rfl))] at hl; cases hl
   have x0 := KX.out W (upG h0.1)
   refine wpOp_plain rfl (fun _ => rfl) fun K hK => ?_
   simp only [d7, cX_y]
   go_simp
   exact hK _ _ ⟨x30, x31, (by simp only [Nat.reduceBEq, Bool.false_or, Bool.true_or, cX_y, d7]), (h0), (fun k0 k1 => absurd (show L 14 = true from k0) (by rw [e14]; simp)), (fun k0 => absurd (show L 15 = true from k0) (by rw [e15]; simp))⟩
  | 9, _ =>
   have e9 := hl
   have e14 : L 14 = false := by cases h9 : L 14 with | false => rfl | true => rw [((hcl 10 ((hcl 11 ((hcl 12 ((hcl 14 h9).dep 12 (by kernel_rfl))).dep 11 (by kernel_rfl))).dep 10 (by kernel_rfl))).dep 9 (by kernel_rfl))] at hl; cases hl
   have e15 : L 15 = false := by cases h9 : L 15 with | false => rfl | true => rw [((hcl 10 ((hcl 11 ((hcl 12 ((hcl 14 ((hcl 15 h9).dep 14 (by kernel_rfl))).dep 12 (by kernel_rfl))).dep 11 (by kernel_rfl))).dep 10 (by kernel_rfl))).dep 9 (by kernel_rfl))] at hl; cases hl
   refine wpOp_plain rfl (fun _ => rfl) fun K hK => ?_
   go_simp
   exact hK _ _ ⟨x30, x31, (by simp only [Nat.reduceBEq, Bool.false_or, Bool.true_or, cX_y]), (h0), (fun k0 k1 => absurd (show L 14 = true from k0) (by rw [e14]; simp)), (fun k0 => absurd (show L 15 = true from k0) (by rw [e15]; simp))⟩
  | 10, _ =>
   have d9 := hd.dep 9 (by kernel_rfl)
   have e10 := hl
   have e14 : L 14 = false := by cases h9 : L 14 with | false => rfl | true => rw [((hcl 11 ((hcl 12 ((hcl 14 h9).dep 12 (by kernel_rfl))).dep 11 (by kernel_rfl))).dep 10 (by kernel_rfl))] at hl; cases hl
   have e15 : L 15 = false := by cases h9 : L 15 with | false => rfl | true => rw [((hcl 11 ((hcl 12 ((hcl 14 ((hcl 15 h9).dep 14 (by kernel_rfl))).dep 12 (by kernel_rfl))).dep 11 (by kernel_rfl))).dep 10 (by kernel_rfl))] at hl; cases hl
   refine wpOp_plain rfl (fun _ => rfl) fun K hK => ?_
   simp only [d9, cX_y]
   go_simp
   exact hK _ _ ⟨x30, x31, (by simp only [Nat.reduceBEq, Bool.false_or, Bool.true_or, cX_y, d9]), (h0), (fun k0 k1 => absurd (show L 14 = true from k0) (by rw [e14]; simp)), (fun k0 => absurd (show L 15 = true from k0) (by rw [e15]; simp))⟩
  | 11, _ =>
   have d10 := hd.dep 10 (by kernel_rfl)
   have e11 := hl
   have e14 : L 14 = false := by cases h9 : L 14 with | false => rfl | true => rw [((hcl 12 ((hcl 14 h9).dep 12 (by kernel_rfl))).dep 11 (by kernel_rfl))] at hl; cases hl
   have e15 : L 15 = false := by cases h9 : L 15 with | false => rfl | true => rw [((hcl 12 ((hcl 14 ((hcl 15 h9).dep 14 (by kernel_rfl))).dep 12 (by kernel_rfl))).dep 11 (by kernel_rfl))] at hl; cases hl
   refine wpOp_plain rfl (fun _ => rfl) fun K hK => ?_
   simp only [d10, cX_y]
   go_simp
   exact hK _ _ ⟨x30, x31, (by simp only [Nat.reduceBEq, Bool.false_or, Bool.true_or, cX_y, d10]), (h0), (fun k0 k1 => absurd (show L 14 = true from k0) (by rw [e14]; simp)), (fun k0 => absurd (show L 15 = true from k0) (by rw [e15]; simp))⟩
  | 12, _ =>
   have d11 := hd.dep 11 (by kernel_rfl)
   have e12 := hl
   have e14 : L 14 = false := by cases h9 : L 14 with | false => rfl | true => rw [((hcl 14 h9).dep 12 (by kernel_rfl))] at hl; cases hl
   have e15 : L 15 = false := by cases h9 : L 15 with | false => rfl | true => rw [((hcl 14 ((hcl 15 h9).dep 14 (by kernel_rfl))).dep 12 (by kernel_rfl))] at hl; cases hl
   have x0 := KX.out W (upG h0.1)
   refine wpOp_plain rfl (fun _ => rfl) fun K hK => ?_
   simp only [d11, cX_y]
   go_simp
   exact hK _ _ ⟨x30, x31, (by simp only [Nat.reduceBEq, Bool.false_or, Bool.true_or, cX_y, d11]), (h0), (fun k0 k1 => absurd (show L 14 = true from k0) (by rw [e14]; simp)), (fun k0 => absurd (show L 15 = true from k0) (by rw [e15]; simp))⟩
  | 13, _ =>
   have e13 := hl
   have e14 : L 14 = false := by cases h9 : L 14 with | false => rfl | true => rw [((hcl 14 h9).dep 13 (by kernel_rfl))] at hl; cases hl
   have e15 : L 15 = false := by cases h9 : L 15 with | false => rfl | true => rw [((hcl 14 ((hcl 15 h9).dep 14 (by kernel_rfl))).dep 13 (by kernel_rfl))] at hl; cases hl
   refine wpOp_plain rfl (fun _ => rfl) fun K hK => ?_
   go_simp
   refine Calls.mono (KLf.out W) ?_
   rintro e w9 ⟨rfl, b9⟩
   exact hK _ _ ⟨x30, x31, (by simp only [Nat.reduceBEq, Bool.false_or, Bool.true_or, cX_y]), (⟨grownBy_trans h0.1 (grownB g b9), curBelow h0.2 b9⟩), (fun k0 k1 => absurd (show L 14 = true from k0) (by rw [e14]; simp)), (fun k0 => absurd (show L 15 = true from k0) (by rw [e15]; simp))⟩
  | 14, _ =>
   have d4 := hd.dep 4 (by kernel_rfl)
   have d8 := hd.dep 8 (by kernel_rfl)
   have d12 := hd.dep 12 (by kernel_rfl)
   have d13 := hd.dep 13 (by kernel_rfl)
   have e14 := hl
   have e15 : L 15 = false := by cases h9 : L 15 with | false => rfl | true => rw [((hcl 15 h9).dep 14 (by kernel_rfl))] at hl; cases hl
   refine wpOp_plain rfl (fun _ => rfl) fun K hK => ?_
   simp only [d4, d8, d12, d13, cX_y]
   go_simp
   exact hK _ _ ⟨.slice (some ⟨W.heap.size, 0, none⟩) 4 4, x31, (by simp only [Nat.reduceBEq, Bool.false_or, d4, d8, d12, d13, cX_y]), (⟨grownBy_trans h0.1 (World.grownBy_alloc W _ _), h0.2.alloc _⟩), (fun k0 k1 => ⟨W.heap.size, TT, rfl, by have := h0.2.lt; omega, KTc.out W⟩), (fun k0 => absurd (show L 15 = true from k0) (by rw [e15]; simp))⟩
  | 15, _ =>
   have d0 := hd.dep 0 (by kernel_rfl)
   have d14 := hd.dep 14 (by kernel_rfl)
   have e15 := hl
   have e16 : L 16 = false := by cases h9 : L 16 with | false => rfl | true => rw [((hcl 16 h9).dep 15 (by kernel_rfl))] at hl; cases hl
   obtain ⟨Lb, T, rfl, hLg, hT⟩ := h1 d14 hl
   refine wpOp_plain rfl (fun _ => rfl) fun K hK => ?_
   simp only [d0, cX_y]
   go_simp
   refine Calls.mono (pickT_any (fun _ => True) g n cap a Lb 0 4 4 W h0.2 (by omega) (by omega) hLg (fun i hi => ⟨T i, trivial, by rw [Nat.zero_add]; exact hT i hi⟩)) ?_
   rintro e w9 ⟨t, _, rfl, kg, kc⟩
   exact hK _ _ ⟨.slice (some ⟨Lb, 0, none⟩) 4 4, .string t, (by simp only [Nat.reduceBEq, Bool.false_or, cX_y, cX_n, d0, e16]), (⟨grownBy_trans h0.1 kg, kc⟩), (fun k0 k1 => by cases k1), (fun k0 => ⟨t, rfl⟩)⟩
  | 16, _ =>
   have d15 := hd.dep 15 (by kernel_rfl)
   have d14 := (hcl 15 d15).dep 14 (by kernel_rfl)
   have e16 := hl
   refine wpOp_plain rfl (fun _ => rfl) fun K hK => ?_
   go_simp
   exact hK _ _ ⟨x30, x31, (by simp only [Nat.reduceBEq, Bool.false_or, Bool.true_or, cX_y]), (h0), (fun k0 k1 => absurd (show L 15 = false from k1) (by rw [d15]; simp)), (fun k0 => (h2 (show L 15 = true from k0)))⟩
  | n9 + 17, h => exact absurd h (by simp)
 ·intro L a9 W hall hI9
  obtain ⟨x30, x31, rfl, h0, h1, h2⟩ := hI9
  have e0 := hall 0 (by decide)
  have e1 := hall 1 (by decide)
  have e2 := hall 2 (by decide)
  have e3 := hall 3 (by decide)
  have e4 := hall 4 (by decide)
  have e5 := hall 5 (by decide)
  have e6 := hall 6 (by decide)
  have e7 := hall 7 (by decide)
  have e8 := hall 8 (by decide)
  have e9 := hall 9 (by decide)
  have e10 := hall 10 (by decide)
  have e11 := hall 11 (by decide)
  have e12 := hall 12 (by decide)
  have e13 := hall 13 (by decide)
  have e14 := hall 14 (by decide)
  have e15 := hall 15 (by decide)
  have e16 := hall 16 (by decide)
  simp only [e0, e1, e2, e3, e4, e5, e6, e7, e8, e9, e10, e11, e12, e13, e16, cX_y]
  exact (HRdq.out _ _).2 ⟨x30, x31, rfl, (h0), (h2 e15)⟩
end Go.Proofs.YtaenoiffamgcfaaGreatDoor
