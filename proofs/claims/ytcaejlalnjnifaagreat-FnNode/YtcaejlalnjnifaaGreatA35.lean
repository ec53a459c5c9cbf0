import Derived.Test.YtcaejlalnjnifaaGreatA5
import Derived.Test.YtcaejlalnjnifaaGreatA25
import Derived.Test.YtcaejlalnjnifaaGreatA32
import Derived.Test.YtcaejlalnjnifaaGreatA13
import Derived.Lib.QuietBelow
import Derived.BigQuiet
import Derived.Deep.MidRow
set_option maxHeartbeats 8000000
set_option maxRecDepth 2000
namespace Go.Proofs.YtcaejlalnjnifaaGreat
open Go.ChangeShapes Go.WideShapes Go.ChangeAt Go.RowKit Go.Sort
def cU (b : Bool) (v o : Value) : Value := if b = true then v else o
theorem cU_y (v o : Value) : cU true v o = v := rfl
theorem range_below {w w' : World} {b o : Nat} {cs : List Value} (h : w.rangeAt b o cs) (hb : Below w.heap.size w w') : w'.rangeAt b o cs := fun j v hj => (hb.cell (p := ⟨b, o + j, none⟩) (block_lt_of_cell (h j v hj))).trans (h j v hj)
theorem sameNd_same (id f : Int) (a b : Option Addr) (n ca cb : Nat) (S : Nat → Sl) (w : World) (ha : Rd w (slsD n S) (.slice a n ca)) (hb : Rd w (slsD n S) (.slice b n cb)) (hn : n ≤ 1048576) (hs : ∀ i, i < n → (S i).p.m ≤ 1048576 ∧ (S i).ze.length ≤ 1048576 ∧ (S i).zr.length ≤ 1048576) :
  Calls Tryz.prog 11 #[ndV id f (.slice a n ca), ndV id f (.slice b n cb)] w fun e w' => e = .returned (.bool true) ∧ Below w.heap.size w w' := by
 obtain ⟨w0, HW0⟩ : ∃ x, Hid (x = (w.alloc (.cells #[.int .i64 id, .int .i64 f, .slice a n ca] 26)).alloc (.cells #[.int .i64 id, .int .i64 f, .slice b n cb] 26)) := ⟨_, rfl⟩
 have hb0 : Below w.heap.size w w0 := by rw [HW0.out]; exact ((Below.refl _ _).alloc (Nat.le_refl _) _).alloc (by simp) _
 have HB0 : Hid (Below w.heap.size w w0) := hb0
 have KH : Hid (Rd w (slsD n S) (.slice a n ca) ∧ Rd w (slsD n S) (.slice b n cb)) := ⟨ha, hb⟩
 have HS : Hid (∀ i, i < n → (S i).p.m ≤ 1048576 ∧ (S i).ze.length ≤ 1048576 ∧ (S i).zr.length ≤ 1048576) := hs
 obtain ⟨A, HA⟩ : ∃ x, Hid (x = w.heap.size) := ⟨_, rfl⟩
 obtain ⟨B, HB⟩ : ∃ x, Hid (x = w.heap.size + 1) := ⟨_, rfl⟩
 have RA0 : Row w0 A 26 #[.int .i64 id, .int .i64 f, .slice a n ca] := by rw [HW0.out, HA.out]; exact Row.alloc (Row.new w _ _) _
 have RB0 : Row w0 B 26 #[.int .i64 id, .int .i64 f, .slice b n cb] := by rw [HW0.out, HB.out]; have h9 := Row.new (w.alloc (.cells #[.int .i64 id, .int .i64 f, .slice a n ca] 26)) #[.int .i64 id, .int .i64 f, .slice b n cb] 26; simpa using h9
 have KRw : Hid (∀ W, Below w0.heap.size w0 W → W.cell? ⟨A, 2, none⟩ = some (.slice a n ca) ∧ W.cell? ⟨B, 2, none⟩ = some (.slice b n cb)) := fun W hW => by
  have h1 := (RA0.below hW RA0.lt).cell 2
  have h2 := (RB0.below hW RB0.lt).cell 2
  exact ⟨by simpa using h1, by simpa using h2⟩
 have hf1 : (id != id) = false := by simp
 have hf2 : (f != f) = false := by simp
 have hf3 : ((n : Int) != (n : Int)) = false := by simp
 clear hb0 ha hb hs RA0 RB0
 go_enter Tryz.func11, Tryz.ntmps11
 go_wp2_with fail
 rw [← HW0.out, ← HB.out, ← HA.out]
 go_loopw [5, 6, 7] (fun vi v6 v7 wr => ∃ c : Nat, c ≤ n ∧ vi = .int .i64 (c : Int) ∧ Below w0.heap.size w0 wr) (fun vi _ _ _ => n - (intOf vi).toNat)
 case atStart => exact ⟨0, Nat.zero_le _, rfl, Below.refl _ _⟩
 case round =>
  obtain ⟨c, hcn, rfl, hbel⟩ := hrel
  obtain ⟨r1, r2⟩ := KRw.out wr hbel
  have KB : Hid (Below w0.heap.size w0 wr) := hbel
  by_cases hlt : c < n
  case neg =>
   have hki : ¬ (c : Int) < (n : Int) := by omega
   go_wp2
   go_ret
   exact ⟨rfl, below2 HB0.out KB.out⟩
  have hki : (c : Int) < (n : Int) := by omega
  have hk0 : (0 : Int) ≤ (c : Int) := by omega
  have hwr := below2 HB0.out hbel
  obtain ⟨b1, f1, i6, i11, i12, j6, j11, j12, rfl, g1, t1, t2, t3⟩ := slot_at (KH.out.1.below hwr) hlt
  obtain ⟨b2, f2, k6, k11, k12, l6, l11, l12, rfl, g2, t4, t5, t6⟩ := slot_at (KH.out.2.below hwr) hlt
  have hsm := HS.out c hlt
  obtain ⟨s, HSc⟩ : ∃ x, Hid (S c = x) := ⟨_, rfl⟩
  rw [HSc.out] at g1 g2 t1 t2 t3 t4 t5 t6 hsm
  have KG : Hid (∀ W, Below wr.heap.size wr W → W.rangeAt b1 (f1 + c * 13) (slL s (.slice i6 s.p.m j6) (.slice i11 s.ze.length j11) (.slice i12 s.zr.length j12)) ∧ W.rangeAt b2 (f2 + c * 13) (slL s (.slice k6 s.p.m l6) (.slice k11 s.ze.length l11) (.slice k12 s.zr.length l12)) ∧ W.cell? ⟨A, 2, none⟩ = some (.slice (some ⟨b1, f1, none⟩) n ca) ∧ W.cell? ⟨B, 2, none⟩ = some (.slice (some ⟨b2, f2, none⟩) n cb)) := fun W hW => ⟨range_below g1 hW, range_below g2 hW, (hW.cell (p := ⟨A, 2, none⟩) (block_lt_of_cell r1)).trans r1, (hW.cell (p := ⟨B, 2, none⟩) (block_lt_of_cell r2)).trans r2⟩
  have KT : Hid (TxtAt wr i6 s.p.m s.p.S ∧ IntsAt wr i11 s.ze.length s.ze ∧ IntsAt wr i12 s.zr.length s.zr ∧ TxtAt wr k6 s.p.m s.p.S ∧ IntsAt wr k11 s.ze.length s.ze ∧ IntsAt wr k12 s.zr.length s.zr) := ⟨t1, t2, t3, t4, t5, t6⟩
  clear g1 g2 t1 t2 t3 t4 t5 t6 hbel hwr HSc
  go_wp2_with fail
  obtain ⟨R, HRR⟩ : ∃ R : Act → World → Prop, Hid (∀ a W, R a W ↔ ∃ X Y : Nat, a = ⟨(List.toArray (α := Value) ((ndV id f (.slice (some ⟨b1, f1, none⟩) n ca)) :: (ndV id f (.slice (some ⟨b2, f2, none⟩) n cb)) :: (.pointer (some ⟨A, 0, none⟩)) :: (.pointer (some ⟨B, 0, none⟩)) :: u4 :: (.int .i64 (c : Int)) :: (.pointer (some ⟨X, 0, none⟩)) :: (.pointer (some ⟨Y, 0, none⟩)) :: (.pointer (some ⟨A, 0, none⟩)) :: (.int .i64 id) :: (.pointer (some ⟨B, 0, none⟩)) :: (.int .i64 id) :: (.bool false) :: (.bool false) :: (.pointer (some ⟨A, 1, none⟩)) :: (.int .i64 f) :: (.pointer (some ⟨B, 1, none⟩)) :: (.int .i64 f) :: (.bool false) :: (.bool false) :: (.bool false) :: (.pointer (some ⟨A, 2, none⟩)) :: (.slice (some ⟨b1, f1, none⟩) n ca) :: (.int .i64 (n : Int)) :: (.pointer (some ⟨B, 2, none⟩)) :: (.slice (some ⟨b2, f2, none⟩) n cb) :: (.int .i64 (n : Int)) :: (.bool false) :: (.bool false) :: (.int .i64 (c : Int)) :: (.pointer (some ⟨A, 2, none⟩)) :: (.slice (some ⟨b1, f1, none⟩) n ca) :: (.int .i64 (n : Int)) :: (.bool true) :: u34 :: u35 :: (.pointer (some ⟨A, 2, none⟩)) :: (.slice (some ⟨b1, f1, none⟩) n ca) :: (.int .i64 (c : Int)) :: (.pointer (some ⟨b1, f1 + c * 13, none⟩)) :: (.agg (slC s (.slice i6 s.p.m j6) (.slice i11 s.ze.length j11) (.slice i12 s.zr.length j12))) :: (.pointer (some ⟨B, 2, none⟩)) :: (.slice (some ⟨b2, f2, none⟩) n cb) :: (.int .i64 (c : Int)) :: (.pointer (some ⟨b2, f2 + c * 13, none⟩)) :: (.agg (slC s (.slice k6 s.p.m l6) (.slice k11 s.ze.length l11) (.slice k12 s.zr.length l12))) :: u46 :: u47 :: u48 :: u49 :: u50 :: u51 :: u52 :: u53 :: u54 :: u55 :: u56 :: u57 :: u58 :: u59 :: u60 :: u61 :: u62 :: u63 :: u64 :: u65 :: u66 :: u67 :: u68 :: u69 :: u70 :: u71 :: u72 :: u73 :: u74 :: u75 :: u76 :: u77 :: u78 :: u79 :: u80 :: u81 :: u82 :: u83 :: u84 :: u85 :: u86 :: u87 :: u88 :: u89 :: u90 :: u91 :: u92 :: u93 :: u94 :: u95 :: u96 :: u97 :: u98 :: u99 :: u100 :: u101 :: u102 :: [])), []⟩ ∧ Row W X 42 (slC s (.slice i6 s.p.m j6) (.slice i11 s.ze.length j11) (.slice i12 s.zr.length j12)) ∧ Row W Y 42 (slC s (.slice k6 s.p.m l6) (.slice k11 s.ze.length l11) (.slice k12 s.zr.length l12)) ∧ Below wr.heap.size wr W) := ⟨fun a W => _, fun _ _ => Iff.rfl⟩
  refine wp_region_post R ?_ ?_
  rotate_left
  ·intro a wx hR
   obtain ⟨X, Y, rfl, RX, RY, BX⟩ := (HRR.out a wx).1 hR
   have KX : Hid (Row wx X 42 (slC s (.slice i6 s.p.m j6) (.slice i11 s.ze.length j11) (.slice i12 s.zr.length j12)) ∧ Row wx Y 42 (slC s (.slice k6 s.p.m l6) (.slice k11 s.ze.length l11) (.slice k12 s.zr.length l12)) ∧ Below wr.heap.size wr wx) := ⟨RX, RY, BX⟩
   have q1 : (s.r.toList != s.r.toList) = false := by simp
   have q2 : (s.h != s.h) = false := by simp
   have q3 : (s.e != s.e) = false := by simp
   have q4 : (s.d != s.d) = false := by simp
   have q5 : (s.o != s.o) = false := by simp
   have x0 := KX.out.1.cell 0
   have y0 := KX.out.2.1.cell 0
   have x1 := KX.out.1.cell 1
   have y1 := KX.out.2.1.cell 1
   have x2 := KX.out.1.cell 2
   have y2 := KX.out.2.1.cell 2
   have x3 := KX.out.1.cell 3
   have y3 := KX.out.2.1.cell 3
   have x4 := KX.out.1.cell 4
   have y4 := KX.out.2.1.cell 4
   have x5 := KX.out.1.cell 5
   have y5 := KX.out.2.1.cell 5
   have x6 := KX.out.1.cell 6
   have y6 := KX.out.2.1.cell 6
   have x7 := KX.out.1.cell 7
   have y7 := KX.out.2.1.cell 7
   have x8 := KX.out.1.cell 8
   have y8 := KX.out.2.1.cell 8
   have x9 := KX.out.1.cell 9
   have y9 := KX.out.2.1.cell 9
   have x10 := KX.out.1.cell 10
   have y10 := KX.out.2.1.cell 10
   have x11 := KX.out.1.cell 11
   have y11 := KX.out.2.1.cell 11
   have x12 := KX.out.1.cell 12
   have y12 := KX.out.2.1.cell 12
   simp at x0 y0 x1 y1 x2 y2 x3 y3 x4 y4 x5 y5 x6 y6 x7 y7 x8 y8 x9 y9 x10 y10 x11 y11 x12 y12
   clear HRR hR RX RY BX
   go_wp2_with fail
   refine Calls.mono (samePc_same s.p.r s.p.k s.p.n s.p.i s.p.b i6 k6 s.p.m j6 l6 s.p.S wx (KT.out.1.below KX.out.2.2) (KT.out.2.2.2.1.below KX.out.2.2) hsm.1) ?_
   rintro e w2 ⟨rfl, b2'⟩
   have K2 : Hid (Row w2 X 42 (slC s (.slice i6 s.p.m j6) (.slice i11 s.ze.length j11) (.slice i12 s.zr.length j12)) ∧ Row w2 Y 42 (slC s (.slice k6 s.p.m l6) (.slice k11 s.ze.length l11) (.slice k12 s.zr.length l12)) ∧ Below wr.heap.size wr w2) := ⟨KX.out.1.below b2' KX.out.1.lt, KX.out.2.1.below b2' KX.out.2.1.lt, below2 KX.out.2.2 b2'⟩
   clear b2' x0 y0 x1 y1 x2 y2 x3 y3 x4 y4 x5 y5 x6 y6 x7 y7 x8 y8 x9 y9 x10 y10 x11 y11 x12 y12
   have x7 := K2.out.1.cell 7
   have y7 := K2.out.2.1.cell 7
   have x8 := K2.out.1.cell 8
   have y8 := K2.out.2.1.cell 8
   have x9 := K2.out.1.cell 9
   have y9 := K2.out.2.1.cell 9
   have x10 := K2.out.1.cell 10
   have y10 := K2.out.2.1.cell 10
   have x11 := K2.out.1.cell 11
   have y11 := K2.out.2.1.cell 11
   have x12 := K2.out.1.cell 12
   have y12 := K2.out.2.1.cell 12
   simp at x7 y7 x8 y8 x9 y9 x10 y10 x11 y11 x12 y12
   go_wp2_with fail
   refine Calls.mono (sameInts_z i11 k11 s.ze.length j11 l11 s.ze w2 (KT.out.2.1.below K2.out.2.2) (KT.out.2.2.2.2.1.below K2.out.2.2) hsm.2.1) ?_
   rintro e w3 ⟨rfl, b3'⟩
   have K3 : Hid (Row w3 X 42 (slC s (.slice i6 s.p.m j6) (.slice i11 s.ze.length j11) (.slice i12 s.zr.length j12)) ∧ Row w3 Y 42 (slC s (.slice k6 s.p.m l6) (.slice k11 s.ze.length l11) (.slice k12 s.zr.length l12)) ∧ Below wr.heap.size wr w3) := ⟨K2.out.1.below b3' K2.out.1.lt, K2.out.2.1.below b3' K2.out.2.1.lt, below2 K2.out.2.2 b3'⟩
   clear b3' x7 y7 x8 y8 x9 y9 x10 y10 x11 y11 x12 y12
   have x12 := K3.out.1.cell 12
   have y12 := K3.out.2.1.cell 12
   simp at x12 y12
   go_wp2_with fail
   refine Calls.mono (sameInts_z i12 k12 s.zr.length j12 l12 s.zr w3 (KT.out.2.2.1.below K3.out.2.2) (KT.out.2.2.2.2.2.below K3.out.2.2) hsm.2.2) ?_
   rintro e w4 ⟨rfl, b4'⟩
   have B4 : Hid (Below w0.heap.size w0 w4) := below2 KB.out (below2 K3.out.2.2 b4')
   clear b4' x12 y12
   go_wp2_with fail
   go_roundw
   case rel => exact ⟨c + 1, by omega, by go_num, B4.out⟩
   case measure => simp [intOf]; omega
  refine wp_region_inv Tryz.mixed (by kernel_rfl) (fun L a W => ∃ v6 v7 : Value, a = ⟨(List.toArray (α := Value) ((ndV id f (.slice (some ⟨b1, f1, none⟩) n ca)) :: (ndV id f (.slice (some ⟨b2, f2, none⟩) n cb)) :: (.pointer (some ⟨A, 0, none⟩)) :: (.pointer (some ⟨B, 0, none⟩)) :: u4 :: (.int .i64 (c : Int)) :: v6 :: v7 :: (.pointer (some ⟨A, 0, none⟩)) :: (.int .i64 id) :: (.pointer (some ⟨B, 0, none⟩)) :: (.int .i64 id) :: (.bool false) :: (.bool false) :: (.pointer (some ⟨A, 1, none⟩)) :: (.int .i64 f) :: (.pointer (some ⟨B, 1, none⟩)) :: (.int .i64 f) :: (.bool false) :: (.bool false) :: (.bool false) :: (.pointer (some ⟨A, 2, none⟩)) :: (.slice (some ⟨b1, f1, none⟩) n ca) :: (.int .i64 (n : Int)) :: (.pointer (some ⟨B, 2, none⟩)) :: (.slice (some ⟨b2, f2, none⟩) n cb) :: (.int .i64 (n : Int)) :: (.bool false) :: (.bool false) :: (.int .i64 (c : Int)) :: (.pointer (some ⟨A, 2, none⟩)) :: (.slice (some ⟨b1, f1, none⟩) n ca) :: (.int .i64 (n : Int)) :: (.bool true) :: u34 :: u35 :: (cU (L 0) (.pointer (some ⟨A, 2, none⟩)) u36) :: (cU (L 1) (.slice (some ⟨b1, f1, none⟩) n ca) u37) :: (cU (L 2) (.int .i64 (c : Int)) u38) :: (cU (L 3) (.pointer (some ⟨b1, f1 + c * 13, none⟩)) u39) :: (cU (L 4) (.agg (slC s (.slice i6 s.p.m j6) (.slice i11 s.ze.length j11) (.slice i12 s.zr.length j12))) u40) :: (cU (L 5) (.pointer (some ⟨B, 2, none⟩)) u41) :: (cU (L 6) (.slice (some ⟨b2, f2, none⟩) n cb) u42) :: (cU (L 7) (.int .i64 (c : Int)) u43) :: (cU (L 8) (.pointer (some ⟨b2, f2 + c * 13, none⟩)) u44) :: (cU (L 9) (.agg (slC s (.slice k6 s.p.m l6) (.slice k11 s.ze.length l11) (.slice k12 s.zr.length l12))) u45) :: u46 :: u47 :: u48 :: u49 :: u50 :: u51 :: u52 :: u53 :: u54 :: u55 :: u56 :: u57 :: u58 :: u59 :: u60 :: u61 :: u62 :: u63 :: u64 :: u65 :: u66 :: u67 :: u68 :: u69 :: u70 :: u71 :: u72 :: u73 :: u74 :: u75 :: u76 :: u77 :: u78 :: u79 :: u80 :: u81 :: u82 :: u83 :: u84 :: u85 :: u86 :: u87 :: u88 :: u89 :: u90 :: u91 :: u92 :: u93 :: u94 :: u95 :: u96 :: u97 :: u98 :: u99 :: u100 :: u101 :: u102 :: [])), []⟩ ∧ Below wr.heap.size wr W ∧ (L 12 = true → L 10 = true) ∧ (L 13 = true → L 11 = true) ∧ (L 10 = true → ∃ X, v6 = .pointer (some ⟨X, 0, none⟩) ∧ wr.heap.size ≤ X ∧ X < W.heap.size ∧ (L 12 = false → Row W X 42 #[.string ⟨#[]⟩, .string ⟨#[]⟩, .int .i64 0, .int .i64 0, .int .i64 0, .string ⟨#[]⟩, .slice none 0 0, .bool false, .bool false, .bool false, .bool false, .slice none 0 0, .slice none 0 0]) ∧ (L 12 = true → Row W X 42 (slC s (.slice i6 s.p.m j6) (.slice i11 s.ze.length j11) (.slice i12 s.zr.length j12)))) ∧ (L 11 = true → ∃ X, v7 = .pointer (some ⟨X, 0, none⟩) ∧ wr.heap.size ≤ X ∧ X < W.heap.size ∧ (L 13 = false → Row W X 42 #[.string ⟨#[]⟩, .string ⟨#[]⟩, .int .i64 0, .int .i64 0, .int .i64 0, .string ⟨#[]⟩, .slice none 0 0, .bool false, .bool false, .bool false, .bool false, .slice none 0 0, .slice none 0 0]) ∧ (L 13 = true → Row W X 42 (slC s (.slice k6 s.p.m l6) (.slice k11 s.ze.length l11) (.slice k12 s.zr.length l12)))) ∧ (L 10 = true → L 11 = true → v6 ≠ v7)) ?_ ?_ ?_
  ·exact ⟨u6, u7, rfl, ⟨rfl, rfl, rfl, Nat.le_refl _, fun _ _ => rfl⟩, (fun h => by cases h), (fun h => by cases h), (fun h => by cases h), (fun h => by cases h), fun h => by cases h⟩
  ·intro i hi L a W hl hd hI
   obtain ⟨v6, v7, rfl, hB, h12, h13, h10, h11, hne⟩ := hI
   obtain ⟨g1, g2, c1, c2⟩ := KG.out W hB
   match i, hi with
   | 0, _ =>
    refine wpOp_plain rfl (fun _ => rfl) fun K hK => ?_
    go_simp
    exact hK _ _ ⟨v6, v7, by simp only [Nat.reduceBEq, Bool.false_or, Bool.true_or, cU_y], hB, h12, h13, h10, h11, hne⟩
   | 1, _ =>
    have d0 := hd.dep 0 (by kernel_rfl)
    refine wpOp_plain rfl (fun _ => rfl) fun K hK => ?_
    simp only [d0, cU_y]
    go_simp
    exact hK _ _ ⟨v6, v7, by simp only [Nat.reduceBEq, Bool.false_or, Bool.true_or, cU_y, d0], hB, h12, h13, h10, h11, hne⟩
   | 2, _ =>
    refine wpOp_plain rfl (fun _ => rfl) fun K hK => ?_
    go_simp
    exact hK _ _ ⟨v6, v7, by simp only [Nat.reduceBEq, Bool.false_or, Bool.true_or, cU_y], hB, h12, h13, h10, h11, hne⟩
   | 3, _ =>
    have d1 := hd.dep 1 (by kernel_rfl)
    have d2 := hd.dep 2 (by kernel_rfl)
    refine wpOp_plain rfl (fun _ => rfl) fun K hK => ?_
    simp only [d1, d2, cU_y]
    go_simp
    exact hK _ _ ⟨v6, v7, by simp only [Nat.reduceBEq, Bool.false_or, Bool.true_or, cU_y, d1, d2], hB, h12, h13, h10, h11, hne⟩
   | 4, _ =>
    have d3 := hd.dep 3 (by kernel_rfl)
    refine wpOp_plain rfl (fun _ => rfl) fun K hK => ?_
    simp only [d3, cU_y]
    refine wp_load_mid 42 _ rfl b1 (f1 + c * 13) (by rfl) _ _ g1 Tryz.underlying42 (by rfl) Tryz.infoSl ?_
    exact hK _ _ ⟨v6, v7, (by simp [Act.put, cU_y, d3]), hB, h12, h13, h10, h11, hne⟩
   | 5, _ =>
    refine wpOp_plain rfl (fun _ => rfl) fun K hK => ?_
    go_simp
    exact hK _ _ ⟨v6, v7, by simp only [Nat.reduceBEq, Bool.false_or, Bool.true_or, cU_y], hB, h12, h13, h10, h11, hne⟩
   | 6, _ =>
    have d5 := hd.dep 5 (by kernel_rfl)
    refine wpOp_plain rfl (fun _ => rfl) fun K hK => ?_
    simp only [d5, cU_y]
    go_simp
    exact hK _ _ ⟨v6, v7, by simp only [Nat.reduceBEq, Bool.false_or, Bool.true_or, cU_y, d5], hB, h12, h13, h10, h11, hne⟩
   | 7, _ =>
    refine wpOp_plain rfl (fun _ => rfl) fun K hK => ?_
    go_simp
    exact hK _ _ ⟨v6, v7, by simp only [Nat.reduceBEq, Bool.false_or, Bool.true_or, cU_y], hB, h12, h13, h10, h11, hne⟩
   | 8, _ =>
    have d6 := hd.dep 6 (by kernel_rfl)
    have d7 := hd.dep 7 (by kernel_rfl)
    refine wpOp_plain rfl (fun _ => rfl) fun K hK => ?_
    simp only [d6, d7, cU_y]
    go_simp
    exact hK _ _ ⟨v6, v7, by simp only [Nat.reduceBEq, Bool.false_or, Bool.true_or, cU_y, d6, d7], hB, h12, h13, h10, h11, hne⟩
   | 9, _ =>
    have d8 := hd.dep 8 (by kernel_rfl)
    refine wpOp_plain rfl (fun _ => rfl) fun K hK => ?_
    simp only [d8, cU_y]
    refine wp_load_mid 42 _ rfl b2 (f2 + c * 13) (by rfl) _ _ g2 Tryz.underlying42 (by rfl) Tryz.infoSl ?_
    exact hK _ _ ⟨v6, v7, (by simp [Act.put, cU_y, d8]), hB, h12, h13, h10, h11, hne⟩
   | 10, _ =>
    refine wpOp_plain rfl (fun _ => rfl) fun K hK => ?_
    go_simp
    refine hK _ _ ⟨_, v7, rfl, hB.alloc hB.size _, (fun _ => rfl), h13, (fun _ => ⟨_, rfl, hB.size, by simp, (fun _ => Row.new W _ _), fun h => ?_⟩), (fun h => ?_), fun _ h e => ?_⟩
    ·have h9 := h12 h; rw [hl] at h9; cases h9
    ·obtain ⟨X, e, x1, x2, x3, x4⟩ := h11 h
     exact ⟨X, e, x1, by simp; omega, (fun h => (x3 h).alloc _), fun h => (x4 h).alloc _⟩
    ·obtain ⟨X, e2, x1, x2, _, _⟩ := h11 h
     rw [e2] at e
     simp at e
     try omega
   | 11, _ =>
    refine wpOp_plain rfl (fun _ => rfl) fun K hK => ?_
    go_simp
    refine hK _ _ ⟨v6, _, rfl, hB.alloc hB.size _, h12, (fun _ => rfl), (fun h => ?_), (fun _ => ⟨_, rfl, hB.size, by simp, (fun _ => Row.new W _ _), fun h => ?_⟩), fun h _ e => ?_⟩
    ·obtain ⟨X, e, x1, x2, x3, x4⟩ := h10 h
     exact ⟨X, e, x1, by simp; omega, (fun h => (x3 h).alloc _), fun h => (x4 h).alloc _⟩
    ·have h9 := h13 h; rw [hl] at h9; cases h9
    ·obtain ⟨X, e2, x1, x2, _, _⟩ := h10 h
     rw [e2] at e
     simp at e
     try omega
   | 12, _ =>
    have d10 := hd.dep 10 (by kernel_rfl)
    have d4 := hd.dep 4 (by kernel_rfl)
    obtain ⟨X, rfl, hX1, hX0, hX2, _⟩ := h10 d10
    have hX2 := hX2 hl
    refine wpOp_plain rfl (fun _ => rfl) fun K hK => ?_
    simp only [d4, cU_y]
    refine wp_store_row 42 _ _ rfl X (slC s (.slice i6 s.p.m j6) (.slice i11 s.ze.length j11) (.slice i12 s.zr.length j12)) (by rfl) (by rfl) 42 #[.string ⟨#[]⟩, .string ⟨#[]⟩, .int .i64 0, .int .i64 0, .int .i64 0, .string ⟨#[]⟩, .slice none 0 0, .bool false, .bool false, .bool false, .bool false, .slice none 0 0, .slice none 0 0] hX2 Tryz.infoSl rfl (by simp [Value.oneCell']) ?_
    refine hK _ _ ⟨_, _, (by simp [Act.put, cU_y, d4]), belowSetRow hB hX1 _, (fun _ => d10), h13, (fun _ => ⟨X, rfl, hX1, by simpa using hX0, (fun h => by cases h), fun _ => hX2.row⟩), (fun h => ?_), hne⟩
    obtain ⟨Z, e, x1, x2, x3, x4⟩ := h11 h
    have hZ : Z ≠ X := fun k => hne d10 h (by rw [e, k])
    exact ⟨Z, e, x1, by simpa using x2, (fun h => (x3 h).otherRow hZ), fun h => (x4 h).otherRow hZ⟩
   | 13, _ =>
    have d11 := hd.dep 11 (by kernel_rfl)
    have d9 := hd.dep 9 (by kernel_rfl)
    obtain ⟨X, rfl, hX1, hX0, hX2, _⟩ := h11 d11
    have hX2 := hX2 hl
    refine wpOp_plain rfl (fun _ => rfl) fun K hK => ?_
    simp only [d9, cU_y]
    refine wp_store_row 42 _ _ rfl X (slC s (.slice k6 s.p.m l6) (.slice k11 s.ze.length l11) (.slice k12 s.zr.length l12)) (by rfl) (by rfl) 42 #[.string ⟨#[]⟩, .string ⟨#[]⟩, .int .i64 0, .int .i64 0, .int .i64 0, .string ⟨#[]⟩, .slice none 0 0, .bool false, .bool false, .bool false, .bool false, .slice none 0 0, .slice none 0 0] hX2 Tryz.infoSl rfl (by simp [Value.oneCell']) ?_
    refine hK _ _ ⟨_, _, (by simp [Act.put, cU_y, d9]), belowSetRow hB hX1 _, h12, (fun _ => d11), (fun h => ?_), (fun _ => ⟨X, rfl, hX1, by simpa using hX0, (fun h => by cases h), fun _ => hX2.row⟩), hne⟩
    obtain ⟨Z, e, x1, x2, x3, x4⟩ := h10 h
    have hZ : Z ≠ X := fun k => hne h d11 (by rw [e, k])
    exact ⟨Z, e, x1, by simpa using x2, (fun h => (x3 h).otherRow hZ), fun h => (x4 h).otherRow hZ⟩
   | n9 + 14, h => exact absurd h (by simp)
  ·intro L a W hall hI
   obtain ⟨v6, v7, rfl, hB, h12, h13, h10, h11, hne⟩ := hI
   have e0 := hall 0 (by decide)
   have e1 := hall 1 (by decide)
   have e2 := hall 2 (by decide)
   have e3 := hall 3 (by decide)
   have e4 := hall 4 (by decide)
   have e5 := hall 5 (by decide)
   have e6 := hall 6 (by decide)
   have e7 := hall 7 (by decide)
   have e8 := hall 8 (by decide)
   have e9 := hall 9 (by decide)
   have e10 := hall 10 (by decide)
   have e11 := hall 11 (by decide)
   have e12 := hall 12 (by decide)
   have e13 := hall 13 (by decide)
   obtain ⟨X, rfl, _, _, _, x4⟩ := h10 e10
   obtain ⟨Y, rfl, _, _, _, y4⟩ := h11 e11
   simp only [e0, e1, e2, e3, e4, e5, e6, e7, e8, e9, cU_y]
   exact (HRR.out _ _).2 ⟨X, Y, rfl, x4 e12, y4 e13, hB⟩
end Go.Proofs.YtcaejlalnjnifaaGreat
