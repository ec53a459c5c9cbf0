/- For every input: a node stays right whatever it hears; what it says is its own, to all; it echoes a root and is ready for it once, and is done with it for good; the program answers as its model does. No condition. -/
import Derived.Test.YtcaejlalnjnifaaGreatA46
import Derived.Test.YtcaejlalnjnifaaGreatA44
import Derived.Test.YtcaejlalnjnifaaGreatA39
import Derived.Test.YtcaejlalnjnifaaGreatA35
import Derived.Test.YtcaejlalnjnifaaGreatA34
import Derived.Test.YtcaejlalnjnifaaGreatA36
import Derived.Test.YtcaejlalnjnifaaGreatA42
import Derived.Test.YtcaejlalnjnifaaGreatA8
import Derived.Test.YtcaejlalnjnifaaGreatA6
import Derived.Test.YtcaejlalnjnifaaGreatRows
import Derived.Deep.CutRange
import Derived.Lib.QuietBelow
import Derived.BigQuiet
set_option maxHeartbeats 8000000
set_option maxRecDepth 2000
namespace Go.Proofs.YtcaejlalnjnifaaGreat
set_option maxRecDepth 2000
open Go.ChangeShapes Go.WideShapes Go.ChangeAt Go.RowKit Go.Sort
theorem walk_FnNode (a0 : Option Addr) (len0 cap0 : Nat) (z0 : List Int) (w : World) (w0 : IsRow .u8 w a0 len0 cap0 z0) :
  Calls Tryz.prog 3 #[.slice a0 len0 cap0] w fun e w' => e = .returned (.bool true) ∧ Below w.heap.size w w' := by
 by_cases h0 : 1048576 < len0
 ·clear w0
  have h0' : (1048576 : Int) < (len0 : Int) := by omega
  go_enter Tryz.func3, Tryz.ntmps3
  go_wp2_with (go_at_call 7; refine (big_any _ _ _ _).mono ?_; rintro e w' ⟨rfl, rfl⟩)
  go_ret
  exact ⟨rfl, Below.refl _ _⟩
 have hc := w0.code (by omega)
 clear w0
 have h0' : ¬ (1048576 : Int) < (len0 : Int) := by omega
 go_enter Tryz.func3, Tryz.ntmps3
 go_wp2_with fail
 refine (big_any _ _ _ _).mono ?_
 rintro e w' ⟨rfl, hw⟩
 obtain rfl := hw.symm
 clear hw
 go_wp2_with fail
 refine (drawNodeHear_any _ _ _ _ hc).mono ?_
 rintro e v1 ⟨id, f, m, S, va, vc, y, a9, c9, rfl, hA, hS, hm, hy, hT, b1⟩
 have HB : Hid (NhB m S y) := ⟨by omega, fun i hi => (hS i hi).2, by have := hy.r; omega, by have := hy.m; omega, by have := hy.pr; omega, by have := hy.pb; omega, fun i hi => by have := hy.s i hi; omega⟩
 have HHE : Hid (∀ i, i < m → (S i).h = (S i).e) := fun i hi => (hS i hi).1
 have HSK : Hid (∀ i, i < m → SlK (S i)) := fun i hi => (hS i hi).2
 have hm64 : m ≤ 64 := hm
 have HYr : Hid (y.r.size ≤ 4096) := hy.r
 obtain ⟨X3, HX3⟩ : ∃ x, Hid (x = v1.heap.size) := ⟨_, rfl⟩
 obtain ⟨X4, HX4⟩ : ∃ x, Hid (x = v1.heap.size + 1) := ⟨_, rfl⟩
 obtain ⟨v2, HV2⟩ : ∃ x, Hid (x = (v1.alloc (.cells #[.int .i64 id, .int .i64 f, .slice va m vc] 26)).alloc (.cells (syC y (.slice a9 y.p.m c9)) 31)) := ⟨_, rfl⟩
 have b2 : Below v1.heap.size v1 v2 := by rw [HV2.out]; exact ((Below.refl _ _).alloc (Nat.le_refl _) _).alloc (by simp) _
 have r3 : Row v2 X3 26 #[.int .i64 id, .int .i64 f, .slice va m vc] := by rw [HV2.out, HX3.out]; exact (Row.new v1 _ _).below ((Below.refl _ _).alloc (Nat.le_refl _) _) (by simp)
 have r4 : Row v2 X4 31 (syC y (.slice a9 y.p.m c9)) := by rw [HV2.out, HX4.out]; have := Row.new (v1.alloc (.cells #[.int .i64 id, .int .i64 f, .slice va m vc] 26)) (syC y (.slice a9 y.p.m c9)) 31; simpa using this
 have K1 : Hid (Sure v2 (fun W => Below w.heap.size w W ∧ Rd W (slsD m S) (.slice va m vc) ∧ TxtAt W a9 y.p.m y.p.S ∧ Row W X3 26 #[.int .i64 id, .int .i64 f, .slice va m vc] ∧ Row W X4 31 (syC y (.slice a9 y.p.m c9)))) := fun W hW => by
  exact ⟨below2 (below2 b1 b2) hW, (hA.below b2).below hW, (hT.below b2).below hW, r3.below hW r3.lt, r4.below hW r4.lt⟩
 obtain ⟨N1, HN1⟩ : ∃ x, Hid (nhN id f m S y = x) := ⟨_, rfl⟩
 obtain ⟨S1, HS1⟩ : ∃ x, Hid (nhS id f m S y = x) := ⟨_, rfl⟩
 obtain ⟨M, HM⟩ : ∃ x, Hid (nhM id f m S y = x) := ⟨_, rfl⟩
 obtain ⟨Y, HY⟩ : ∃ x, Hid (nhY id f m S y = x) := ⟨_, rfl⟩
 obtain ⟨nd, HND⟩ : ∃ x, Hid (ndB id f m S = x) := ⟨_, rfl⟩
 have HL : Hid (N1 ≤ 1048576 ∧ M ≤ 10 ∧ (∀ i, (Y i).p.m = 0) ∧ (∀ i, i < N1 → SlK (S1 i))) := by
  have h1 := nh_little (id := id) (f := f) HB.out
  have h2 := nh_slk (id := id) (f := f) HB.out
  rw [HN1.out, HS1.out, HM.out, HY.out] at h1
  rw [HN1.out, HS1.out] at h2
  exact ⟨h1.n, h1.m, h1.p, h2⟩
 clear b1 b2 r3 r4 hA hT hS hm hy hc h0 h0'
 go_upto_region 4 with fail
 rw [← HV2.out, ← HX4.out, ← HX3.out]
 have RX3 : Hid (Row v2 X3 26 #[.int .i64 id, .int .i64 f, .slice va m vc]) := K1.out.now.2.2.2.1
 have RX4 : Hid (Row v2 X4 31 (syC y (.slice a9 y.p.m c9))) := K1.out.now.2.2.2.2
 have KH : Hid (Calls Tryz.prog 9 #[ndV id f (.slice va m vc), syV y (.slice a9 y.p.m c9)] v2 fun e w' => NhA v2 w' id f N1 S1 M Y e) := by
  have := nodeHear_any id f va m vc S y a9 c9 v2 K1.out.now.2.1 K1.out.now.2.2.1 HB.out
  rw [HN1.out, HS1.out, HM.out, HY.out] at this
  exact this
 go_wp2_with (first | (refine wpList_load_row (by rfl) 26 _ (by rfl) X3 (by rfl) 26 #[.int .i64 id, .int .i64 f, .slice va m vc] (0, 0) _ ?_ Tryz.underlying26 (by rfl) Tryz.infoNd ?_; exact RX3.out) | (refine wpList_load_row (by rfl) 31 _ (by rfl) X4 (by rfl) 31 (syC y (.slice a9 y.p.m c9)) (0, 0) _ ?_ Tryz.underlying31 (by rfl) Tryz.infoSy ?_; exact RX4.out))
 refine Calls.mono (KH.out) ?_
 rintro e v3 ⟨gH, cH, sa, sc, F1, F2, rfl, o1, o2, _, b3⟩
 have K2 : Hid (Sure v3 (fun W => Below w.heap.size w W ∧ Rd W (slsD m S) (.slice va m vc) ∧ TxtAt W a9 y.p.m y.p.S ∧ Row W X3 26 #[.int .i64 id, .int .i64 f, .slice va m vc] ∧ Row W X4 31 (syC y (.slice a9 y.p.m c9)) ∧ Rd W (slsD N1 S1) (.slice (some ⟨gH, 0, none⟩) N1 cH) ∧ Rd W (sysD M Y) (.slice sa M sc))) := fun W hW => by
  have h9 := K1.out W (below2 b3 hW)
  exact ⟨h9.1, h9.2.1, h9.2.2.1, h9.2.2.2.1, h9.2.2.2.2, o1.rd.below hW, o2.rd.below hW⟩
 clear K1
 clear b3 o1 o2 KH RX3 RX4
 obtain ⟨X5, HX5⟩ : ∃ x, Hid (x = v3.heap.size) := ⟨_, rfl⟩
 obtain ⟨v4, Hv4⟩ : ∃ x, Hid (x = v3.alloc (.cells #[.int .i64 id, .int .i64 f, .slice (some ⟨gH, 0, none⟩) N1 cH] 26)) := ⟨_, rfl⟩
 have bX5 : Below v3.heap.size v3 v4 := by rw [Hv4.out]; exact (Below.refl _ _).alloc (Nat.le_refl _) _
 have rX5 : Row v4 X5 26 #[.int .i64 id, .int .i64 f, .slice (some ⟨gH, 0, none⟩) N1 cH] := by rw [Hv4.out, HX5.out]; exact Row.new v3 _ _
 have K3 : Hid (Sure v4 (fun W => Below w.heap.size w W ∧ Rd W (slsD m S) (.slice va m vc) ∧ TxtAt W a9 y.p.m y.p.S ∧ Row W X3 26 #[.int .i64 id, .int .i64 f, .slice va m vc] ∧ Row W X4 31 (syC y (.slice a9 y.p.m c9)) ∧ Rd W (slsD N1 S1) (.slice (some ⟨gH, 0, none⟩) N1 cH) ∧ Rd W (sysD M Y) (.slice sa M sc) ∧ Row W X5 26 #[.int .i64 id, .int .i64 f, .slice (some ⟨gH, 0, none⟩) N1 cH])) := fun W hW => by
  have h9 := K2.out W (below2 bX5 hW)
  exact ⟨h9.1, h9.2.1, h9.2.2.1, h9.2.2.2.1, h9.2.2.2.2.1, h9.2.2.2.2.2.1, h9.2.2.2.2.2.2, rX5.below hW rX5.lt⟩
 clear K2
 clear bX5 rX5
 go_upto_region 5 with fail
 rw [← Hv4.out, ← HX5.out]
 have RX3 : Hid (Row v4 X3 26 #[.int .i64 id, .int .i64 f, .slice va m vc]) := K3.out.now.2.2.2.1
 have RX4 : Hid (Row v4 X4 31 (syC y (.slice a9 y.p.m c9))) := K3.out.now.2.2.2.2.1
 have KH : Hid (Calls Tryz.prog 10 #[ndV id f (.slice va m vc), syV y (.slice a9 y.p.m c9)] v4 fun e w' => NhR v4 w' id f N1 S1 M Y e) := by
  have := sNodeHear_any id f va m vc S y a9 c9 v4 K3.out.now.2.1 K3.out.now.2.2.1 HB.out
  rw [HN1.out, HS1.out, HM.out, HY.out] at this
  exact this
 go_wp2_with (first | (refine wpList_load_row (by rfl) 26 _ (by rfl) X3 (by rfl) 26 #[.int .i64 id, .int .i64 f, .slice va m vc] (0, 0) _ ?_ Tryz.underlying26 (by rfl) Tryz.infoNd ?_; exact RX3.out) | (refine wpList_load_row (by rfl) 31 _ (by rfl) X4 (by rfl) 31 (syC y (.slice a9 y.p.m c9)) (0, 0) _ ?_ Tryz.underlying31 (by rfl) Tryz.infoSy ?_; exact RX4.out))
 refine Calls.mono (KH.out) ?_
 rintro e v5 ⟨a8, c8, sa8, sc8, rfl, o1, o2, b5, _⟩
 have K4 : Hid (Sure v5 (fun W => Below w.heap.size w W ∧ Rd W (slsD m S) (.slice va m vc) ∧ TxtAt W a9 y.p.m y.p.S ∧ Row W X3 26 #[.int .i64 id, .int .i64 f, .slice va m vc] ∧ Row W X4 31 (syC y (.slice a9 y.p.m c9)) ∧ Rd W (slsD N1 S1) (.slice (some ⟨gH, 0, none⟩) N1 cH) ∧ Rd W (sysD M Y) (.slice sa M sc) ∧ Row W X5 26 #[.int .i64 id, .int .i64 f, .slice (some ⟨gH, 0, none⟩) N1 cH] ∧ Rd W (slsD N1 S1) (.slice a8 N1 c8) ∧ Rd W (sysD M Y) (.slice sa8 M sc8))) := fun W hW => by
  have h9 := K3.out W (below2 b5 hW)
  exact ⟨h9.1, h9.2.1, h9.2.2.1, h9.2.2.2.1, h9.2.2.2.2.1, h9.2.2.2.2.2.1, h9.2.2.2.2.2.2.1, h9.2.2.2.2.2.2.2, o1.rd.below hW, o2.rd.below hW⟩
 clear K3
 clear b5 o1 o2 KH RX3 RX4
 obtain ⟨X7, HX7⟩ : ∃ x, Hid (x = v5.heap.size) := ⟨_, rfl⟩
 obtain ⟨v6, Hv6⟩ : ∃ x, Hid (x = v5.alloc (.cells #[.int .i64 id, .int .i64 f, .slice a8 N1 c8] 26)) := ⟨_, rfl⟩
 have bX7 : Below v5.heap.size v5 v6 := by rw [Hv6.out]; exact (Below.refl _ _).alloc (Nat.le_refl _) _
 have rX7 : Row v6 X7 26 #[.int .i64 id, .int .i64 f, .slice a8 N1 c8] := by rw [Hv6.out, HX7.out]; exact Row.new v5 _ _
 have K5 : Hid (Sure v6 (fun W => Below w.heap.size w W ∧ Rd W (slsD m S) (.slice va m vc) ∧ TxtAt W a9 y.p.m y.p.S ∧ Row W X3 26 #[.int .i64 id, .int .i64 f, .slice va m vc] ∧ Row W X4 31 (syC y (.slice a9 y.p.m c9)) ∧ Rd W (slsD N1 S1) (.slice (some ⟨gH, 0, none⟩) N1 cH) ∧ Rd W (sysD M Y) (.slice sa M sc) ∧ Row W X5 26 #[.int .i64 id, .int .i64 f, .slice (some ⟨gH, 0, none⟩) N1 cH] ∧ Rd W (slsD N1 S1) (.slice a8 N1 c8) ∧ Rd W (sysD M Y) (.slice sa8 M sc8) ∧ Row W X7 26 #[.int .i64 id, .int .i64 f, .slice a8 N1 c8])) := fun W hW => by
  have h9 := K4.out W (below2 bX7 hW)
  exact ⟨h9.1, h9.2.1, h9.2.2.1, h9.2.2.2.1, h9.2.2.2.2.1, h9.2.2.2.2.2.1, h9.2.2.2.2.2.2.1, h9.2.2.2.2.2.2.2.1, h9.2.2.2.2.2.2.2.2.1, h9.2.2.2.2.2.2.2.2.2, rX7.below hW rX7.lt⟩
 clear K4
 clear bX7 rX7
 go_upto_region 6 with fail
 rw [← Hv6.out, ← HX7.out]
 have QX3 : Hid (Row v6 X3 26 #[.int .i64 id, .int .i64 f, .slice va m vc]) := K5.out.now.2.2.2.1
 have qX3_0 := QX3.out.cell 0
 have qX3_1 := QX3.out.cell 1
 have qX3_2 := QX3.out.cell 2
 simp at qX3_0 qX3_1 qX3_2
 have ZX3_0 : ∀ d os, (grow (redrawn v6 d) os).cell? ⟨X3, 0, none⟩ = _ := fun d os => cell_regrown qX3_0 d os
 have ZX3_1 : ∀ d os, (grow (redrawn v6 d) os).cell? ⟨X3, 1, none⟩ = _ := fun d os => cell_regrown qX3_1 d os
 have ZX3_2 : ∀ d os, (grow (redrawn v6 d) os).cell? ⟨X3, 2, none⟩ = _ := fun d os => cell_regrown qX3_2 d os
 have QX5 : Hid (Row v6 X5 26 #[.int .i64 id, .int .i64 f, .slice (some ⟨gH, 0, none⟩) N1 cH]) := K5.out.now.2.2.2.2.2.2.2.1
 have qX5_0 := QX5.out.cell 0
 have qX5_1 := QX5.out.cell 1
 have qX5_2 := QX5.out.cell 2
 simp at qX5_0 qX5_1 qX5_2
 have ZX5_0 : ∀ d os, (grow (redrawn v6 d) os).cell? ⟨X5, 0, none⟩ = _ := fun d os => cell_regrown qX5_0 d os
 have ZX5_1 : ∀ d os, (grow (redrawn v6 d) os).cell? ⟨X5, 1, none⟩ = _ := fun d os => cell_regrown qX5_1 d os
 have ZX5_2 : ∀ d os, (grow (redrawn v6 d) os).cell? ⟨X5, 2, none⟩ = _ := fun d os => cell_regrown qX5_2 d os
 have QX7 : Hid (Row v6 X7 26 #[.int .i64 id, .int .i64 f, .slice a8 N1 c8]) := K5.out.now.2.2.2.2.2.2.2.2.2.2
 have qX7_0 := QX7.out.cell 0
 have qX7_1 := QX7.out.cell 1
 have qX7_2 := QX7.out.cell 2
 simp at qX7_0 qX7_1 qX7_2
 have ZX7_0 : ∀ d os, (grow (redrawn v6 d) os).cell? ⟨X7, 0, none⟩ = _ := fun d os => cell_regrown qX7_0 d os
 have ZX7_1 : ∀ d os, (grow (redrawn v6 d) os).cell? ⟨X7, 1, none⟩ = _ := fun d os => cell_regrown qX7_1 d os
 have ZX7_2 : ∀ d os, (grow (redrawn v6 d) os).cell? ⟨X7, 2, none⟩ = _ := fun d os => cell_regrown qX7_2 d os
 have J1 : ∀ d os, Calls Tryz.prog 11 #[.agg #[.int .i64 id, .int .i64 f, .slice (some ⟨gH, 0, none⟩) N1 cH], .agg #[.int .i64 id, .int .i64 f, .slice a8 N1 c8]] (grow (redrawn v6 d) os) fun e w' => e = .returned (.bool true) ∧ ∃ p : Regrown, w' = grow (redrawn v6 p.d) p.os := fun d os => Calls.regrown_of (sameNd_same id f (some ⟨gH, 0, none⟩) a8 N1 cH c8 S1 _ (K5.out _ (below_regrown v6 d os)).2.2.2.2.2.1 (K5.out _ (below_regrown v6 d os)).2.2.2.2.2.2.2.2.1 HL.out.1 (fun i hi => ⟨(HL.out.2.2.2 i hi).m, (HL.out.2.2.2 i hi).ne, (HL.out.2.2.2 i hi).nr⟩))
 have J2 : ∀ d os, Calls Tryz.prog 12 #[.slice sa M sc, .slice sa8 M sc8] (grow (redrawn v6 d) os) fun e w' => e = .returned (.bool true) ∧ ∃ p : Regrown, w' = grow (redrawn v6 p.d) p.os := fun d os => Calls.regrown_of (sameSys_same sa sa8 M sc sc8 Y _ (K5.out _ (below_regrown v6 d os)).2.2.2.2.2.2.1 (K5.out _ (below_regrown v6 d os)).2.2.2.2.2.2.2.2.2.1 (by have := HL.out.2.1; omega) (fun i _ => by rw [HL.out.2.2.1 i]; omega))
 have J3 : ∀ d os, Calls Tryz.prog 13 #[.agg #[.int .i64 id, .int .i64 f, .slice va m vc]] (grow (redrawn v6 d) os) fun e w' => e = .returned (.bool nd) ∧ ∃ p : Regrown, w' = grow (redrawn v6 p.d) p.os := fun d os => Calls.regrown_of (by have := nodeOk_any id f va m vc S _ (K5.out _ (below_regrown v6 d os)).2.1 (by omega) (fun i hi => (HSK.out i hi).ok); rw [HND.out] at this; exact this)
 have J4 : ∀ d os, Calls Tryz.prog 14 #[.agg #[.int .i64 id, .int .i64 f, .slice va m vc]] (grow (redrawn v6 d) os) fun e w' => e = .returned (.bool nd) ∧ ∃ p : Regrown, w' = grow (redrawn v6 p.d) p.os := fun d os => Calls.regrown_of (by have := sNodeOk_any id f va m vc S _ (K5.out _ (below_regrown v6 d os)).2.1 (by omega) (fun i hi => (HSK.out i hi).ok); rw [HND.out] at this; exact this)
 have hnn : (nd != nd) = false := by simp
 clear qX3_0 qX3_1 qX3_2 qX5_0 qX5_1 qX5_2 qX7_0 qX7_1 qX7_2
 refine wp_region_quiet_below (by kernel_rfl) (by kernel_rfl) ?_
 repeat (go_big_quiet_step (first | (with_reducible exact J1 _ _) | (with_reducible exact J2 _ _) | (with_reducible exact J3 _ _) | (with_reducible exact J4 _ _)))
 refine wpQuiet_nil ?_
 intro _ hw'
 obtain ⟨⟨dq, osq⟩, hw''⟩ := hw'
 obtain ⟨v7, HV7⟩ : ∃ x, Hid (x = grow (redrawn v6 dq) osq) := ⟨_, rfl⟩
 subst hw''
 have b7 : Below v6.heap.size v6 v7 := by rw [HV7.out]; exact below_regrown v6 dq osq
 have K6 : Hid (Sure v7 (fun W => Below w.heap.size w W ∧ Rd W (slsD m S) (.slice va m vc) ∧ TxtAt W a9 y.p.m y.p.S ∧ Row W X3 26 #[.int .i64 id, .int .i64 f, .slice va m vc] ∧ Row W X4 31 (syC y (.slice a9 y.p.m c9)) ∧ Rd W (slsD N1 S1) (.slice (some ⟨gH, 0, none⟩) N1 cH) ∧ Rd W (sysD M Y) (.slice sa M sc) ∧ Row W X5 26 #[.int .i64 id, .int .i64 f, .slice (some ⟨gH, 0, none⟩) N1 cH] ∧ Rd W (slsD N1 S1) (.slice a8 N1 c8) ∧ Rd W (sysD M Y) (.slice sa8 M sc8) ∧ Row W X7 26 #[.int .i64 id, .int .i64 f, .slice a8 N1 c8])) := fun W hW => by
  have h9 := K5.out W (below2 b7 hW)
  exact ⟨h9.1, h9.2.1, h9.2.2.1, h9.2.2.2.1, h9.2.2.2.2.1, h9.2.2.2.2.2.1, h9.2.2.2.2.2.2.1, h9.2.2.2.2.2.2.2.1, h9.2.2.2.2.2.2.2.2.1, h9.2.2.2.2.2.2.2.2.2.1, h9.2.2.2.2.2.2.2.2.2.2⟩
 clear K5
 clear b7 J1 J2 J3 J4 QX3 QX5 QX7 ZX3_0 ZX3_1 ZX3_2 ZX5_0 ZX5_1 ZX5_2 ZX7_0 ZX7_1 ZX7_2
 rw [← HV7.out]
 have RX3 : Hid (Row v7 X3 26 #[.int .i64 id, .int .i64 f, .slice va m vc]) := K6.out.now.2.2.2.1
 have KN : Hid (Calls Tryz.prog 14 #[ndV id f (.slice va m vc)] v7 fun e w' => e = .returned (.bool nd) ∧ Below v7.heap.size v7 w') := by have := sNodeOk_any id f va m vc S v7 K6.out.now.2.1 (by omega) (fun i hi => (HSK.out i hi).ok); rw [HND.out] at this; exact this
 go_wp2_with (refine wpList_load_row (by rfl) 26 _ (by rfl) X3 (by rfl) 26 #[.int .i64 id, .int .i64 f, .slice va m vc] (0, 0) _ ?_ Tryz.underlying26 (by rfl) Tryz.infoNd ?_; exact RX3.out)
 refine Calls.mono (KN.out) ?_
 rintro e v8 ⟨rfl, b8⟩
 have K7 : Hid (Sure v8 (fun W => Below w.heap.size w W ∧ Rd W (slsD m S) (.slice va m vc) ∧ TxtAt W a9 y.p.m y.p.S ∧ Row W X3 26 #[.int .i64 id, .int .i64 f, .slice va m vc] ∧ Row W X4 31 (syC y (.slice a9 y.p.m c9)) ∧ Rd W (slsD N1 S1) (.slice (some ⟨gH, 0, none⟩) N1 cH) ∧ Rd W (sysD M Y) (.slice sa M sc) ∧ Row W X5 26 #[.int .i64 id, .int .i64 f, .slice (some ⟨gH, 0, none⟩) N1 cH] ∧ Rd W (slsD N1 S1) (.slice a8 N1 c8) ∧ Rd W (sysD M Y) (.slice sa8 M sc8) ∧ Row W X7 26 #[.int .i64 id, .int .i64 f, .slice a8 N1 c8])) := fun W hW => by
  have h9 := K6.out W (below2 b8 hW)
  exact ⟨h9.1, h9.2.1, h9.2.2.1, h9.2.2.2.1, h9.2.2.2.2.1, h9.2.2.2.2.2.1, h9.2.2.2.2.2.2.1, h9.2.2.2.2.2.2.2.1, h9.2.2.2.2.2.2.2.2.1, h9.2.2.2.2.2.2.2.2.2.1, h9.2.2.2.2.2.2.2.2.2.2⟩
 clear K6
 clear b8 KN RX3
 have RX3 : Hid (Row v8 X3 26 #[.int .i64 id, .int .i64 f, .slice va m vc]) := K7.out.now.2.2.2.1
 have RX5 : Hid (Row v8 X5 26 #[.int .i64 id, .int .i64 f, .slice (some ⟨gH, 0, none⟩) N1 cH]) := K7.out.now.2.2.2.2.2.2.2.1
 cases nd with
 | false =>
  have KB8 : Hid (Below w.heap.size w v8) := K7.out.now.1
  have en : nhB id f m S y = false := by unfold nhB; rw [HND.out]; rfl
  have e1 : N1 = m := by rw [← HN1.out]; simp only [nhN, en]; rfl
  have e2 : S1 = S := by rw [← HS1.out]; simp only [nhS, en]; rfl
  have e3 : M = 0 := by rw [← HM.out]; simp only [nhM, en]; rfl
  subst e1 e2 e3
  have KS : Hid (Calls Tryz.prog 11 #[ndV id f (.slice (some ⟨gH, 0, none⟩) N1 cH), ndV id f (.slice va N1 vc)] v8 fun e w' => e = .returned (.bool true) ∧ Below v8.heap.size v8 w') := sameNd_same id f (some ⟨gH, 0, none⟩) va N1 cH vc S1 v8 K7.out.now.2.2.2.2.2.1 K7.out.now.2.1 HL.out.1 (fun i hi => ⟨(HL.out.2.2.2 i hi).m, (HL.out.2.2.2 i hi).ne, (HL.out.2.2.2 i hi).nr⟩)
  go_wp2_with (first | (refine wpList_load_row (by rfl) 26 _ (by rfl) X5 (by rfl) 26 #[.int .i64 id, .int .i64 f, .slice (some ⟨gH, 0, none⟩) N1 cH] (0, 0) _ ?_ Tryz.underlying26 (by rfl) Tryz.infoNd ?_; exact RX5.out) | (refine wpList_load_row (by rfl) 26 _ (by rfl) X3 (by rfl) 26 #[.int .i64 id, .int .i64 f, .slice va N1 vc] (0, 0) _ ?_ Tryz.underlying26 (by rfl) Tryz.infoNd ?_; exact RX3.out))
  refine Calls.mono (KS.out) ?_
  rintro e v9 ⟨rfl, b9⟩
  have KF : Hid (Below w.heap.size w v9) := below2 KB8.out b9
  clear b9
  go_wp2
  go_ret
  exact ⟨rfl, KF.out⟩
 | true =>
  have HP : Hid (NdP id f m S) := ndP_of HND.out
  have hf := seB_f HP.out.1
  have HSy : Hid (∀ i, i < M → (Y i).f = id ∧ (Y i).r = y.r ∧ (Y i).k ≠ 0 ∧ (Y i).t = (i : Int) ∧ (i : Int) < 3 * f + 1) := fun i hi => by
   have := nh_says HP.out (y := y) (i := i) (by rw [HM.out]; exact hi)
   rw [HY.out] at this
   exact this
  have M10 : M ≤ 10 := HL.out.2.1
  have e3 : IntKind.i64.wrap (3 * f) = 3 * f := by rw [IntKind.wrap_i64]; omega
  have e31 : IntKind.i64.wrap (3 * f + 1) = 3 * f + 1 := by rw [IntKind.wrap_i64]; omega
  go_wp2_with fail
  go_loopw [9] (fun vi wr => ∃ k : Nat, k ≤ M ∧ vi = .int .i64 (k : Int) ∧ Hid (Below v8.heap.size v8 wr)) (fun vi _ => M - (intOf vi).toNat)
  case atStart => exact ⟨0, Nat.zero_le _, rfl, Below.refl _ _⟩
  case round =>
   obtain ⟨k, hk, rfl, HI⟩ := hrel
   by_cases hlt : k < M
   ·have hki : (k : Int) < (M : Int) := by omega
    have hk0 : (0 : Int) ≤ (k : Int) := by omega
    obtain ⟨q1, q2, q3, q4, q5⟩ := HSy.out k hlt
    obtain ⟨bb, fb, an, cn, esa, RG, _⟩ := say_at (K7.out wr HI.out).2.2.2.2.2.2.1 hlt
    subst esa
    have RX3w := (K7.out wr HI.out).2.2.2.1
    have RX4w := (K7.out wr HI.out).2.2.2.2.1
    have t3 := RX3w.cell 0
    have t31 := RX3w.cell 1
    have t4 := RX4w.cell 3
    simp at t3 t31 t4
    have g0 := RG 0 _ rfl
    have g1 := RG 1 _ rfl
    have g2 := RG 2 _ rfl
    have g3 := RG 3 _ rfl
    rw [q1] at g1
    rw [q4] at g2
    rw [q2] at g3
    obtain ⟨yk, HYk⟩ : ∃ x, Hid ((Y k).k = x) := ⟨_, rfl⟩
    rw [HYk.out] at g0 q3
    have g0 : wr.cell? ⟨bb, fb + k * 10, none⟩ = some (.int .i64 yk) := g0
    have u1 : (id != id) = false := by simp
    have u2 : (y.r.toList != y.r.toList) = false := by simp
    have u3 : (yk == 0) = false := by simpa using q3
    have u4 : ((k : Int) != (k : Int)) = false := by simp
    have u5 : (k : Int) % (3 * f + 1) = (k : Int) := Int.emod_eq_of_lt hk0 q5
    have u6 : (k : Int).tmod (3 * f + 1) = (k : Int) := by rw [Int.tmod_eq_emod_of_nonneg hk0]; exact u5
    have u7 : ((3 * f + 1 : Int) == 0) = false := by simp; omega
    have KBi : Hid (Below v8.heap.size v8 wr) := HI.out
    clear RG RX3w RX4w q1 q2 q3 q4 HYk HI
    go_wp2_with fail
    go_quiet (fail)
    all_goals
     go_wp2_with fail
     go_roundw
     case rel => exact ⟨k + 1, by omega, by go_num, below2 KBi.out (below_drewN (Below.refl _ _) _)⟩
     case measure => simp [intOf]; omega
   ·have b9 : Below v8.heap.size v8 wr := HI.out
    have hke : M = k := by omega
    subst hke
    have nlt : ¬ ((M : Int) < (M : Int)) := by omega
    obtain ⟨v9, hv9⟩ : ∃ x, x = wr := ⟨_, rfl⟩
    subst hv9
    have K8 : Hid (Sure v9 (fun W => Below w.heap.size w W ∧ Rd W (slsD m S) (.slice va m vc) ∧ TxtAt W a9 y.p.m y.p.S ∧ Row W X3 26 #[.int .i64 id, .int .i64 f, .slice va m vc] ∧ Row W X4 31 (syC y (.slice a9 y.p.m c9)) ∧ Rd W (slsD N1 S1) (.slice (some ⟨gH, 0, none⟩) N1 cH) ∧ Rd W (sysD M Y) (.slice sa M sc) ∧ Row W X5 26 #[.int .i64 id, .int .i64 f, .slice (some ⟨gH, 0, none⟩) N1 cH] ∧ Rd W (slsD N1 S1) (.slice a8 N1 c8) ∧ Rd W (sysD M Y) (.slice sa8 M sc8) ∧ Row W X7 26 #[.int .i64 id, .int .i64 f, .slice a8 N1 c8])) := fun W hW => by
     have h9 := K7.out W (below2 b9 hW)
     exact ⟨h9.1, h9.2.1, h9.2.2.1, h9.2.2.2.1, h9.2.2.2.2.1, h9.2.2.2.2.2.1, h9.2.2.2.2.2.2.1, h9.2.2.2.2.2.2.2.1, h9.2.2.2.2.2.2.2.2.1, h9.2.2.2.2.2.2.2.2.2.1, h9.2.2.2.2.2.2.2.2.2.2⟩
    clear K7
    clear b9 HI RX3 RX5
    have RX3 : Hid (Row v9 X3 26 #[.int .i64 id, .int .i64 f, .slice va m vc]) := K8.out.now.2.2.2.1
    have RX4 : Hid (Row v9 X4 31 (syC y (.slice a9 y.p.m c9))) := K8.out.now.2.2.2.2.1
    have x4_3 := RX4.out.cell 3
    simp at x4_3
    obtain ⟨T0, HT0⟩ : ∃ x, Hid (soS S y.r m = x) := ⟨_, rfl⟩
    obtain ⟨T1, HT1⟩ : ∃ x, Hid (soS S1 y.r N1 = x) := ⟨_, rfl⟩
    obtain ⟨s0, Hs0⟩ : ∃ x, Hid (soB S y.r m = x) := ⟨_, rfl⟩
    obtain ⟨s1, Hs1⟩ : ∃ x, Hid (soB S1 y.r N1 = x) := ⟨_, rfl⟩
    have HLaw : Hid (M = saidN T0 T1 * nAll f ∧ (T0.o = true → T1.o = true) ∧ (T0.h = true → T1.h = true ∧ T1.p = T0.p) ∧ N1 ≤ m + 1) := by
     have h1 := nh_law HP.out (y := y) HHE.out
     rw [HM.out, HN1.out, HS1.out, HT0.out, HT1.out] at h1
     exact h1
    have HT0K : Hid (T0.p.m ≤ 1048576) := by
     show T0.p.m ≤ 1048576
     rw [← HT0.out]
     unfold soS
     cases e9 : plc S y.r m with
     | none => simp [slZ]
     | some x => obtain ⟨_, hx, _, _⟩ := plF_some e9; exact (HSK.out x (by omega)).m
    have HAg : Hid (nhN id f N1 S1 y = N1 ∧ (∀ i, i < N1 → nhS id f N1 S1 y i = S1 i) ∧ nhM id f N1 S1 y = 0 ∧ NdP id f N1 S1) := by
     have h1 := nh_again HP.out (y := y)
     have h2 := nh_ok HP.out (y := y)
     rw [HN1.out, HS1.out] at h1 h2
     exact ⟨h1.1, h1.2.1, h1.2.2, h2⟩
    have HB1 : Hid (NhB N1 S1 y) := ⟨HL.out.1, HL.out.2.2.2, HB.out.r, HB.out.m, HB.out.pr, HB.out.pb, HB.out.ps⟩
    have KS : Hid (Calls Tryz.prog 15 #[ndV id f (.slice va m vc), .string y.r] v9 fun e w' => ∃ (a6 a11 a12 : Option Addr) (c6 c11 c12 : Nat) (F6 F11 F12 : Nat → Prop), e = .returned (.tuple #[slV T0 (.slice a6 T0.p.m c6) (.slice a11 T0.ze.length c11) (.slice a12 T0.zr.length c12), .bool s0]) ∧ SlO w' v9.heap.size T0 (.slice a6 T0.p.m c6) (.slice a11 T0.ze.length c11) (.slice a12 T0.zr.length c12) F6 F11 F12 ∧ Below v9.heap.size v9 w') := by
     have := slotOf_any id f va m vc S y.r v9 K8.out.now.2.1 (by omega) (HSK.out)
     rw [HT0.out, Hs0.out] at this
     exact this
    go_wp2_with (refine wpList_load_row (by rfl) 26 _ (by rfl) X3 (by rfl) 26 #[.int .i64 id, .int .i64 f, .slice va m vc] (0, 0) _ ?_ Tryz.underlying26 (by rfl) Tryz.infoNd ?_; exact RX3.out)
    refine Calls.mono (KS.out) ?_
    rintro e v10 ⟨a6, a11, a12, c6, c11, c12, F6, F11, F12, rfl, o6, b10⟩
    have K9 : Hid (Sure v10 (fun W => Below w.heap.size w W ∧ Rd W (slsD m S) (.slice va m vc) ∧ TxtAt W a9 y.p.m y.p.S ∧ Row W X3 26 #[.int .i64 id, .int .i64 f, .slice va m vc] ∧ Row W X4 31 (syC y (.slice a9 y.p.m c9)) ∧ Rd W (slsD N1 S1) (.slice (some ⟨gH, 0, none⟩) N1 cH) ∧ Rd W (sysD M Y) (.slice sa M sc) ∧ Row W X5 26 #[.int .i64 id, .int .i64 f, .slice (some ⟨gH, 0, none⟩) N1 cH] ∧ Rd W (slsD N1 S1) (.slice a8 N1 c8) ∧ Rd W (sysD M Y) (.slice sa8 M sc8) ∧ Row W X7 26 #[.int .i64 id, .int .i64 f, .slice a8 N1 c8] ∧ TxtAt W a6 T0.p.m T0.p.S)) := fun W hW => by
     have h9 := K8.out W (below2 b10 hW)
     exact ⟨h9.1, h9.2.1, h9.2.2.1, h9.2.2.2.1, h9.2.2.2.2.1, h9.2.2.2.2.2.1, h9.2.2.2.2.2.2.1, h9.2.2.2.2.2.2.2.1, h9.2.2.2.2.2.2.2.2.1, h9.2.2.2.2.2.2.2.2.2.1, h9.2.2.2.2.2.2.2.2.2.2, (rd_txt.1 o6.t.rd).below hW⟩
    clear K8
    clear b10 o6 KS RX3 RX4 x4_3
    obtain ⟨X10, HX10⟩ : ∃ x, Hid (x = v10.heap.size) := ⟨_, rfl⟩
    obtain ⟨v11, Hv11⟩ : ∃ x, Hid (x = v10.alloc (.cells (slC T0 (.slice a6 T0.p.m c6) (.slice a11 T0.ze.length c11) (.slice a12 T0.zr.length c12)) 42)) := ⟨_, rfl⟩
    have bX10 : Below v10.heap.size v10 v11 := by rw [Hv11.out]; exact (Below.refl _ _).alloc (Nat.le_refl _) _
    have rX10 : Row v11 X10 42 (slC T0 (.slice a6 T0.p.m c6) (.slice a11 T0.ze.length c11) (.slice a12 T0.zr.length c12)) := by rw [Hv11.out, HX10.out]; exact Row.new v10 _ _
    have K10 : Hid (Sure v11 (fun W => Below w.heap.size w W ∧ Rd W (slsD m S) (.slice va m vc) ∧ TxtAt W a9 y.p.m y.p.S ∧ Row W X3 26 #[.int .i64 id, .int .i64 f, .slice va m vc] ∧ Row W X4 31 (syC y (.slice a9 y.p.m c9)) ∧ Rd W (slsD N1 S1) (.slice (some ⟨gH, 0, none⟩) N1 cH) ∧ Rd W (sysD M Y) (.slice sa M sc) ∧ Row W X5 26 #[.int .i64 id, .int .i64 f, .slice (some ⟨gH, 0, none⟩) N1 cH] ∧ Rd W (slsD N1 S1) (.slice a8 N1 c8) ∧ Rd W (sysD M Y) (.slice sa8 M sc8) ∧ Row W X7 26 #[.int .i64 id, .int .i64 f, .slice a8 N1 c8] ∧ TxtAt W a6 T0.p.m T0.p.S ∧ Row W X10 42 (slC T0 (.slice a6 T0.p.m c6) (.slice a11 T0.ze.length c11) (.slice a12 T0.zr.length c12)))) := fun W hW => by
     have h9 := K9.out W (below2 bX10 hW)
     exact ⟨h9.1, h9.2.1, h9.2.2.1, h9.2.2.2.1, h9.2.2.2.2.1, h9.2.2.2.2.2.1, h9.2.2.2.2.2.2.1, h9.2.2.2.2.2.2.2.1, h9.2.2.2.2.2.2.2.2.1, h9.2.2.2.2.2.2.2.2.2.1, h9.2.2.2.2.2.2.2.2.2.2.1, h9.2.2.2.2.2.2.2.2.2.2.2, rX10.below hW rX10.lt⟩
    clear K9
    clear bX10 rX10
    go_upto_region 16 with fail
    rw [← Hv11.out, ← HX10.out]
    have RX5 : Hid (Row v11 X5 26 #[.int .i64 id, .int .i64 f, .slice (some ⟨gH, 0, none⟩) N1 cH]) := K10.out.now.2.2.2.2.2.2.2.1
    have RX4 : Hid (Row v11 X4 31 (syC y (.slice a9 y.p.m c9))) := K10.out.now.2.2.2.2.1
    have x4_3 := RX4.out.cell 3
    simp at x4_3
    have KS : Hid (Calls Tryz.prog 15 #[ndV id f (.slice (some ⟨gH, 0, none⟩) N1 cH), .string y.r] v11 fun e w' => ∃ (a6 a11 a12 : Option Addr) (c6 c11 c12 : Nat) (F6 F11 F12 : Nat → Prop), e = .returned (.tuple #[slV T1 (.slice a6 T1.p.m c6) (.slice a11 T1.ze.length c11) (.slice a12 T1.zr.length c12), .bool s1]) ∧ SlO w' v11.heap.size T1 (.slice a6 T1.p.m c6) (.slice a11 T1.ze.length c11) (.slice a12 T1.zr.length c12) F6 F11 F12 ∧ Below v11.heap.size v11 w') := by
     have := slotOf_any id f (some ⟨gH, 0, none⟩) N1 cH S1 y.r v11 K10.out.now.2.2.2.2.2.1 (HL.out.1) (HL.out.2.2.2)
     rw [HT1.out, Hs1.out] at this
     exact this
    go_wp2_with (refine wpList_load_row (by rfl) 26 _ (by rfl) X5 (by rfl) 26 #[.int .i64 id, .int .i64 f, .slice (some ⟨gH, 0, none⟩) N1 cH] (0, 0) _ ?_ Tryz.underlying26 (by rfl) Tryz.infoNd ?_; exact RX5.out)
    refine Calls.mono (KS.out) ?_
    rintro e v12 ⟨a26, a31, a32, c26, c31, c32, G6, G11, G12, rfl, o6, b12⟩
    have K11 : Hid (Sure v12 (fun W => Below w.heap.size w W ∧ Rd W (slsD m S) (.slice va m vc) ∧ TxtAt W a9 y.p.m y.p.S ∧ Row W X3 26 #[.int .i64 id, .int .i64 f, .slice va m vc] ∧ Row W X4 31 (syC y (.slice a9 y.p.m c9)) ∧ Rd W (slsD N1 S1) (.slice (some ⟨gH, 0, none⟩) N1 cH) ∧ Rd W (sysD M Y) (.slice sa M sc) ∧ Row W X5 26 #[.int .i64 id, .int .i64 f, .slice (some ⟨gH, 0, none⟩) N1 cH] ∧ Rd W (slsD N1 S1) (.slice a8 N1 c8) ∧ Rd W (sysD M Y) (.slice sa8 M sc8) ∧ Row W X7 26 #[.int .i64 id, .int .i64 f, .slice a8 N1 c8] ∧ TxtAt W a6 T0.p.m T0.p.S ∧ Row W X10 42 (slC T0 (.slice a6 T0.p.m c6) (.slice a11 T0.ze.length c11) (.slice a12 T0.zr.length c12)) ∧ TxtAt W a26 T1.p.m T1.p.S)) := fun W hW => by
     have h9 := K10.out W (below2 b12 hW)
     exact ⟨h9.1, h9.2.1, h9.2.2.1, h9.2.2.2.1, h9.2.2.2.2.1, h9.2.2.2.2.2.1, h9.2.2.2.2.2.2.1, h9.2.2.2.2.2.2.2.1, h9.2.2.2.2.2.2.2.2.1, h9.2.2.2.2.2.2.2.2.2.1, h9.2.2.2.2.2.2.2.2.2.2.1, h9.2.2.2.2.2.2.2.2.2.2.2.1, h9.2.2.2.2.2.2.2.2.2.2.2.2, (rd_txt.1 o6.t.rd).below hW⟩
    clear K10
    clear b12 o6 KS RX5 RX4 x4_3
    obtain ⟨X12, HX12⟩ : ∃ x, Hid (x = v12.heap.size) := ⟨_, rfl⟩
    obtain ⟨v13, Hv13⟩ : ∃ x, Hid (x = v12.alloc (.cells (slC T1 (.slice a26 T1.p.m c26) (.slice a31 T1.ze.length c31) (.slice a32 T1.zr.length c32)) 42)) := ⟨_, rfl⟩
    have bX12 : Below v12.heap.size v12 v13 := by rw [Hv13.out]; exact (Below.refl _ _).alloc (Nat.le_refl _) _
    have rX12 : Row v13 X12 42 (slC T1 (.slice a26 T1.p.m c26) (.slice a31 T1.ze.length c31) (.slice a32 T1.zr.length c32)) := by rw [Hv13.out, HX12.out]; exact Row.new v12 _ _
    have K12 : Hid (Sure v13 (fun W => Below w.heap.size w W ∧ Rd W (slsD m S) (.slice va m vc) ∧ TxtAt W a9 y.p.m y.p.S ∧ Row W X3 26 #[.int .i64 id, .int .i64 f, .slice va m vc] ∧ Row W X4 31 (syC y (.slice a9 y.p.m c9)) ∧ Rd W (slsD N1 S1) (.slice (some ⟨gH, 0, none⟩) N1 cH) ∧ Rd W (sysD M Y) (.slice sa M sc) ∧ Row W X5 26 #[.int .i64 id, .int .i64 f, .slice (some ⟨gH, 0, none⟩) N1 cH] ∧ Rd W (slsD N1 S1) (.slice a8 N1 c8) ∧ Rd W (sysD M Y) (.slice sa8 M sc8) ∧ Row W X7 26 #[.int .i64 id, .int .i64 f, .slice a8 N1 c8] ∧ TxtAt W a6 T0.p.m T0.p.S ∧ Row W X10 42 (slC T0 (.slice a6 T0.p.m c6) (.slice a11 T0.ze.length c11) (.slice a12 T0.zr.length c12)) ∧ TxtAt W a26 T1.p.m T1.p.S ∧ Row W X12 42 (slC T1 (.slice a26 T1.p.m c26) (.slice a31 T1.ze.length c31) (.slice a32 T1.zr.length c32)))) := fun W hW => by
     have h9 := K11.out W (below2 bX12 hW)
     exact ⟨h9.1, h9.2.1, h9.2.2.1, h9.2.2.2.1, h9.2.2.2.2.1, h9.2.2.2.2.2.1, h9.2.2.2.2.2.2.1, h9.2.2.2.2.2.2.2.1, h9.2.2.2.2.2.2.2.2.1, h9.2.2.2.2.2.2.2.2.2.1, h9.2.2.2.2.2.2.2.2.2.2.1, h9.2.2.2.2.2.2.2.2.2.2.2.1, h9.2.2.2.2.2.2.2.2.2.2.2.2.1, h9.2.2.2.2.2.2.2.2.2.2.2.2.2, rX12.below hW rX12.lt⟩
    clear K11
    clear bX12 rX12
    go_upto_region 17 with fail
    rw [← Hv13.out, ← HX12.out]
    have RX5 : Hid (Row v13 X5 26 #[.int .i64 id, .int .i64 f, .slice (some ⟨gH, 0, none⟩) N1 cH]) := K12.out.now.2.2.2.2.2.2.2.1
    have RX4 : Hid (Row v13 X4 31 (syC y (.slice a9 y.p.m c9))) := K12.out.now.2.2.2.2.1
    have KH : Hid (Calls Tryz.prog 9 #[ndV id f (.slice (some ⟨gH, 0, none⟩) N1 cH), syV y (.slice a9 y.p.m c9)] v13 fun e w' => NhA v13 w' id f N1 (nhS id f N1 S1 y) 0 (nhY id f N1 S1 y) e) := by
     have := nodeHear_any id f (some ⟨gH, 0, none⟩) N1 cH S1 y a9 c9 v13 K12.out.now.2.2.2.2.2.1 K12.out.now.2.2.1 HB1.out
     rw [HAg.out.1, HAg.out.2.2.1] at this
     exact this
    go_wp2_with (first | (refine wpList_load_row (by rfl) 26 _ (by rfl) X5 (by rfl) 26 #[.int .i64 id, .int .i64 f, .slice (some ⟨gH, 0, none⟩) N1 cH] (0, 0) _ ?_ Tryz.underlying26 (by rfl) Tryz.infoNd ?_; exact RX5.out) | (refine wpList_load_row (by rfl) 31 _ (by rfl) X4 (by rfl) 31 (syC y (.slice a9 y.p.m c9)) (0, 0) _ ?_ Tryz.underlying31 (by rfl) Tryz.infoSy ?_; exact RX4.out))
    refine Calls.mono (KH.out) ?_
    rintro e v14 ⟨gI, cI, sb, sd, F3, F4, rfl, o1, o2, _, b14⟩
    have K13 : Hid (Sure v14 (fun W => Below w.heap.size w W ∧ Rd W (slsD m S) (.slice va m vc) ∧ TxtAt W a9 y.p.m y.p.S ∧ Row W X3 26 #[.int .i64 id, .int .i64 f, .slice va m vc] ∧ Row W X4 31 (syC y (.slice a9 y.p.m c9)) ∧ Rd W (slsD N1 S1) (.slice (some ⟨gH, 0, none⟩) N1 cH) ∧ Rd W (sysD M Y) (.slice sa M sc) ∧ Row W X5 26 #[.int .i64 id, .int .i64 f, .slice (some ⟨gH, 0, none⟩) N1 cH] ∧ Rd W (slsD N1 S1) (.slice a8 N1 c8) ∧ Rd W (sysD M Y) (.slice sa8 M sc8) ∧ Row W X7 26 #[.int .i64 id, .int .i64 f, .slice a8 N1 c8] ∧ TxtAt W a6 T0.p.m T0.p.S ∧ Row W X10 42 (slC T0 (.slice a6 T0.p.m c6) (.slice a11 T0.ze.length c11) (.slice a12 T0.zr.length c12)) ∧ TxtAt W a26 T1.p.m T1.p.S ∧ Row W X12 42 (slC T1 (.slice a26 T1.p.m c26) (.slice a31 T1.ze.length c31) (.slice a32 T1.zr.length c32)) ∧ Rd W (slsD N1 S1) (.slice (some ⟨gI, 0, none⟩) N1 cI))) := fun W hW => by
     have h9 := K12.out W (below2 b14 hW)
     exact ⟨h9.1, h9.2.1, h9.2.2.1, h9.2.2.2.1, h9.2.2.2.2.1, h9.2.2.2.2.2.1, h9.2.2.2.2.2.2.1, h9.2.2.2.2.2.2.2.1, h9.2.2.2.2.2.2.2.2.1, h9.2.2.2.2.2.2.2.2.2.1, h9.2.2.2.2.2.2.2.2.2.2.1, h9.2.2.2.2.2.2.2.2.2.2.2.1, h9.2.2.2.2.2.2.2.2.2.2.2.2.1, h9.2.2.2.2.2.2.2.2.2.2.2.2.2.1, h9.2.2.2.2.2.2.2.2.2.2.2.2.2.2, (o1.rd.congr (fun i q hi _ => by show slD (nhS id f N1 S1 y i) q = slD (S1 i) q; rw [HAg.out.2.1 i hi])).below hW⟩
    clear K12
    clear b14 o1 o2 KH RX5 RX4
    obtain ⟨X14, HX14⟩ : ∃ x, Hid (x = v14.heap.size) := ⟨_, rfl⟩
    obtain ⟨v15, Hv15⟩ : ∃ x, Hid (x = v14.alloc (.cells #[.int .i64 id, .int .i64 f, .slice (some ⟨gI, 0, none⟩) N1 cI] 26)) := ⟨_, rfl⟩
    have bX14 : Below v14.heap.size v14 v15 := by rw [Hv15.out]; exact (Below.refl _ _).alloc (Nat.le_refl _) _
    have rX14 : Row v15 X14 26 #[.int .i64 id, .int .i64 f, .slice (some ⟨gI, 0, none⟩) N1 cI] := by rw [Hv15.out, HX14.out]; exact Row.new v14 _ _
    have K14 : Hid (Sure v15 (fun W => Below w.heap.size w W ∧ Rd W (slsD m S) (.slice va m vc) ∧ TxtAt W a9 y.p.m y.p.S ∧ Row W X3 26 #[.int .i64 id, .int .i64 f, .slice va m vc] ∧ Row W X4 31 (syC y (.slice a9 y.p.m c9)) ∧ Rd W (slsD N1 S1) (.slice (some ⟨gH, 0, none⟩) N1 cH) ∧ Rd W (sysD M Y) (.slice sa M sc) ∧ Row W X5 26 #[.int .i64 id, .int .i64 f, .slice (some ⟨gH, 0, none⟩) N1 cH] ∧ Rd W (slsD N1 S1) (.slice a8 N1 c8) ∧ Rd W (sysD M Y) (.slice sa8 M sc8) ∧ Row W X7 26 #[.int .i64 id, .int .i64 f, .slice a8 N1 c8] ∧ TxtAt W a6 T0.p.m T0.p.S ∧ Row W X10 42 (slC T0 (.slice a6 T0.p.m c6) (.slice a11 T0.ze.length c11) (.slice a12 T0.zr.length c12)) ∧ TxtAt W a26 T1.p.m T1.p.S ∧ Row W X12 42 (slC T1 (.slice a26 T1.p.m c26) (.slice a31 T1.ze.length c31) (.slice a32 T1.zr.length c32)) ∧ Rd W (slsD N1 S1) (.slice (some ⟨gI, 0, none⟩) N1 cI) ∧ Row W X14 26 #[.int .i64 id, .int .i64 f, .slice (some ⟨gI, 0, none⟩) N1 cI])) := fun W hW => by
     have h9 := K13.out W (below2 bX14 hW)
     exact ⟨h9.1, h9.2.1, h9.2.2.1, h9.2.2.2.1, h9.2.2.2.2.1, h9.2.2.2.2.2.1, h9.2.2.2.2.2.2.1, h9.2.2.2.2.2.2.2.1, h9.2.2.2.2.2.2.2.2.1, h9.2.2.2.2.2.2.2.2.2.1, h9.2.2.2.2.2.2.2.2.2.2.1, h9.2.2.2.2.2.2.2.2.2.2.2.1, h9.2.2.2.2.2.2.2.2.2.2.2.2.1, h9.2.2.2.2.2.2.2.2.2.2.2.2.2.1, h9.2.2.2.2.2.2.2.2.2.2.2.2.2.2.1, h9.2.2.2.2.2.2.2.2.2.2.2.2.2.2.2, rX14.below hW rX14.lt⟩
    clear K13
    clear bX14 rX14
    go_upto_region 18 with fail
    rw [← Hv15.out, ← HX14.out]
    have RX5 : Hid (Row v15 X5 26 #[.int .i64 id, .int .i64 f, .slice (some ⟨gH, 0, none⟩) N1 cH]) := K14.out.now.2.2.2.2.2.2.2.1
    have RX14 : Hid (Row v15 X14 26 #[.int .i64 id, .int .i64 f, .slice (some ⟨gI, 0, none⟩) N1 cI]) := K14.out.now.2.2.2.2.2.2.2.2.2.2.2.2.2.2.2.2
    have KO : Hid (Calls Tryz.prog 13 #[ndV id f (.slice (some ⟨gH, 0, none⟩) N1 cH)] v15 fun e w' => e = .returned (.bool true) ∧ Below v15.heap.size v15 w') := by
     have := nodeOk_any id f (some ⟨gH, 0, none⟩) N1 cH S1 v15 K14.out.now.2.2.2.2.2.1 HL.out.1 (fun i hi => (HL.out.2.2.2 i hi).ok)
     rw [ndB_yes HAg.out.2.2.2] at this
     exact this
    go_wp2_with (refine wpList_load_row (by rfl) 26 _ (by rfl) X5 (by rfl) 26 #[.int .i64 id, .int .i64 f, .slice (some ⟨gH, 0, none⟩) N1 cH] (0, 0) _ ?_ Tryz.underlying26 (by rfl) Tryz.infoNd ?_; exact RX5.out)
    refine Calls.mono (KO.out) ?_
    rintro e v16 ⟨rfl, b16⟩
    have K15 : Hid (Sure v16 (fun W => Below w.heap.size w W ∧ Rd W (slsD m S) (.slice va m vc) ∧ TxtAt W a9 y.p.m y.p.S ∧ Row W X3 26 #[.int .i64 id, .int .i64 f, .slice va m vc] ∧ Row W X4 31 (syC y (.slice a9 y.p.m c9)) ∧ Rd W (slsD N1 S1) (.slice (some ⟨gH, 0, none⟩) N1 cH) ∧ Rd W (sysD M Y) (.slice sa M sc) ∧ Row W X5 26 #[.int .i64 id, .int .i64 f, .slice (some ⟨gH, 0, none⟩) N1 cH] ∧ Rd W (slsD N1 S1) (.slice a8 N1 c8) ∧ Rd W (sysD M Y) (.slice sa8 M sc8) ∧ Row W X7 26 #[.int .i64 id, .int .i64 f, .slice a8 N1 c8] ∧ TxtAt W a6 T0.p.m T0.p.S ∧ Row W X10 42 (slC T0 (.slice a6 T0.p.m c6) (.slice a11 T0.ze.length c11) (.slice a12 T0.zr.length c12)) ∧ TxtAt W a26 T1.p.m T1.p.S ∧ Row W X12 42 (slC T1 (.slice a26 T1.p.m c26) (.slice a31 T1.ze.length c31) (.slice a32 T1.zr.length c32)) ∧ Rd W (slsD N1 S1) (.slice (some ⟨gI, 0, none⟩) N1 cI) ∧ Row W X14 26 #[.int .i64 id, .int .i64 f, .slice (some ⟨gI, 0, none⟩) N1 cI])) := fun W hW => by
     have h9 := K14.out W (below2 b16 hW)
     exact ⟨h9.1, h9.2.1, h9.2.2.1, h9.2.2.2.1, h9.2.2.2.2.1, h9.2.2.2.2.2.1, h9.2.2.2.2.2.2.1, h9.2.2.2.2.2.2.2.1, h9.2.2.2.2.2.2.2.2.1, h9.2.2.2.2.2.2.2.2.2.1, h9.2.2.2.2.2.2.2.2.2.2.1, h9.2.2.2.2.2.2.2.2.2.2.2.1, h9.2.2.2.2.2.2.2.2.2.2.2.2.1, h9.2.2.2.2.2.2.2.2.2.2.2.2.2.1, h9.2.2.2.2.2.2.2.2.2.2.2.2.2.2.1, h9.2.2.2.2.2.2.2.2.2.2.2.2.2.2.2.1, h9.2.2.2.2.2.2.2.2.2.2.2.2.2.2.2.2⟩
    clear K14
    clear b16 KO RX5 RX14
    have RX5 : Hid (Row v16 X5 26 #[.int .i64 id, .int .i64 f, .slice (some ⟨gH, 0, none⟩) N1 cH]) := K15.out.now.2.2.2.2.2.2.2.1
    have RX14 : Hid (Row v16 X14 26 #[.int .i64 id, .int .i64 f, .slice (some ⟨gI, 0, none⟩) N1 cI]) := K15.out.now.2.2.2.2.2.2.2.2.2.2.2.2.2.2.2.2
    have x5_0 := RX5.out.cell 0
    have x5_1 := RX5.out.cell 1
    have x5_2 := RX5.out.cell 2
    simp at x5_0 x5_1 x5_2
    have x14_0 := RX14.out.cell 0
    have x14_1 := RX14.out.cell 1
    have x14_2 := RX14.out.cell 2
    simp at x14_0 x14_1 x14_2
    have KS : Hid (Calls Tryz.prog 11 #[ndV id f (.slice (some ⟨gI, 0, none⟩) N1 cI), ndV id f (.slice (some ⟨gH, 0, none⟩) N1 cH)] v16 fun e w' => e = .returned (.bool true) ∧ Below v16.heap.size v16 w') := sameNd_same id f (some ⟨gI, 0, none⟩) (some ⟨gH, 0, none⟩) N1 cI cH S1 v16 K15.out.now.2.2.2.2.2.2.2.2.2.2.2.2.2.2.2.1 K15.out.now.2.2.2.2.2.1 HL.out.1 (fun i hi => ⟨(HL.out.2.2.2 i hi).m, (HL.out.2.2.2 i hi).ne, (HL.out.2.2.2 i hi).nr⟩)
    go_wp2_with fail
    refine Calls.mono (KS.out) ?_
    rintro e v17 ⟨rfl, b17⟩
    have K16 : Hid (Sure v17 (fun W => Below w.heap.size w W ∧ Rd W (slsD m S) (.slice va m vc) ∧ TxtAt W a9 y.p.m y.p.S ∧ Row W X3 26 #[.int .i64 id, .int .i64 f, .slice va m vc] ∧ Row W X4 31 (syC y (.slice a9 y.p.m c9)) ∧ Rd W (slsD N1 S1) (.slice (some ⟨gH, 0, none⟩) N1 cH) ∧ Rd W (sysD M Y) (.slice sa M sc) ∧ Row W X5 26 #[.int .i64 id, .int .i64 f, .slice (some ⟨gH, 0, none⟩) N1 cH] ∧ Rd W (slsD N1 S1) (.slice a8 N1 c8) ∧ Rd W (sysD M Y) (.slice sa8 M sc8) ∧ Row W X7 26 #[.int .i64 id, .int .i64 f, .slice a8 N1 c8] ∧ TxtAt W a6 T0.p.m T0.p.S ∧ Row W X10 42 (slC T0 (.slice a6 T0.p.m c6) (.slice a11 T0.ze.length c11) (.slice a12 T0.zr.length c12)) ∧ TxtAt W a26 T1.p.m T1.p.S ∧ Row W X12 42 (slC T1 (.slice a26 T1.p.m c26) (.slice a31 T1.ze.length c31) (.slice a32 T1.zr.length c32)) ∧ Rd W (slsD N1 S1) (.slice (some ⟨gI, 0, none⟩) N1 cI) ∧ Row W X14 26 #[.int .i64 id, .int .i64 f, .slice (some ⟨gI, 0, none⟩) N1 cI])) := fun W hW => by
     have h9 := K15.out W (below2 b17 hW)
     exact ⟨h9.1, h9.2.1, h9.2.2.1, h9.2.2.2.1, h9.2.2.2.2.1, h9.2.2.2.2.2.1, h9.2.2.2.2.2.2.1, h9.2.2.2.2.2.2.2.1, h9.2.2.2.2.2.2.2.2.1, h9.2.2.2.2.2.2.2.2.2.1, h9.2.2.2.2.2.2.2.2.2.2.1, h9.2.2.2.2.2.2.2.2.2.2.2.1, h9.2.2.2.2.2.2.2.2.2.2.2.2.1, h9.2.2.2.2.2.2.2.2.2.2.2.2.2.1, h9.2.2.2.2.2.2.2.2.2.2.2.2.2.2.1, h9.2.2.2.2.2.2.2.2.2.2.2.2.2.2.2.1, h9.2.2.2.2.2.2.2.2.2.2.2.2.2.2.2.2⟩
    clear K15
    clear b17 KS RX5 RX14 x5_0 x5_1 x5_2 x14_0 x14_1 x14_2
    have RX10 : Hid (Row v17 X10 42 (slC T0 (.slice a6 T0.p.m c6) (.slice a11 T0.ze.length c11) (.slice a12 T0.zr.length c12))) := K16.out.now.2.2.2.2.2.2.2.2.2.2.2.2.1
    have RX12 : Hid (Row v17 X12 42 (slC T1 (.slice a26 T1.p.m c26) (.slice a31 T1.ze.length c31) (.slice a32 T1.zr.length c32))) := K16.out.now.2.2.2.2.2.2.2.2.2.2.2.2.2.2.1
    have RX3 : Hid (Row v17 X3 26 #[.int .i64 id, .int .i64 f, .slice va m vc]) := K16.out.now.2.2.2.1
    have RX5 : Hid (Row v17 X5 26 #[.int .i64 id, .int .i64 f, .slice (some ⟨gH, 0, none⟩) N1 cH]) := K16.out.now.2.2.2.2.2.2.2.1
    have y0_7 := RX10.out.cell 7
    have y0_8 := RX10.out.cell 8
    have y0_9 := RX10.out.cell 9
    have y0_10 := RX10.out.cell 10
    simp at y0_7 y0_8 y0_9 y0_10
    have y1_7 := RX12.out.cell 7
    have y1_8 := RX12.out.cell 8
    have y1_9 := RX12.out.cell 9
    have y1_10 := RX12.out.cell 10
    simp at y1_7 y1_8 y1_9 y1_10
    have x3_1 := RX3.out.cell 1
    have x3_2 := RX3.out.cell 2
    simp at x3_1 x3_2
    have x5_2 := RX5.out.cell 2
    simp at x5_2
    obtain ⟨e0, He0⟩ : ∃ x, Hid (T0.e = x) := ⟨_, rfl⟩
    obtain ⟨e1, He1⟩ : ∃ x, Hid (T1.e = x) := ⟨_, rfl⟩
    obtain ⟨d0, Hd0⟩ : ∃ x, Hid (T0.d = x) := ⟨_, rfl⟩
    obtain ⟨d1, Hd1⟩ : ∃ x, Hid (T1.d = x) := ⟨_, rfl⟩
    obtain ⟨o0, Ho0⟩ : ∃ x, Hid (T0.o = x) := ⟨_, rfl⟩
    obtain ⟨o1, Ho1⟩ : ∃ x, Hid (T1.o = x) := ⟨_, rfl⟩
    obtain ⟨h0, Hh0⟩ : ∃ x, Hid (T0.h = x) := ⟨_, rfl⟩
    obtain ⟨h1, Hh1⟩ : ∃ x, Hid (T1.h = x) := ⟨_, rfl⟩
    rw [Hh0.out] at y0_7
    rw [He0.out] at y0_8
    rw [Hd0.out] at y0_9
    rw [Ho0.out] at y0_10
    rw [Hh1.out] at y1_7
    rw [He1.out] at y1_8
    rw [Hd1.out] at y1_9
    rw [Ho1.out] at y1_10
    obtain ⟨b8, Hb8⟩ : ∃ x : Bool, Hid ((e1 && !e0) = x) := ⟨_, rfl⟩
    obtain ⟨b9, Hb9⟩ : ∃ x : Bool, Hid ((d1 && !d0) = x) := ⟨_, rfl⟩
    obtain ⟨s8, HS8⟩ : ∃ x : Nat, Hid ((if b8 then 1 else 0) = x) := ⟨_, rfl⟩
    obtain ⟨s9, HS9⟩ : ∃ x : Nat, Hid ((if b9 then 1 else 0) = x) := ⟨_, rfl⟩
    have HKs : Hid ((((s8 + s9 : Nat) : Int) * (3 * f + 1)) = (M : Int) ∧ s8 ≤ 1 ∧ s9 ≤ 1) := by
     have h9 := HLaw.out.1
     have h8 := nAll_is hf
     unfold saidN at h9
     rw [He0.out, He1.out, Hd0.out, Hd1.out] at h9
     have k8 : (if e1 = true ∧ e0 = false then 1 else 0) = s8 := by rw [← HS8.out, ← Hb8.out]; cases e1 <;> cases e0 <;> rfl
     have k9 : (if d1 = true ∧ d0 = false then 1 else 0) = s9 := by rw [← HS9.out, ← Hb9.out]; cases d1 <;> cases d0 <;> rfl
     rw [k8, k9] at h9
     refine ⟨by rw [h9, ← h8]; simp, ?_, ?_⟩
     ·rw [← HS8.out]; split <;> omega
     ·rw [← HS9.out]; split <;> omega
    have s81 := HKs.out.2.1
    have s91 := HKs.out.2.2
    go_upto_region 21 with fail
    go_cut [150] from 144 to 150 (fun u wx => u = .bool b8 ∧ wx = v17)
    case first =>
     cases e1 <;> cases e0
     all_goals
      have h9 := Hb8.out
      simp at h9
      subst h9
      go_wp2_with fail
      go_meet
      exact ⟨rfl, rfl⟩
    obtain ⟨rfl, hwc⟩ := hcut
    obtain rfl := hwc.symm
    clear hwc
    go_upto_if 150 with fail
    go_cut [16] from 151 to 152 (fun u wx => u = .int .i64 (s8 : Int) ∧ wx = v17)
    case first =>
     cases b8
     all_goals
      have h9 := HS8.out
      simp at h9
      subst h9
      go_wp2_with fail
      go_meet
      first | exact ⟨rfl, rfl⟩ | exact ⟨by simp, rfl⟩
    obtain ⟨rfl, hwc⟩ := hcut
    obtain rfl := hwc.symm
    clear hwc
    go_upto_region 23 with fail
    go_cut [159] from 153 to 159 (fun u wx => u = .bool b9 ∧ wx = v17)
    case first =>
     cases d1 <;> cases d0
     all_goals
      have h9 := Hb9.out
      simp at h9
      subst h9
      go_wp2_with fail
      go_meet
      exact ⟨rfl, rfl⟩
    obtain ⟨rfl, hwc⟩ := hcut
    obtain rfl := hwc.symm
    clear hwc
    go_upto_if 159 with fail
    go_cut [16] from 160 to 161 (fun u wx => u = .int .i64 ((s8 + s9 : Nat) : Int) ∧ wx = v17)
    case first =>
     cases b9
     all_goals
      have h9 := HS9.out
      simp at h9
      subst h9
      go_wp2_with fail
      go_meet
      first | exact ⟨rfl, rfl⟩ | exact ⟨by simp, rfl⟩
    obtain ⟨rfl, hwc⟩ := hcut
    obtain rfl := hwc.symm
    clear hwc
    obtain ⟨sq, Hsq⟩ : ∃ x : Nat, Hid (s8 + s9 = x) := ⟨_, rfl⟩
    have hmul : IntKind.i64.wrap ((sq : Int) * (3 * f + 1)) = (M : Int) := by
     have h9 := HKs.out.1
     rw [Hsq.out] at h9
     rw [h9, IntKind.wrap_i64]
     omega
    have hmm : ((M : Int) == (M : Int)) = true := by simp
    have HN : Hid (N1 ≤ m + 1) := HLaw.out.2.2.2
    go_upto_region 25 with fail
    rw [Hsq.out]
    clear Hsq HS8 HS9 Hb8 Hb9 HKs
    have y0_1 := RX10.out.cell 1
    have y0_2 := RX10.out.cell 2
    have y0_3 := RX10.out.cell 3
    have y0_4 := RX10.out.cell 4
    have y0_5 := RX10.out.cell 5
    have y0_6 := RX10.out.cell 6
    simp at y0_1 y0_2 y0_3 y0_4 y0_5 y0_6
    have y1_1 := RX12.out.cell 1
    have y1_2 := RX12.out.cell 2
    have y1_3 := RX12.out.cell 3
    have y1_4 := RX12.out.cell 4
    have y1_5 := RX12.out.cell 5
    have y1_6 := RX12.out.cell 6
    simp at y1_1 y1_2 y1_3 y1_4 y1_5 y1_6
    cases h0 with
    | false =>
     have KF : Hid (Below w.heap.size w v17) := K16.out.now.1
     cases o0 with
     | false =>
      have hN : (N1 : Int) ≤ (m : Int) + 1 := by have := HN.out; omega
      go_wp2
      go_ret
      exact ⟨rfl, KF.out⟩
     | true =>
      have h9 := HLaw.out.2.1 Ho0.out
      rw [Ho1.out] at h9
      subst h9
      have hN : (N1 : Int) ≤ (m : Int) + 1 := by have := HN.out; omega
      go_wp2
      go_ret
      exact ⟨rfl, KF.out⟩
    | true =>
     have h9 := HLaw.out.2.2.1 Hh0.out
     obtain ⟨h8, h7⟩ := h9
     rw [Hh1.out] at h8
     subst h8
     rw [h7] at y1_1 y1_2 y1_3 y1_4 y1_5 y1_6
     have KP : Hid (Calls Tryz.prog 16 #[pcV T0.p.r T0.p.k T0.p.n T0.p.i T0.p.b (.slice a6 T0.p.m c6), pcV T0.p.r T0.p.k T0.p.n T0.p.i T0.p.b (.slice a26 T0.p.m c26)] v17 fun e w' => e = .returned (.bool true) ∧ Below v17.heap.size v17 w') := samePc_same T0.p.r T0.p.k T0.p.n T0.p.i T0.p.b a6 a26 T0.p.m c6 c26 T0.p.S v17 K16.out.now.2.2.2.2.2.2.2.2.2.2.2.1 (by have h5 := K16.out.now.2.2.2.2.2.2.2.2.2.2.2.2.2.1; rw [h7] at h5; exact h5) HT0K.out
     have KB17 : Hid (Below w.heap.size w v17) := K16.out.now.1
     have KR17 : Hid (Row v17 X3 26 #[.int .i64 id, .int .i64 f, .slice va m vc] ∧ Row v17 X5 26 #[.int .i64 id, .int .i64 f, .slice (some ⟨gH, 0, none⟩) N1 cH]) := ⟨K16.out.now.2.2.2.1, K16.out.now.2.2.2.2.2.2.2.1⟩
     clear h7
     cases o0 with
     | false =>
      go_wp2_with fail
      refine Calls.mono KP.out ?_
      rintro e v18 ⟨rfl, b18⟩
      have KF : Hid (Below w.heap.size w v18) := below2 KB17.out b18
      have z3 := (KR17.out.1.below b18 KR17.out.1.lt).cell 2
      have z5 := (KR17.out.2.below b18 KR17.out.2.lt).cell 2
      simp at z3 z5
      have hN : (N1 : Int) ≤ (m : Int) + 1 := by have := HN.out; omega
      clear b18
      go_wp2
      go_ret
      exact ⟨rfl, KF.out⟩
     | true =>
      have h9 := HLaw.out.2.1 Ho0.out
      rw [Ho1.out] at h9
      subst h9
      go_wp2_with fail
      refine Calls.mono KP.out ?_
      rintro e v18 ⟨rfl, b18⟩
      have KF : Hid (Below w.heap.size w v18) := below2 KB17.out b18
      have z3 := (KR17.out.1.below b18 KR17.out.1.lt).cell 2
      have z5 := (KR17.out.2.below b18 KR17.out.2.lt).cell 2
      simp at z3 z5
      have hN : (N1 : Int) ≤ (m : Int) + 1 := by have := HN.out; omega
      clear b18
      go_wp2
      go_ret
      exact ⟨rfl, KF.out⟩
end Go.Proofs.YtcaejlalnjnifaaGreat
namespace Go.Proofs.YtcaejlalnjnifaaGreat.fnNode
open Go.ChangeShapes Go.WideShapes Go.ChangeAt Go.RowKit
open Go.ChangeMaps (open_string shut_string)
set_option linter.unusedVariables false
theorem own : ownKnob Tryz.prog.godebug = none := by kernel_rfl
theorem laidOut : laidOutB Tryz.prog = true := by kernel_rfl
set_option maxRecDepth 100000 in
theorem lifted (os : Os) (started : os.Started) (H : Type) (enc : TypeId × Value → H) :
  ReturnsInHanded {} Tryz.checked os 3 .any (Rows.fnNodeSpec.pre6 enc Tryz.prog Tryz.f3 Rows.fnNodeRow.domain false) (Rows.fnNodeSpec.post enc Tryz.prog Tryz.f3 false true false false) := by
 refine returnsInHanded_of_change (C := Tryz.checked) own started (by kernel_rfl) Tryz.func3
  (ChangeSpec.witness6 (enc := enc) (C := Tryz.checked) false ⟨#[], #[.slice none 0 0], []⟩ 8 (by kernel_rfl) (by kernel_rfl) (by kernel_rfl) (by kernel_rfl)) ?_
 intro W base args ds gs before hval0 hW hcnd _
 have hval : ∀ (j : Nat) t v, Tryz.f3.params[j]? = some t → args[j]? = some v → Value.okWide Tryz.prog W .any base t v := hval0
 have hW' := hW
 obtain ⟨p, q, hA0, hV, rfl, hfz, hnd⟩ := hW
 have hA : DataW.TrodAll enc Tryz.prog W 0 (fun _ => true) true Tryz.f3.params.toList args.toList ds p := hA0
 rw [Tryz.params3] at hA hval
 obtain ⟨v0, vs0, d0, ds0, p0, q0, hargs, rfl, rfl, h0, r0⟩ := trodAll_cons hA
 obtain ⟨rfl, rfl, rfl⟩ := trodAll_nil r0
 obtain rfl : args = #[v0] := by cases args; simp_all
 obtain ⟨rfl, rfl⟩ := trodVars_none hV
 obtain ⟨a0, len0, cap0, rfl⟩ := okWide_slice Tryz.underlying22 (hval 0 22 v0 rfl rfl)
 have k0 := h0
 have lt0 : ∀ x ∈ p0, x.block < W.heap.size := by obtain ⟨m, hm⟩ := k0; exact DataW.trod_lt m _ _ _ hm
 obtain ⟨z0, w0⟩ : ∃ zs, IsRow .u8 W a0 len0 cap0 zs := by
  obtain ⟨fuel, hf⟩ := h0
  rcases open_ints Tryz.underlying22 Tryz.underlying5 (by kernel_rfl) hf with ⟨hcs, _⟩ | ⟨x, l, c, zs, hcs, _, hl, hm, hz, _, hcell, hwz⟩
  ·simp [Value.cells] at hcs
   obtain ⟨rfl, rfl, rfl⟩ := hcs
   exact ⟨[], .inl ⟨rfl, rfl, rfl, rfl⟩⟩
  ·simp [Value.cells] at hcs
   obtain ⟨rfl, rfl, rfl⟩ := hcs
   exact ⟨zs, .inr ⟨_, rfl, hl, hm, by simpa using hz, hcell, hwz⟩⟩
 clear hA0 hval0
 refine (walk_FnNode a0 len0 cap0 z0 W w0).mono fun e W' ⟨he, bel⟩ => ?_
 subst he
 exact ⟨_, rfl, _, _, _, [], _, [], hW', trodAll_mk1 (shut_bool Tryz.underlying4 _), (trodAll_cons_mk (Below.trod laidOut (by kernel_rfl) (of_decide_eq_true (by kernel_rfl)) k0 bel lt0) trodAll_mk0), rfl, bel.frame _, fun h => by cases h⟩
theorem over : Rows.fnNodeRow.holds Tryz.pinned (OpenSpec.ofChange Rows.fnNodeSpec) :=
 OpenClaim.holds_of_wide 3 Tryz.f3 rfl rfl rfl rfl rfl rfl rfl ⟨rfl, rfl, rfl, rfl, rfl⟩ rfl rfl rfl rfl rfl (by kernel_rfl) Tryz.func3 (by kernel_rfl)
  (of_decide_eq_true (by kernel_rfl)) (by unfold Func.isWrapper; first | (rw [if_pos (by decide +kernel)]; kernel_rfl) | (rw [if_neg (by decide +kernel)]; exact ⟨rfl, rfl⟩))
  (fun os started H enc _ => lifted os started H enc)
theorem proved : Rows.FnNodeSaid := over
#print axioms proved
end Go.Proofs.YtcaejlalnjnifaaGreat.fnNode
