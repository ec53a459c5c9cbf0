import Derived.Test.YtaenoiffamgcfaaGreatDoorM30
import Derived.Test.YtaenoiffamgcfaaGreatDoorM33
import Derived.Test.YtaenoiffamgcfaaGreatDoorM41
import Derived.Test.YtaenoiffamgcfaaGreatDoorM34
import Derived.Test.YtaenoiffamgcfaaGreatDoorM20
import Derived.Test.YtaenoiffamgcfaaGreatDoorM5
import Derived.Test.YtaenoiffamgcfaaGreatDoorM14
import Derived.Test.YtaenoiffamgcfaaGreatDoorM8
import Derived.Lib.QuietBelow
import Derived.Laws.StructEq
set_option maxHeartbeats 8000000
set_option maxRecDepth 2000
namespace Go.Proofs.YtaenoiffamgcfaaGreatDoor
open Go.ChangeShapes Go.WideShapes Go.ChangeAt Go.RowKit Go.Sort
set_option maxRecDepth 4000 in
theorem walk_FnMarks (a0 : Option Addr) (len0 cap0 : Nat) (z0 : List Int) (w : World) (w0 : IsRow .u8 w a0 len0 cap0 z0) (hT : TabOk w) :
  Calls Tryz.prog 3 #[.slice a0 len0 cap0] w fun e w' => e = .returned (.bool true) ∧ Below w.heap.size w w' := by
 by_cases h0 : 1048576 < len0
 ·clear w0
  have h0' : (1048576 : Int) < (len0 : Int) := by omega
  go_enter Tryz.func3, Tryz.ntmps3
  go_wp2_with (go_at_call 4; refine (big_any _ _ _ _).mono ?_; rintro e w' ⟨rfl, rfl⟩)
  go_ret
  exact ⟨rfl, Below.refl _ _⟩
 have hc := w0.code (by omega)
 have KTb : Hid (∀ W, Below w.heap.size w W → TabOk W) := fun W hW => hT.below hW
 have HC : Hid (∀ W, Below w.heap.size w W → CodeAt W a0 len0) := fun W hW => hc.below hW
 clear w0 hT
 have h0' : ¬ (1048576 : Int) < (len0 : Int) := by omega
 go_enter Tryz.func3, Tryz.ntmps3
 go_wp2_with fail
 refine (big_any _ _ _ _).mono ?_
 rintro e w' ⟨rfl, hw⟩
 obtain rfl := hw.symm
 clear hw
 go_wp2_with fail
 refine (drawMarkAdd_any _ _ _ _ hc).mono ?_
 rintro e v1 ⟨g, N, G, C, M, x, b, rfl, h1, b1⟩
 have KL : Hid (∀ W, Below v1.heap.size v1 W → MkL W g G C N M 12) := fun W hW => h1.below hW
 have B1 : Hid (Below w.heap.size w v1) := b1
 have K1 : Hid _ := markAdd_any G N C M x b 12 v1 h1.c h1.l (by have := h1.b; omega) h1.a (by omega)
 have K2 : Hid (∀ W, Below v1.heap.size v1 W → _) := fun W hW => sMarkAdd_any G N C M x b 12 W (h1.below hW).c (h1.below hW).l (by have := h1.b; omega) h1.o h1.a (by omega)
 have HA : Hid (MaA N M 12) := h1.a
 have hN : N ≤ 12 := by have := h1.b; omega
 obtain ⟨N', HN'⟩ : ∃ q, Hid (mkN x M N = q) := ⟨_, rfl⟩
 obtain ⟨M', HM'⟩ : ∃ q, Hid (mkM x M N b = q) := ⟨_, rfl⟩
 have hN' : N' ≤ 13 := by rw [← HN'.out]; have := mkN_le x M N; omega
 have HA' : Hid (MaA N' M' 13) := by have := HA.out.mk1 (by omega) x b; rw [HN'.out, HM'.out] at this; exact this
 have HR : Hid (∀ i, i < N' → (0 < i → (M' (i - 1)).nd < (M' i).nd) ∧ ((M' i).nd = x → b = decide ((M' i).ro = 0))) := fun i hi => by
  have := mk_right HA.out (by omega) x b (i := i) (by rw [HN'.out]; exact hi)
  rw [HM'.out] at this
  exact this
 have HS : Hid (maS M' N' = maS M N + 1) := by have := maS_more (x := x) (M := M) (n := N) (good := b); rw [HN'.out, HM'.out] at this; exact this
 rw [HN'.out, HM'.out] at K1
 clear h1 b1 hc h0 h0'
 go_wp2_with fail
 refine Calls.mono K1.out ?_
 rintro e v2 ⟨G1, C1, rfl, o1, b2⟩
 have KO1 : Hid (v2.ownsRow v1.heap.size 29 4 (.slice (some ⟨G1, 0, none⟩) N' C1) N' (maL N' M')) := o1
 have B2 : Hid (Below v1.heap.size v1 v2) := b2
 have K2' := K2.out v2 b2
 rw [HN'.out, HM'.out] at K2'
 have K3 : Hid _ := K2'
 clear o1 b2 K1 K2 K2'
 go_wp2_with fail
 refine Calls.mono K3.out ?_
 rintro e v3 ⟨G2, C2, rfl, o2, b3⟩
 have B3 : Hid (Below v1.heap.size v1 v3) := below2 B2.out b3
 have KR1 : Hid (∀ W, Below v3.heap.size v3 W → Rd W (masD N' M') (.slice (some ⟨G1, 0, none⟩) N' C1)) := fun W hW => rdM (ownM_cells (ownsRow_below KO1.out (below2 b3 hW)))
 have KR2 : Hid (∀ W, Below v3.heap.size v3 W → Rd W (masD N' M') (.slice (some ⟨G2, 0, none⟩) N' C2)) := fun W hW => rdM (ownM_cells (ownsRow_below o2 hW))
 have KR0 : Hid (∀ W, Below v3.heap.size v3 W → Rd W (masD N M) (.slice (some ⟨G, 0, none⟩) N C)) := fun W hW => (KL.out W (below2 B3.out hW)).rd
 have D3 : Hid (Below v3.heap.size v3 v3) := Below.refl _ _
 clear o2 b3 K3 KO1 B2 KL
 go_wp2_with fail
 go_loopw [8, 10] (fun v8 v10 wr => ∃ i : Nat, i ≤ N ∧ v8 = .int .i64 (maS M i) ∧ v10 = .int .i64 (i : Int) ∧ Hid (Below v3.heap.size v3 wr)) (fun v8 v10 _ => N - (intOf v10).toNat)
 case atStart => exact ⟨0, Nat.zero_le _, rfl, rfl, D3⟩
 case round =>
  obtain ⟨i, hi, rfl, rfl, HB⟩ := hrel
  by_cases hlt : i < N
  ·have hii : (i : Int) < (N : Int) := by omega
   obtain ⟨b9, o9, e9, ⟨c0, c1, c2, c3⟩, _⟩ := mark_at (KR0.out wr HB.out) hlt
   cases e9
   obtain ⟨s9, HS9⟩ : ∃ q, Hid (maS M i = q) := ⟨_, rfl⟩
   obtain ⟨s8, HS8⟩ : ∃ q, Hid (maS M (i + 1) = q) := ⟨_, rfl⟩
   have hb9 := maS_bound HA.out (by omega) i (by omega)
   have hg9 := HA.out.g i hlt
   have hs8 : s9 + (M i).gd + (M i).bd = s8 := by rw [← HS9.out, ← HS8.out]; rfl
   rw [HS9.out] at hb9 ⊢
   obtain ⟨gd, HGD⟩ : ∃ q, Hid ((M i).gd = q) := ⟨_, rfl⟩
   obtain ⟨bd, HBD⟩ : ∃ q, Hid ((M i).bd = q) := ⟨_, rfl⟩
   rw [HGD.out] at c1 hs8 hg9
   rw [HBD.out] at c2 hs8 hg9
   rw [Nat.zero_add] at c1 c2
   have hw1 : IntKind.i64.wrap (s9 + gd) = s9 + gd := by rw [IntKind.wrap_i64]; omega
   have hw2 : IntKind.i64.wrap (s9 + gd + bd) = s8 := by rw [hs8, IntKind.wrap_i64]; omega
   have X1 : ∀ d os, (grow (redrawn wr d) os).cell? ⟨G, i * 4 + 1, none⟩ = _ := fun d os => cell_regrown c1 d os
   have X2 : ∀ d os, (grow (redrawn wr d) os).cell? ⟨G, i * 4 + 2, none⟩ = _ := fun d os => cell_regrown c2 d os
   clear c0 c1 c2 c3 hb9 hg9 hs8
   go_wp2_with fail
   refine wp_region_quiet_below (by kernel_rfl) (by kernel_rfl) ?_
   repeat (go_big_quiet_step (fail))
   refine wpQuiet_nil ?_
   intro _ hw'
   obtain ⟨⟨dq, osq⟩, hw''⟩ := hw'
   subst hw''
   have D6 : Hid (Below v3.heap.size v3 (grow (redrawn wr dq) osq)) := below2 HB.out (below_regrown wr dq osq)
   clear X1 X2 hw1 hw2
   go_wp2_with fail
   go_roundw
   case rel => exact ⟨i + 1, by omega, by rw [HS8.out], by go_num, D6⟩
   case measure => simp [intOf]; omega
  ·obtain rfl : N = i := by omega
   obtain ⟨s8, HS8⟩ : ∃ q, Hid (maS M N = q) := ⟨_, rfl⟩
   have HS9 : Hid (maS M' N' = s8 + 1) := by have := HS.out; rw [HS8.out] at this; exact this
   have hs8 : 0 ≤ s8 ∧ s8 ≤ 24000 := by have := maS_bound HA.out (by omega) N (Nat.le_refl _); rw [HS8.out] at this; omega
   rw [HS8.out]
   clear hlt hi HS8 HS
   go_wp2_with fail
   go_loopw [9, 11] (fun v9 v11 wr => ∃ j : Nat, j ≤ N' ∧ v9 = .int .i64 (maS M' j) ∧ v11 = .int .i64 (j : Int) ∧ Hid (Below v3.heap.size v3 wr)) (fun v9 v11 _ => N' - (intOf v11).toNat)
   case atStart => exact ⟨0, Nat.zero_le _, rfl, rfl, HB⟩
   case round =>
    obtain ⟨j, hj, rfl, rfl, HB2⟩ := hrel
    by_cases hlt2 : j < N'
    ·have hjj : (j : Int) < (N' : Int) := by omega
     obtain ⟨ba, oa, ea, ⟨a0, a1, a2, a3⟩, _⟩ := mark_at (KR1.out wr HB2.out) hlt2
     cases ea
     obtain ⟨bb, ob, eb, ⟨c0, c1, c2, c3⟩, _⟩ := mark_at (KR2.out wr HB2.out) hlt2
     cases eb
     rw [Nat.zero_add] at a0 a1 a2 a3 c0 c1 c2 c3
     have hrt := HR.out j hlt2
     obtain ⟨t9, HT9⟩ : ∃ q, Hid (maS M' j = q) := ⟨_, rfl⟩
     obtain ⟨t8, HT8⟩ : ∃ q, Hid (maS M' (j + 1) = q) := ⟨_, rfl⟩
     have hb9 := maS_bound HA'.out (by omega) j (by omega)
     have hg9 := HA'.out.g j hlt2
     have hs8 : t9 + (M' j).gd + (M' j).bd = t8 := by rw [← HT9.out, ← HT8.out]; rfl
     rw [HT9.out] at hb9 ⊢
     obtain ⟨nd, HND⟩ : ∃ q, Hid ((M' j).nd = q) := ⟨_, rfl⟩
     rw [HND.out] at a0 c0 hrt
     obtain ⟨gd, HGD⟩ : ∃ q, Hid ((M' j).gd = q) := ⟨_, rfl⟩
     rw [HGD.out] at a1 c1 hs8 hg9
     obtain ⟨bd, HBD⟩ : ∃ q, Hid ((M' j).bd = q) := ⟨_, rfl⟩
     rw [HBD.out] at a2 c2 hs8 hg9
     obtain ⟨ro, HRO⟩ : ∃ q, Hid ((M' j).ro = q) := ⟨_, rfl⟩
     rw [HRO.out] at a3 c3 hrt
     have hw1 : IntKind.i64.wrap (t9 + gd) = t9 + gd := by rw [IntKind.wrap_i64]; omega
     have hw2 : IntKind.i64.wrap (t9 + gd + bd) = t8 := by rw [hs8, IntKind.wrap_i64]; omega
     have A0 : ∀ d os, (grow (redrawn wr d) os).cell? ⟨G1, j * 4, none⟩ = _ := fun d os => cell_regrown a0 d os
     have A1 : ∀ d os, (grow (redrawn wr d) os).cell? ⟨G1, j * 4 + 1, none⟩ = _ := fun d os => cell_regrown a1 d os
     have A2 : ∀ d os, (grow (redrawn wr d) os).cell? ⟨G1, j * 4 + 2, none⟩ = _ := fun d os => cell_regrown a2 d os
     have A3 : ∀ d os, (grow (redrawn wr d) os).cell? ⟨G1, j * 4 + 3, none⟩ = _ := fun d os => cell_regrown a3 d os
     have C0 : ∀ d os, (grow (redrawn wr d) os).cell? ⟨G2, j * 4, none⟩ = _ := fun d os => cell_regrown c0 d os
     have C1 : ∀ d os, (grow (redrawn wr d) os).cell? ⟨G2, j * 4 + 1, none⟩ = _ := fun d os => cell_regrown c1 d os
     have C2 : ∀ d os, (grow (redrawn wr d) os).cell? ⟨G2, j * 4 + 2, none⟩ = _ := fun d os => cell_regrown c2 d os
     have C3 : ∀ d os, (grow (redrawn wr d) os).cell? ⟨G2, j * 4 + 3, none⟩ = _ := fun d os => cell_regrown c3 d os
     clear a0 a1 a2 a3 c0 c1 c2 c3 hb9 hg9 hs8
     have hr2 := hrt.2
     have hr1 : (¬ 0 < j) ∨ ∃ i pd, 0 < j ∧ Hid (j = i + 1) ∧ pd < nd ∧ ∀ d os, (grow (redrawn wr d) os).cell? ⟨G1, i * 4, none⟩ = some (.int .i64 pd) := by
      rcases Nat.eq_zero_or_pos j with hz | hz
      ·exact .inl (by omega)
      ·obtain ⟨ba, oa, ea, ⟨a0, _, _, _⟩, _⟩ := mark_at (KR1.out wr HB2.out) (show j - 1 < N' by omega)
       cases ea
       rw [Nat.zero_add] at a0
       exact .inr ⟨j - 1, _, hz, (by omega : j = j - 1 + 1), hrt.1 hz, fun d os => cell_regrown a0 d os⟩
     clear hrt
     have hr3 : (¬ nd = x) ∨ (nd = x ∧ ((ro = 0 ∧ b = true) ∨ (¬ ro = 0 ∧ b = false))) := by
      by_cases hx : nd = x
      ·refine .inr ⟨hx, ?_⟩
       have := hr2 hx
       by_cases h0 : ro = 0
       ·exact .inl ⟨h0, by rw [this]; exact decide_eq_true h0⟩
       ·exact .inr ⟨h0, by rw [this]; exact decide_eq_false h0⟩
      ·exact .inl hx
     clear hr2
     go_wp2_with fail
     rcases hr1 with hz | ⟨i, pd, hz, HI, hpd, P0⟩
     ·have hzi : ¬ 0 < (j : Int) := by omega
      refine wp_region_quiet_below (by kernel_rfl) (by kernel_rfl) ?_
      repeat (go_big_quiet_step (fail))
      refine wpQuiet_nil ?_
      intro _ hw'
      obtain ⟨⟨dq, osq⟩, hw''⟩ := hw'
      subst hw''
      have D6 : Hid (Below v3.heap.size v3 (grow (redrawn wr dq) osq)) := below2 HB2.out (below_regrown wr dq osq)
      rcases hr3 with hx | ⟨rfl, ⟨rfl, rfl⟩ | ⟨hro, rfl⟩⟩
      all_goals
       go_wp2_with fail
       obtain ⟨wz, HWZ⟩ : ∃ q, Hid (q = grow (redrawn wr dq) osq) := ⟨_, rfl⟩
       have Z1 : ∀ d os, (grow (redrawn wz d) os).cell? ⟨G1, j * 4 + 1, none⟩ = _ := fun d os => cell_regrown (by rw [HWZ.out]; exact A1 dq osq) d os
       have Z2 : ∀ d os, (grow (redrawn wz d) os).cell? ⟨G1, j * 4 + 2, none⟩ = _ := fun d os => cell_regrown (by rw [HWZ.out]; exact A2 dq osq) d os
       rw [← HWZ.out]
       clear A0 A1 A2 A3 C0 C1 C2 C3
       refine wp_region_quiet_below (by kernel_rfl) (by kernel_rfl) ?_
       repeat (go_big_quiet_step (fail))
       refine wpQuiet_nil ?_
       intro _ hv'
       obtain ⟨⟨dv, osv⟩, hv''⟩ := hv'
       subst hv''
       have D7 : Hid (Below v3.heap.size v3 (grow (redrawn wz dv) osv)) := below2 (by rw [HWZ.out]; exact D6.out) (below_regrown wz dv osv)
       clear Z1 Z2 hw1 hw2
       go_wp2_with fail
       go_roundw
       case rel => exact ⟨j + 1, by omega, by rw [HT8.out], by go_num, D7⟩
       case measure => simp [intOf]; omega
     ·have hzi : 0 < (j : Int) := by omega
      have hsub : IntKind.i64.wrap ((j : Int) - 1) = (i : Int) := by have := HI.out; rw [IntKind.wrap_i64]; omega
      have hii : (i : Int) < (N' : Int) := by have := HI.out; omega
      have hge : ¬ nd ≤ pd := by omega
      refine wp_region_quiet_below (by kernel_rfl) (by kernel_rfl) ?_
      repeat (go_big_quiet_step (fail))
      refine wpQuiet_nil ?_
      intro _ hw'
      obtain ⟨⟨dq, osq⟩, hw''⟩ := hw'
      subst hw''
      have D6 : Hid (Below v3.heap.size v3 (grow (redrawn wr dq) osq)) := below2 HB2.out (below_regrown wr dq osq)
      rcases hr3 with hx | ⟨rfl, ⟨rfl, rfl⟩ | ⟨hro, rfl⟩⟩
      all_goals
       go_wp2_with fail
       obtain ⟨wz, HWZ⟩ : ∃ q, Hid (q = grow (redrawn wr dq) osq) := ⟨_, rfl⟩
       have Z1 : ∀ d os, (grow (redrawn wz d) os).cell? ⟨G1, j * 4 + 1, none⟩ = _ := fun d os => cell_regrown (by rw [HWZ.out]; exact A1 dq osq) d os
       have Z2 : ∀ d os, (grow (redrawn wz d) os).cell? ⟨G1, j * 4 + 2, none⟩ = _ := fun d os => cell_regrown (by rw [HWZ.out]; exact A2 dq osq) d os
       rw [← HWZ.out]
       clear A0 A1 A2 A3 C0 C1 C2 C3
       refine wp_region_quiet_below (by kernel_rfl) (by kernel_rfl) ?_
       repeat (go_big_quiet_step (fail))
       refine wpQuiet_nil ?_
       intro _ hv'
       obtain ⟨⟨dv, osv⟩, hv''⟩ := hv'
       subst hv''
       have D7 : Hid (Below v3.heap.size v3 (grow (redrawn wz dv) osv)) := below2 (by rw [HWZ.out]; exact D6.out) (below_regrown wz dv osv)
       clear Z1 Z2 hw1 hw2
       go_wp2_with fail
       go_roundw
       case rel => exact ⟨j + 1, by omega, by rw [HT8.out], by go_num, D7⟩
       case measure => simp [intOf]; omega
    ·obtain rfl : N' = j := by omega
     rw [HS9.out]
     have HCq : Hid (CodeAt wr a0 len0) := HC.out wr (below2 B1.out (below2 B3.out HB2.out))
     have BQ : Hid (Below w.heap.size w wr) := below2 B1.out (below2 B3.out HB2.out)
     clear HB2 KR0 KR1 KR2 HA HA' HR hlt2 hj HS9 HB D3 B3
     go_wp2_with fail
     refine Calls.mono (drawExpect_any _ _ _ _ HCq.out) ?_
     rintro e v4 ⟨p, ap, cp, s, rfl, hp, hT4, b4⟩
     obtain ⟨v5, HV5⟩ : ∃ q, Hid (q = v4.alloc (.cells (pcC p.r p.k p.n p.i p.b (.slice ap p.m cp)) 32)) := ⟨_, rfl⟩
     obtain ⟨X5, HX5⟩ : ∃ q, Hid (q = v4.heap.size) := ⟨_, rfl⟩
     have b5 : Below v4.heap.size v4 v5 := by rw [HV5.out]; exact (Below.refl _ _).alloc (Nat.le_refl _) _
     have R5a : Hid (Row v5 X5 32 (pcC p.r p.k p.n p.i p.b (.slice ap p.m cp))) := by show Row _ _ _ _; rw [HV5.out, HX5.out]; exact Row.new v4 _ _
     have T5a : Hid (TxtAt v5 ap p.m p.S) := hT4.below b5
     have B5 : Hid (Below w.heap.size w v5) := below2 BQ.out (below2 b4 b5)
     have HC5 : Hid (CodeAt v5 a0 len0) := HC.out v5 B5.out
     have HP : Hid (PcS p) := hp
     clear hp hT4 b4 b5 BQ HCq
     go_wp2_with fail
     rw [← HV5.out, ← HX5.out]
     refine Calls.mono (drawRespond_any _ _ _ _ HC5.out) ?_
     rintro e v6 ⟨id, f, m, S, va, vc, rt, s2, rfl, hR6, hS6, hm6, b6⟩
     obtain ⟨v7, HV7⟩ : ∃ q, Hid (q = v6.alloc (.cells #[.int .i64 id, .int .i64 f, .slice va m vc] 37)) := ⟨_, rfl⟩
     obtain ⟨X7, HX7⟩ : ∃ q, Hid (q = v6.heap.size) := ⟨_, rfl⟩
     have b7 : Below v6.heap.size v6 v7 := by rw [HV7.out]; exact (Below.refl _ _).alloc (Nat.le_refl _) _
     have R7a : Hid (Row v7 X7 37 #[.int .i64 id, .int .i64 f, .slice va m vc]) := by show Row _ _ _ _; rw [HV7.out, HX7.out]; exact Row.new v6 _ _
     have N7 : Hid (Rd v7 (slsD m S) (.slice va m vc)) := hR6.below b7
     have B57 : Hid (Below v5.heap.size v5 v7) := below2 b6 b7
     have B7 : Hid (Below w.heap.size w v7) := below2 B5.out B57.out
     have HC7 : Hid (CodeAt v7 a0 len0) := HC.out v7 B7.out
     have HSS : Hid (∀ i, i < m → SlK (S i)) := fun i hi => (hS6 i hi).2
     have hm64 : m ≤ 64 := hm6
     clear hR6 hS6 b6 b7 HC5 hm6
     go_wp2_with fail
     rw [← HV7.out, ← HX7.out]
     refine Calls.mono (drawSuspects_any _ _ _ _ HC7.out) ?_
     rintro e v8 ⟨g3, n3, G3, C3, M3, x3, rfl, h3, b8⟩
     have B8 : Hid (Below w.heap.size w v8) := below2 B7.out b8
     have R5 : Hid (Row v8 X5 32 (pcC p.r p.k p.n p.i p.b (.slice ap p.m cp))) := R5a.out.below (below2 B57.out b8) R5a.out.lt
     have R7 : Hid (Row v8 X7 37 #[.int .i64 id, .int .i64 f, .slice va m vc]) := R7a.out.below b8 R7a.out.lt
     obtain ⟨ex, HEX⟩ : ∃ q, Hid (exT p.r p.k p.n p.i p.b p.m p.S s = q) := ⟨_, rfl⟩
     obtain ⟨re, HRE⟩ : ∃ q, Hid (reT S rt m s2 = q) := ⟨_, rfl⟩
     obtain ⟨z3, HZ3⟩ : ∃ q, Hid (suI x3 M3 n3 = q) := ⟨_, rfl⟩
     obtain ⟨l3, HL3⟩ : ∃ q, Hid (z3.length = q) := ⟨_, rfl⟩
     have hn3 : n3 ≤ 12 := by have := h3.b; omega
     have hl3 : l3 ≤ 1048576 := by have := suI_len x3 M3 n3; rw [HZ3.out, HL3.out] at this; omega
     have KE1 : Hid (∀ W, Below v8.heap.size v8 W → Calls Tryz.prog 11 #[pcV p.r p.k p.n p.i p.b (.slice ap p.m cp), .string s] W fun e w' => e = .returned (.string ex) ∧ Below W.heap.size W w') := fun W hW => by
      have := expect_any p.r p.k p.n p.i p.b ap p.m cp p.S s W (T5a.out.below (below2 B57.out (below2 b8 hW))) (by have := HP.out.m; omega) (fun i hi => by have := HP.out.s i hi; unfold maxLen; omega) (KTb.out W (below2 B8.out hW))
      rw [HEX.out] at this
      exact this
     have KE2 : Hid (∀ W, Below v8.heap.size v8 W → Calls Tryz.prog 12 #[pcV p.r p.k p.n p.i p.b (.slice ap p.m cp), .string s] W fun e w' => e = .returned (.string ex) ∧ Below W.heap.size W w') := fun W hW => by
      have := sExpect_any p.r p.k p.n p.i p.b ap p.m cp p.S s W (T5a.out.below (below2 B57.out (below2 b8 hW))) (by have := HP.out.m; omega) (fun i hi => by have := HP.out.s i hi; unfold maxLen; omega)
      rw [HEX.out] at this
      exact this
     have KR1 : Hid (∀ W, Below v8.heap.size v8 W → Calls Tryz.prog 13 #[ndV id f (.slice va m vc), .string rt, .string s2] W fun e w' => e = .returned (.string re) ∧ Below W.heap.size W w') := fun W hW => by
      have := respond_any id f va m vc S rt s2 W (N7.out.below (below2 b8 hW)) (by omega) HSS.out (KTb.out W (below2 B8.out hW))
      rw [HRE.out] at this
      exact this
     have KR2 : Hid (∀ W, Below v8.heap.size v8 W → Calls Tryz.prog 14 #[ndV id f (.slice va m vc), .string rt, .string s2] W fun e w' => e = .returned (.string re) ∧ Below W.heap.size W w') := fun W hW => by
      have := sRespond_any id f va m vc S rt s2 W (N7.out.below (below2 b8 hW)) (by omega) (fun i hi => ⟨(HSS.out i hi).m, (HSS.out i hi).ne, (HSS.out i hi).nr⟩) HSS.out
      rw [HRE.out] at this
      exact this
     have KS1 : Hid (∀ W, Below v8.heap.size v8 W → Calls Tryz.prog 16 #[.slice (some ⟨G3, 0, none⟩) n3 C3, .int .i64 x3] W fun e w' => ∃ aW cW, e = .returned (.slice aW l3 cW) ∧ IntsAt w' aW l3 z3 ∧ Below W.heap.size W w') := fun W hW => by
      refine Calls.mono (sus_any (some ⟨G3, 0, none⟩) n3 C3 M3 x3 W (h3.below hW).rd (by omega)) ?_
      rintro e w9 ⟨u9, rfl, o9, b9⟩
      rw [HZ3.out] at o9
      obtain ⟨aW, cW, rfl, WL⟩ := o9.row'
      have WI := WL.ints
      rw [HL3.out] at WI ⊢
      exact ⟨aW, cW, rfl, WI, b9⟩
     have KS2 : Hid (∀ W, Below v8.heap.size v8 W → Calls Tryz.prog 17 #[.slice (some ⟨G3, 0, none⟩) n3 C3, .int .i64 x3] W fun e w' => ∃ aW cW, e = .returned (.slice aW l3 cW) ∧ IntsAt w' aW l3 z3 ∧ Below W.heap.size W w') := fun W hW => by
      refine Calls.mono (sSus_any (some ⟨G3, 0, none⟩) n3 C3 M3 x3 W (h3.below hW).rd (by omega)) ?_
      rintro e w9 ⟨u9, rfl, o9, b9⟩
      rw [HZ3.out] at o9
      obtain ⟨aW, cW, rfl, WL⟩ := o9.row'
      have WI := WL.ints
      rw [HL3.out] at WI ⊢
      exact ⟨aW, cW, rfl, WI, b9⟩
     have hw81 : IntKind.i64.wrap (s8 + 1) = s8 + 1 := by rw [IntKind.wrap_i64]; omega
     clear h3 b8 T5a N7 HP HSS R5a R7a HC HC7 B57 B5 B7 KTb hn3 B1
     go_wp2_with fail
     obtain ⟨Rmk, HRmk⟩ : ∃ R : Act → World → Prop, Hid (∀ A9 W, R A9 W ↔ ∃ (a27 : Option Addr) (c27 : Nat) (a30 : Option Addr) (c30 : Nat), A9 = ⟨(List.toArray (α := Value) ((.slice a0 len0 cap0) :: undef :: (.bool true) :: (.slice (some ⟨G, 0, none⟩) N C) :: (.int .i64 x) :: (.bool b) :: (.slice (some ⟨G1, 0, none⟩) N' C1) :: (.slice (some ⟨G2, 0, none⟩) N' C2) :: (.int .i64 s8) :: (.int .i64 (s8 + 1)) :: (.int .i64 (N : Int)) :: (.int .i64 (N' : Int)) :: (.pointer (some ⟨X5, 0, none⟩)) :: (.string s) :: (.pointer (some ⟨X7, 0, none⟩)) :: (.string rt) :: (.string s2) :: (.slice (some ⟨G3, 0, none⟩) n3 C3) :: (.int .i64 x3) :: (.slice a0 len0 cap0) :: (.bool (decide (1048576 < (len0 : Int)))) :: (.tuple #[.slice (some ⟨G, 0, none⟩) N C, .int .i64 x, .bool b]) :: (.slice a0 len0 cap0) :: (.tuple #[.slice (some ⟨G, 0, none⟩) N C, .int .i64 x, .bool b]) :: (.slice (some ⟨G, 0, none⟩) N C) :: (.int .i64 x) :: (.bool b) :: (.slice (some ⟨G, 0, none⟩) N C) :: (.int .i64 x) :: (.bool b) :: (.slice (some ⟨G1, 0, none⟩) N' C1) :: (.slice (some ⟨G, 0, none⟩) N C) :: (.int .i64 x) :: (.bool b) :: (.slice (some ⟨G2, 0, none⟩) N' C2) :: (.int .i64 (N : Int)) :: (.slice (some ⟨G, 0, none⟩) N C) :: (.int .i64 (N : Int)) :: (.bool false) :: u39 :: u40 :: u41 :: u42 :: u43 :: u44 :: u45 :: u46 :: u47 :: u48 :: u49 :: u50 :: u51 :: u52 :: u53 :: (.slice (some ⟨G1, 0, none⟩) N' C1) :: (.int .i64 (N' : Int)) :: (.slice (some ⟨G2, 0, none⟩) N' C2) :: (.int .i64 (N' : Int)) :: (.bool false) :: (.int .i64 (N' : Int)) :: (.slice (some ⟨G1, 0, none⟩) N' C1) :: (.int .i64 (N' : Int)) :: (.bool false) :: u63 :: u64 :: u65 :: u66 :: u67 :: u68 :: u69 :: u70 :: u71 :: u72 :: u73 :: u74 :: u75 :: u76 :: u77 :: u78 :: u79 :: u80 :: u81 :: u82 :: u83 :: u84 :: u85 :: u86 :: u87 :: u88 :: u89 :: u90 :: u91 :: u92 :: u93 :: u94 :: u95 :: u96 :: u97 :: u98 :: u99 :: u100 :: u101 :: u102 :: u103 :: u104 :: u105 :: u106 :: u107 :: u108 :: u109 :: u110 :: u111 :: u112 :: u113 :: u114 :: u115 :: u116 :: u117 :: u118 :: u119 :: u120 :: u121 :: (.tuple #[pcV p.r p.k p.n p.i p.b (.slice ap p.m cp), .string s]) :: (.slice a0 len0 cap0) :: (.tuple #[pcV p.r p.k p.n p.i p.b (.slice ap p.m cp), .string s]) :: (pcV p.r p.k p.n p.i p.b (.slice ap p.m cp)) :: (.string s) :: (.tuple #[ndV id f (.slice va m vc), .string rt, .string s2]) :: (.slice a0 len0 cap0) :: (.tuple #[ndV id f (.slice va m vc), .string rt, .string s2]) :: (ndV id f (.slice va m vc)) :: (.string rt) :: (.string s2) :: (.tuple #[.slice (some ⟨G3, 0, none⟩) n3 C3, .int .i64 x3]) :: (.slice a0 len0 cap0) :: (.tuple #[.slice (some ⟨G3, 0, none⟩) n3 C3, .int .i64 x3]) :: (.slice (some ⟨G3, 0, none⟩) n3 C3) :: (.int .i64 x3) :: (.int .i64 (s8 + 1)) :: (.int .i64 s8) :: (.int .i64 (s8 + 1)) :: (.bool true) :: (.bool true) :: (.agg (pcC p.r p.k p.n p.i p.b (.slice ap p.m cp))) :: (.string s) :: (.string ex) :: (.agg (pcC p.r p.k p.n p.i p.b (.slice ap p.m cp))) :: (.string s) :: (.string ex) :: (.bool true) :: (.bool true) :: (.bool true) :: (.agg #[.int .i64 id, .int .i64 f, .slice va m vc]) :: (.string rt) :: (.string s2) :: (.string re) :: (.agg #[.int .i64 id, .int .i64 f, .slice va m vc]) :: (.string rt) :: (.string s2) :: (.string re) :: (.bool true) :: (.bool true) :: (.bool true) :: (.slice (some ⟨G3, 0, none⟩) n3 C3) :: (.int .i64 x3) :: (.slice a27 l3 c27) :: (.slice (some ⟨G3, 0, none⟩) n3 C3) :: (.int .i64 x3) :: (.slice a30 l3 c30) :: (.bool true) :: (.bool true) :: [])), []⟩ ∧ (Below v8.heap.size v8 W)) := ⟨fun A9 W => _, fun _ _ => Iff.rfl⟩
     refine wp_region_post Rmk ?_ ?_
     rotate_left
     ·intro a9 wx hR9
      obtain ⟨a27, c27, a30, c30, rfl, hf0⟩ := (HRmk.out a9 wx).1 hR9
      clear hR9 HRmk
      have KE : Hid (Below v8.heap.size v8 wx) := hf0
      clear hf0 KE1 KE2 KR1 KR2 KS1 KS2 R5 R7
      go_wp2
      go_ret
      exact ⟨rfl, below2 B8.out KE.out⟩
     refine wp_region_cl Tryz.mixed (by kernel_rfl) (fun L A9 W => ∃ (a27 : Option Addr) (c27 : Nat) (a30 : Option Addr) (c30 : Nat), A9 = ⟨(List.toArray (α := Value) ((.slice a0 len0 cap0) :: undef :: (cX (L 33) (.bool true) u2) :: (.slice (some ⟨G, 0, none⟩) N C) :: (.int .i64 x) :: (.bool b) :: (.slice (some ⟨G1, 0, none⟩) N' C1) :: (.slice (some ⟨G2, 0, none⟩) N' C2) :: (.int .i64 s8) :: (.int .i64 (s8 + 1)) :: (.int .i64 (N : Int)) :: (.int .i64 (N' : Int)) :: (.pointer (some ⟨X5, 0, none⟩)) :: (.string s) :: (.pointer (some ⟨X7, 0, none⟩)) :: (.string rt) :: (.string s2) :: (.slice (some ⟨G3, 0, none⟩) n3 C3) :: (.int .i64 x3) :: (.slice a0 len0 cap0) :: (.bool (decide (1048576 < (len0 : Int)))) :: (.tuple #[.slice (some ⟨G, 0, none⟩) N C, .int .i64 x, .bool b]) :: (.slice a0 len0 cap0) :: (.tuple #[.slice (some ⟨G, 0, none⟩) N C, .int .i64 x, .bool b]) :: (.slice (some ⟨G, 0, none⟩) N C) :: (.int .i64 x) :: (.bool b) :: (.slice (some ⟨G, 0, none⟩) N C) :: (.int .i64 x) :: (.bool b) :: (.slice (some ⟨G1, 0, none⟩) N' C1) :: (.slice (some ⟨G, 0, none⟩) N C) :: (.int .i64 x) :: (.bool b) :: (.slice (some ⟨G2, 0, none⟩) N' C2) :: (.int .i64 (N : Int)) :: (.slice (some ⟨G, 0, none⟩) N C) :: (.int .i64 (N : Int)) :: (.bool false) :: u39 :: u40 :: u41 :: u42 :: u43 :: u44 :: u45 :: u46 :: u47 :: u48 :: u49 :: u50 :: u51 :: u52 :: u53 :: (.slice (some ⟨G1, 0, none⟩) N' C1) :: (.int .i64 (N' : Int)) :: (.slice (some ⟨G2, 0, none⟩) N' C2) :: (.int .i64 (N' : Int)) :: (.bool false) :: (.int .i64 (N' : Int)) :: (.slice (some ⟨G1, 0, none⟩) N' C1) :: (.int .i64 (N' : Int)) :: (.bool false) :: u63 :: u64 :: u65 :: u66 :: u67 :: u68 :: u69 :: u70 :: u71 :: u72 :: u73 :: u74 :: u75 :: u76 :: u77 :: u78 :: u79 :: u80 :: u81 :: u82 :: u83 :: u84 :: u85 :: u86 :: u87 :: u88 :: u89 :: u90 :: u91 :: u92 :: u93 :: u94 :: u95 :: u96 :: u97 :: u98 :: u99 :: u100 :: u101 :: u102 :: u103 :: u104 :: u105 :: u106 :: u107 :: u108 :: u109 :: u110 :: u111 :: u112 :: u113 :: u114 :: u115 :: u116 :: u117 :: u118 :: u119 :: u120 :: u121 :: (.tuple #[pcV p.r p.k p.n p.i p.b (.slice ap p.m cp), .string s]) :: (.slice a0 len0 cap0) :: (.tuple #[pcV p.r p.k p.n p.i p.b (.slice ap p.m cp), .string s]) :: (pcV p.r p.k p.n p.i p.b (.slice ap p.m cp)) :: (.string s) :: (.tuple #[ndV id f (.slice va m vc), .string rt, .string s2]) :: (.slice a0 len0 cap0) :: (.tuple #[ndV id f (.slice va m vc), .string rt, .string s2]) :: (ndV id f (.slice va m vc)) :: (.string rt) :: (.string s2) :: (.tuple #[.slice (some ⟨G3, 0, none⟩) n3 C3, .int .i64 x3]) :: (.slice a0 len0 cap0) :: (.tuple #[.slice (some ⟨G3, 0, none⟩) n3 C3, .int .i64 x3]) :: (.slice (some ⟨G3, 0, none⟩) n3 C3) :: (.int .i64 x3) :: (cX (L 0) (.int .i64 (s8 + 1)) undef) :: (cX (L 1) (.int .i64 s8) undef) :: (cX (L 2) (.int .i64 (s8 + 1)) undef) :: (cX (L 3) (.bool true) undef) :: (cX (L 4) (.bool true) undef) :: (cX (L 5) (.agg (pcC p.r p.k p.n p.i p.b (.slice ap p.m cp))) undef) :: (cX (L 6) (.string s) undef) :: (cX (L 7) (.string ex) undef) :: (cX (L 8) (.agg (pcC p.r p.k p.n p.i p.b (.slice ap p.m cp))) undef) :: (cX (L 9) (.string s) undef) :: (cX (L 10) (.string ex) undef) :: (cX (L 11) (.bool true) undef) :: (cX (L 12) (.bool true) undef) :: (cX (L 13) (.bool true) undef) :: (cX (L 14) (.agg #[.int .i64 id, .int .i64 f, .slice va m vc]) undef) :: (cX (L 15) (.string rt) undef) :: (cX (L 16) (.string s2) undef) :: (cX (L 17) (.string re) undef) :: (cX (L 18) (.agg #[.int .i64 id, .int .i64 f, .slice va m vc]) undef) :: (cX (L 19) (.string rt) undef) :: (cX (L 20) (.string s2) undef) :: (cX (L 21) (.string re) undef) :: (cX (L 22) (.bool true) undef) :: (cX (L 23) (.bool true) undef) :: (cX (L 24) (.bool true) undef) :: (cX (L 25) (.slice (some ⟨G3, 0, none⟩) n3 C3) undef) :: (cX (L 26) (.int .i64 x3) undef) :: (cX (L 27) (.slice a27 l3 c27) undef) :: (cX (L 28) (.slice (some ⟨G3, 0, none⟩) n3 C3) undef) :: (cX (L 29) (.int .i64 x3) undef) :: (cX (L 30) (.slice a30 l3 c30) undef) :: (cX (L 31) (.bool true) undef) :: (cX (L 32) (.bool true) undef) :: [])), []⟩ ∧ (Below v8.heap.size v8 W) ∧ (L 27 = true → IntsAt W a27 l3 z3) ∧ (L 30 = true → IntsAt W a30 l3 z3)) ?_ ?_ ?_
     ·exact ⟨none, 0, none, 0, rfl, below_drew _, (fun h => by cases h), (fun h => by cases h)⟩
     ·intro q9 hq9 L a9 W hl hd hcl hI9
      obtain ⟨a27, c27, a30, c30, rfl, h0, h1, h2⟩ := hI9
      match q9, hq9 with
      | 0, _ =>
       have e0 := hl
       have e27 : L 27 = false := by cases h9 : L 27 with | false => rfl | true => rw [((hcl 3 ((hcl 4 ((hcl 12 ((hcl 13 ((hcl 23 ((hcl 24 ((hcl 27 h9).dep 24 (by kernel_rfl))).dep 23 (by kernel_rfl))).dep 13 (by kernel_rfl))).dep 12 (by kernel_rfl))).dep 4 (by kernel_rfl))).dep 3 (by kernel_rfl))).dep 0 (by kernel_rfl))] at hl; cases hl
       have e30 : L 30 = false := by cases h9 : L 30 with | false => rfl | true => rw [((hcl 3 ((hcl 4 ((hcl 12 ((hcl 13 ((hcl 23 ((hcl 24 ((hcl 30 h9).dep 24 (by kernel_rfl))).dep 23 (by kernel_rfl))).dep 13 (by kernel_rfl))).dep 12 (by kernel_rfl))).dep 4 (by kernel_rfl))).dep 3 (by kernel_rfl))).dep 0 (by kernel_rfl))] at hl; cases hl
       refine wpOp_plain rfl (fun _ => rfl) fun K hK => ?_
       go_simp
       exact hK _ _ ⟨a27, c27, a30, c30, (by simp only [Nat.reduceBEq, Bool.false_or, Bool.true_or, cX_y, e27, e30]), (h0), (fun k0 => absurd (show L 27 = true from k0) (by rw [e27]; simp)), (fun k0 => absurd (show L 30 = true from k0) (by rw [e30]; simp))⟩
      | 1, _ =>
       have e1 := hl
       have e27 : L 27 = false := by cases h9 : L 27 with | false => rfl | true => rw [((hcl 2 ((hcl 3 ((hcl 4 ((hcl 12 ((hcl 13 ((hcl 23 ((hcl 24 ((hcl 27 h9).dep 24 (by kernel_rfl))).dep 23 (by kernel_rfl))).dep 13 (by kernel_rfl))).dep 12 (by kernel_rfl))).dep 4 (by kernel_rfl))).dep 3 (by kernel_rfl))).dep 2 (by kernel_rfl))).dep 1 (by kernel_rfl))] at hl; cases hl
       have e30 : L 30 = false := by cases h9 : L 30 with | false => rfl | true => rw [((hcl 2 ((hcl 3 ((hcl 4 ((hcl 12 ((hcl 13 ((hcl 23 ((hcl 24 ((hcl 30 h9).dep 24 (by kernel_rfl))).dep 23 (by kernel_rfl))).dep 13 (by kernel_rfl))).dep 12 (by kernel_rfl))).dep 4 (by kernel_rfl))).dep 3 (by kernel_rfl))).dep 2 (by kernel_rfl))).dep 1 (by kernel_rfl))] at hl; cases hl
       refine wpOp_plain rfl (fun _ => rfl) fun K hK => ?_
       go_simp
       exact hK _ _ ⟨a27, c27, a30, c30, (by simp only [Nat.reduceBEq, Bool.false_or, Bool.true_or, cX_y, e27, e30]), (h0), (fun k0 => absurd (show L 27 = true from k0) (by rw [e27]; simp)), (fun k0 => absurd (show L 30 = true from k0) (by rw [e30]; simp))⟩
      | 2, _ =>
       have d1 := hd.dep 1 (by kernel_rfl)
       have e2 := hl
       have e27 : L 27 = false := by cases h9 : L 27 with | false => rfl | true => rw [((hcl 3 ((hcl 4 ((hcl 12 ((hcl 13 ((hcl 23 ((hcl 24 ((hcl 27 h9).dep 24 (by kernel_rfl))).dep 23 (by kernel_rfl))).dep 13 (by kernel_rfl))).dep 12 (by kernel_rfl))).dep 4 (by kernel_rfl))).dep 3 (by kernel_rfl))).dep 2 (by kernel_rfl))] at hl; cases hl
       have e30 : L 30 = false := by cases h9 : L 30 with | false => rfl | true => rw [((hcl 3 ((hcl 4 ((hcl 12 ((hcl 13 ((hcl 23 ((hcl 24 ((hcl 30 h9).dep 24 (by kernel_rfl))).dep 23 (by kernel_rfl))).dep 13 (by kernel_rfl))).dep 12 (by kernel_rfl))).dep 4 (by kernel_rfl))).dep 3 (by kernel_rfl))).dep 2 (by kernel_rfl))] at hl; cases hl
       have g9 := hw81
       refine wpOp_plain rfl (fun _ => rfl) fun K hK => ?_
       simp only [d1, cX_y]
       go_simp
       exact hK _ _ ⟨a27, c27, a30, c30, (by simp only [Nat.reduceBEq, Bool.false_or, Bool.true_or, cX_y, d1, e27, e30]), (h0), (fun k0 => absurd (show L 27 = true from k0) (by rw [e27]; simp)), (fun k0 => absurd (show L 30 = true from k0) (by rw [e30]; simp))⟩
      | 3, _ =>
       have d0 := hd.dep 0 (by kernel_rfl)
       have d2 := hd.dep 2 (by kernel_rfl)
       have e3 := hl
       have e27 : L 27 = false := by cases h9 : L 27 with | false => rfl | true => rw [((hcl 4 ((hcl 12 ((hcl 13 ((hcl 23 ((hcl 24 ((hcl 27 h9).dep 24 (by kernel_rfl))).dep 23 (by kernel_rfl))).dep 13 (by kernel_rfl))).dep 12 (by kernel_rfl))).dep 4 (by kernel_rfl))).dep 3 (by kernel_rfl))] at hl; cases hl
       have e30 : L 30 = false := by cases h9 : L 30 with | false => rfl | true => rw [((hcl 4 ((hcl 12 ((hcl 13 ((hcl 23 ((hcl 24 ((hcl 30 h9).dep 24 (by kernel_rfl))).dep 23 (by kernel_rfl))).dep 13 (by kernel_rfl))).dep 12 (by kernel_rfl))).dep 4 (by kernel_rfl))).dep 3 (by kernel_rfl))] at hl; cases hl
       refine wpOp_plain rfl (fun _ => rfl) fun K hK => ?_
       simp only [d0, d2, cX_y]
       go_simp
       exact hK _ _ ⟨a27, c27, a30, c30, (by simp only [Nat.reduceBEq, Bool.false_or, Bool.true_or, cX_y, d0, d2, e27, e30]), (h0), (fun k0 => absurd (show L 27 = true from k0) (by rw [e27]; simp)), (fun k0 => absurd (show L 30 = true from k0) (by rw [e30]; simp))⟩
      | 4, _ =>
       have d3 := hd.dep 3 (by kernel_rfl)
       have e4 := hl
       have e27 : L 27 = false := by cases h9 : L 27 with | false => rfl | true => rw [((hcl 12 ((hcl 13 ((hcl 23 ((hcl 24 ((hcl 27 h9).dep 24 (by kernel_rfl))).dep 23 (by kernel_rfl))).dep 13 (by kernel_rfl))).dep 12 (by kernel_rfl))).dep 4 (by kernel_rfl))] at hl; cases hl
       have e30 : L 30 = false := by cases h9 : L 30 with | false => rfl | true => rw [((hcl 12 ((hcl 13 ((hcl 23 ((hcl 24 ((hcl 30 h9).dep 24 (by kernel_rfl))).dep 23 (by kernel_rfl))).dep 13 (by kernel_rfl))).dep 12 (by kernel_rfl))).dep 4 (by kernel_rfl))] at hl; cases hl
       refine wpOp_plain rfl (fun _ => rfl) fun K hK => ?_
       simp only [d3, cX_y]
       go_simp
       exact hK _ _ ⟨a27, c27, a30, c30, (by simp only [Nat.reduceBEq, Bool.false_or, Bool.true_or, cX_y, d3, e27, e30]), (h0), (fun k0 => absurd (show L 27 = true from k0) (by rw [e27]; simp)), (fun k0 => absurd (show L 30 = true from k0) (by rw [e30]; simp))⟩
      | 5, _ =>
       have d4 := hd.dep 4 (by kernel_rfl)
       have e5 := hl
       have e27 : L 27 = false := by cases h9 : L 27 with | false => rfl | true => rw [((hcl 7 ((hcl 11 ((hcl 12 ((hcl 13 ((hcl 23 ((hcl 24 ((hcl 27 h9).dep 24 (by kernel_rfl))).dep 23 (by kernel_rfl))).dep 13 (by kernel_rfl))).dep 12 (by kernel_rfl))).dep 11 (by kernel_rfl))).dep 7 (by kernel_rfl))).dep 5 (by kernel_rfl))] at hl; cases hl
       have e30 : L 30 = false := by cases h9 : L 30 with | false => rfl | true => rw [((hcl 7 ((hcl 11 ((hcl 12 ((hcl 13 ((hcl 23 ((hcl 24 ((hcl 30 h9).dep 24 (by kernel_rfl))).dep 23 (by kernel_rfl))).dep 13 (by kernel_rfl))).dep 12 (by kernel_rfl))).dep 11 (by kernel_rfl))).dep 7 (by kernel_rfl))).dep 5 (by kernel_rfl))] at hl; cases hl
       refine wpOp_take rfl (by simp only [d4, cX_y]; rfl) fun K hK => ?_
       simp only [d4, cX_y]
       refine wp_load_row 32 _ rfl X5 (by rfl) 32 (pcC p.r p.k p.n p.i p.b (.slice ap p.m cp)) (0, 0) _ (R5.out.below h0 R5.out.lt) Tryz.underlying32 (by rfl) Tryz.infoPc ?_
       exact hK _ _ ⟨a27, c27, a30, c30, (by simp [Act.put, cX_y, d4]), (h0), (fun k0 => absurd (show L 27 = true from k0) (by rw [e27]; simp)), (fun k0 => absurd (show L 30 = true from k0) (by rw [e30]; simp))⟩
      | 6, _ =>
       have d4 := hd.dep 4 (by kernel_rfl)
       have e6 := hl
       have e27 : L 27 = false := by cases h9 : L 27 with | false => rfl | true => rw [((hcl 7 ((hcl 11 ((hcl 12 ((hcl 13 ((hcl 23 ((hcl 24 ((hcl 27 h9).dep 24 (by kernel_rfl))).dep 23 (by kernel_rfl))).dep 13 (by kernel_rfl))).dep 12 (by kernel_rfl))).dep 11 (by kernel_rfl))).dep 7 (by kernel_rfl))).dep 6 (by kernel_rfl))] at hl; cases hl
       have e30 : L 30 = false := by cases h9 : L 30 with | false => rfl | true => rw [((hcl 7 ((hcl 11 ((hcl 12 ((hcl 13 ((hcl 23 ((hcl 24 ((hcl 30 h9).dep 24 (by kernel_rfl))).dep 23 (by kernel_rfl))).dep 13 (by kernel_rfl))).dep 12 (by kernel_rfl))).dep 11 (by kernel_rfl))).dep 7 (by kernel_rfl))).dep 6 (by kernel_rfl))] at hl; cases hl
       refine wpOp_take rfl (by simp only [d4, cX_y]; rfl) fun K hK => ?_
       simp only [d4, cX_y]
       go_simp
       exact hK _ _ ⟨a27, c27, a30, c30, (by simp only [Nat.reduceBEq, Bool.false_or, Bool.true_or, cX_y, d4, e27, e30]), (h0), (fun k0 => absurd (show L 27 = true from k0) (by rw [e27]; simp)), (fun k0 => absurd (show L 30 = true from k0) (by rw [e30]; simp))⟩
      | 7, _ =>
       have d4 := hd.dep 4 (by kernel_rfl)
       have d5 := hd.dep 5 (by kernel_rfl)
       have d6 := hd.dep 6 (by kernel_rfl)
       have e7 := hl
       have e27 : L 27 = false := by cases h9 : L 27 with | false => rfl | true => rw [((hcl 11 ((hcl 12 ((hcl 13 ((hcl 23 ((hcl 24 ((hcl 27 h9).dep 24 (by kernel_rfl))).dep 23 (by kernel_rfl))).dep 13 (by kernel_rfl))).dep 12 (by kernel_rfl))).dep 11 (by kernel_rfl))).dep 7 (by kernel_rfl))] at hl; cases hl
       have e30 : L 30 = false := by cases h9 : L 30 with | false => rfl | true => rw [((hcl 11 ((hcl 12 ((hcl 13 ((hcl 23 ((hcl 24 ((hcl 30 h9).dep 24 (by kernel_rfl))).dep 23 (by kernel_rfl))).dep 13 (by kernel_rfl))).dep 12 (by kernel_rfl))).dep 11 (by kernel_rfl))).dep 7 (by kernel_rfl))] at hl; cases hl
       refine wpOp_take rfl (by simp only [d4, cX_y]; rfl) fun K hK => ?_
       simp only [d4, d5, d6, cX_y]
       go_simp
       refine Calls.mono (KE1.out W h0) ?_
       rintro e w9 ⟨rfl, b9⟩
       exact hK _ _ ⟨a27, c27, a30, c30, (by simp only [Nat.reduceBEq, Bool.false_or, Bool.true_or, cX_y, d4, d5, d6, e27, e30]), (below2 h0 b9), (fun k0 => absurd (show L 27 = true from k0) (by rw [e27]; simp)), (fun k0 => absurd (show L 30 = true from k0) (by rw [e30]; simp))⟩
      | 8, _ =>
       have d4 := hd.dep 4 (by kernel_rfl)
       have e8 := hl
       have e27 : L 27 = false := by cases h9 : L 27 with | false => rfl | true => rw [((hcl 10 ((hcl 11 ((hcl 12 ((hcl 13 ((hcl 23 ((hcl 24 ((hcl 27 h9).dep 24 (by kernel_rfl))).dep 23 (by kernel_rfl))).dep 13 (by kernel_rfl))).dep 12 (by kernel_rfl))).dep 11 (by kernel_rfl))).dep 10 (by kernel_rfl))).dep 8 (by kernel_rfl))] at hl; cases hl
       have e30 : L 30 = false := by cases h9 : L 30 with | false => rfl | true => rw [((hcl 10 ((hcl 11 ((hcl 12 ((hcl 13 ((hcl 23 ((hcl 24 ((hcl 30 h9).dep 24 (by kernel_rfl))).dep 23 (by kernel_rfl))).dep 13 (by kernel_rfl))).dep 12 (by kernel_rfl))).dep 11 (by kernel_rfl))).dep 10 (by kernel_rfl))).dep 8 (by kernel_rfl))] at hl; cases hl
       refine wpOp_take rfl (by simp only [d4, cX_y]; rfl) fun K hK => ?_
       simp only [d4, cX_y]
       refine wp_load_row 32 _ rfl X5 (by rfl) 32 (pcC p.r p.k p.n p.i p.b (.slice ap p.m cp)) (0, 0) _ (R5.out.below h0 R5.out.lt) Tryz.underlying32 (by rfl) Tryz.infoPc ?_
       exact hK _ _ ⟨a27, c27, a30, c30, (by simp [Act.put, cX_y, d4]), (h0), (fun k0 => absurd (show L 27 = true from k0) (by rw [e27]; simp)), (fun k0 => absurd (show L 30 = true from k0) (by rw [e30]; simp))⟩
      | 9, _ =>
       have d4 := hd.dep 4 (by kernel_rfl)
       have e9 := hl
       have e27 : L 27 = false := by cases h9 : L 27 with | false => rfl | true => rw [((hcl 10 ((hcl 11 ((hcl 12 ((hcl 13 ((hcl 23 ((hcl 24 ((hcl 27 h9).dep 24 (by kernel_rfl))).dep 23 (by kernel_rfl))).dep 13 (by kernel_rfl))).dep 12 (by kernel_rfl))).dep 11 (by kernel_rfl))).dep 10 (by kernel_rfl))).dep 9 (by kernel_rfl))] at hl; cases hl
       have e30 : L 30 = false := by cases h9 : L 30 with | false => rfl | true => rw [((hcl 10 ((hcl 11 ((hcl 12 ((hcl 13 ((hcl 23 ((hcl 24 ((hcl 30 h9).dep 24 (by kernel_rfl))).dep 23 (by kernel_rfl))).dep 13 (by kernel_rfl))).dep 12 (by kernel_rfl))).dep 11 (by kernel_rfl))).dep 10 (by kernel_rfl))).dep 9 (by kernel_rfl))] at hl; cases hl
       refine wpOp_take rfl (by simp only [d4, cX_y]; rfl) fun K hK => ?_
       simp only [d4, cX_y]
       go_simp
       exact hK _ _ ⟨a27, c27, a30, c30, (by simp only [Nat.reduceBEq, Bool.false_or, Bool.true_or, cX_y, d4, e27, e30]), (h0), (fun k0 => absurd (show L 27 = true from k0) (by rw [e27]; simp)), (fun k0 => absurd (show L 30 = true from k0) (by rw [e30]; simp))⟩
      | 10, _ =>
       have d4 := hd.dep 4 (by kernel_rfl)
       have d8 := hd.dep 8 (by kernel_rfl)
       have d9 := hd.dep 9 (by kernel_rfl)
       have e10 := hl
       have e27 : L 27 = false := by cases h9 : L 27 with | false => rfl | true => rw [((hcl 11 ((hcl 12 ((hcl 13 ((hcl 23 ((hcl 24 ((hcl 27 h9).dep 24 (by kernel_rfl))).dep 23 (by kernel_rfl))).dep 13 (by kernel_rfl))).dep 12 (by kernel_rfl))).dep 11 (by kernel_rfl))).dep 10 (by kernel_rfl))] at hl; cases hl
       have e30 : L 30 = false := by cases h9 : L 30 with | false => rfl | true => rw [((hcl 11 ((hcl 12 ((hcl 13 ((hcl 23 ((hcl 24 ((hcl 30 h9).dep 24 (by kernel_rfl))).dep 23 (by kernel_rfl))).dep 13 (by kernel_rfl))).dep 12 (by kernel_rfl))).dep 11 (by kernel_rfl))).dep 10 (by kernel_rfl))] at hl; cases hl
       refine wpOp_take rfl (by simp only [d4, cX_y]; rfl) fun K hK => ?_
       simp only [d4, d8, d9, cX_y]
       go_simp
       refine Calls.mono (KE2.out W h0) ?_
       rintro e w9 ⟨rfl, b9⟩
       exact hK _ _ ⟨a27, c27, a30, c30, (by simp only [Nat.reduceBEq, Bool.false_or, Bool.true_or, cX_y, d4, d8, d9, e27, e30]), (below2 h0 b9), (fun k0 => absurd (show L 27 = true from k0) (by rw [e27]; simp)), (fun k0 => absurd (show L 30 = true from k0) (by rw [e30]; simp))⟩
      | 11, _ =>
       have d4 := hd.dep 4 (by kernel_rfl)
       have d7 := hd.dep 7 (by kernel_rfl)
       have d10 := hd.dep 10 (by kernel_rfl)
       have e11 := hl
       have e27 : L 27 = false := by cases h9 : L 27 with | false => rfl | true => rw [((hcl 12 ((hcl 13 ((hcl 23 ((hcl 24 ((hcl 27 h9).dep 24 (by kernel_rfl))).dep 23 (by kernel_rfl))).dep 13 (by kernel_rfl))).dep 12 (by kernel_rfl))).dep 11 (by kernel_rfl))] at hl; cases hl
       have e30 : L 30 = false := by cases h9 : L 30 with | false => rfl | true => rw [((hcl 12 ((hcl 13 ((hcl 23 ((hcl 24 ((hcl 30 h9).dep 24 (by kernel_rfl))).dep 23 (by kernel_rfl))).dep 13 (by kernel_rfl))).dep 12 (by kernel_rfl))).dep 11 (by kernel_rfl))] at hl; cases hl
       have g9 : (ex.toList == ex.toList) = true := by simp
       refine wpOp_take rfl (by simp only [d4, cX_y]; rfl) fun K hK => ?_
       simp only [d4, d7, d10, cX_y]
       go_simp
       exact hK _ _ ⟨a27, c27, a30, c30, (by simp only [Nat.reduceBEq, Bool.false_or, Bool.true_or, cX_y, d4, d7, d10, e27, e30]), (h0), (fun k0 => absurd (show L 27 = true from k0) (by rw [e27]; simp)), (fun k0 => absurd (show L 30 = true from k0) (by rw [e30]; simp))⟩
      | 12, _ =>
       have d4 := hd.dep 4 (by kernel_rfl)
       have d11 := hd.dep 11 (by kernel_rfl)
       have e12 := hl
       have e27 : L 27 = false := by cases h9 : L 27 with | false => rfl | true => rw [((hcl 13 ((hcl 23 ((hcl 24 ((hcl 27 h9).dep 24 (by kernel_rfl))).dep 23 (by kernel_rfl))).dep 13 (by kernel_rfl))).dep 12 (by kernel_rfl))] at hl; cases hl
       have e30 : L 30 = false := by cases h9 : L 30 with | false => rfl | true => rw [((hcl 13 ((hcl 23 ((hcl 24 ((hcl 30 h9).dep 24 (by kernel_rfl))).dep 23 (by kernel_rfl))).dep 13 (by kernel_rfl))).dep 12 (by kernel_rfl))] at hl; cases hl
       refine wpOp_plain rfl (fun _ => rfl) fun K hK => ?_
       simp only [d4, d11, cX_y]
       go_simp
       exact hK _ _ ⟨a27, c27, a30, c30, (by simp only [Nat.reduceBEq, Bool.false_or, Bool.true_or, cX_y, d4, d11, e27, e30]), (h0), (fun k0 => absurd (show L 27 = true from k0) (by rw [e27]; simp)), (fun k0 => absurd (show L 30 = true from k0) (by rw [e30]; simp))⟩
      | 13, _ =>
       have d12 := hd.dep 12 (by kernel_rfl)
       have e13 := hl
       have e27 : L 27 = false := by cases h9 : L 27 with | false => rfl | true => rw [((hcl 23 ((hcl 24 ((hcl 27 h9).dep 24 (by kernel_rfl))).dep 23 (by kernel_rfl))).dep 13 (by kernel_rfl))] at hl; cases hl
       have e30 : L 30 = false := by cases h9 : L 30 with | false => rfl | true => rw [((hcl 23 ((hcl 24 ((hcl 30 h9).dep 24 (by kernel_rfl))).dep 23 (by kernel_rfl))).dep 13 (by kernel_rfl))] at hl; cases hl
       refine wpOp_plain rfl (fun _ => rfl) fun K hK => ?_
       simp only [d12, cX_y]
       go_simp
       exact hK _ _ ⟨a27, c27, a30, c30, (by simp only [Nat.reduceBEq, Bool.false_or, Bool.true_or, cX_y, d12, e27, e30]), (h0), (fun k0 => absurd (show L 27 = true from k0) (by rw [e27]; simp)), (fun k0 => absurd (show L 30 = true from k0) (by rw [e30]; simp))⟩
      | 14, _ =>
       have d13 := hd.dep 13 (by kernel_rfl)
       have e14 := hl
       have e27 : L 27 = false := by cases h9 : L 27 with | false => rfl | true => rw [((hcl 17 ((hcl 22 ((hcl 23 ((hcl 24 ((hcl 27 h9).dep 24 (by kernel_rfl))).dep 23 (by kernel_rfl))).dep 22 (by kernel_rfl))).dep 17 (by kernel_rfl))).dep 14 (by kernel_rfl))] at hl; cases hl
       have e30 : L 30 = false := by cases h9 : L 30 with | false => rfl | true => rw [((hcl 17 ((hcl 22 ((hcl 23 ((hcl 24 ((hcl 30 h9).dep 24 (by kernel_rfl))).dep 23 (by kernel_rfl))).dep 22 (by kernel_rfl))).dep 17 (by kernel_rfl))).dep 14 (by kernel_rfl))] at hl; cases hl
       refine wpOp_take rfl (by simp only [d13, cX_y]; rfl) fun K hK => ?_
       simp only [d13, cX_y]
       refine wp_load_row 37 _ rfl X7 (by rfl) 37 #[.int .i64 id, .int .i64 f, .slice va m vc] (0, 0) _ (R7.out.below h0 R7.out.lt) Tryz.underlying37 (by rfl) Tryz.infoNd ?_
       exact hK _ _ ⟨a27, c27, a30, c30, (by simp [Act.put, cX_y, d13]), (h0), (fun k0 => absurd (show L 27 = true from k0) (by rw [e27]; simp)), (fun k0 => absurd (show L 30 = true from k0) (by rw [e30]; simp))⟩
      | 15, _ =>
       have d13 := hd.dep 13 (by kernel_rfl)
       have e15 := hl
       have e27 : L 27 = false := by cases h9 : L 27 with | false => rfl | true => rw [((hcl 17 ((hcl 22 ((hcl 23 ((hcl 24 ((hcl 27 h9).dep 24 (by kernel_rfl))).dep 23 (by kernel_rfl))).dep 22 (by kernel_rfl))).dep 17 (by kernel_rfl))).dep 15 (by kernel_rfl))] at hl; cases hl
       have e30 : L 30 = false := by cases h9 : L 30 with | false => rfl | true => rw [((hcl 17 ((hcl 22 ((hcl 23 ((hcl 24 ((hcl 30 h9).dep 24 (by kernel_rfl))).dep 23 (by kernel_rfl))).dep 22 (by kernel_rfl))).dep 17 (by kernel_rfl))).dep 15 (by kernel_rfl))] at hl; cases hl
       refine wpOp_take rfl (by simp only [d13, cX_y]; rfl) fun K hK => ?_
       simp only [d13, cX_y]
       go_simp
       exact hK _ _ ⟨a27, c27, a30, c30, (by simp only [Nat.reduceBEq, Bool.false_or, Bool.true_or, cX_y, d13, e27, e30]), (h0), (fun k0 => absurd (show L 27 = true from k0) (by rw [e27]; simp)), (fun k0 => absurd (show L 30 = true from k0) (by rw [e30]; simp))⟩
      | 16, _ =>
       have d13 := hd.dep 13 (by kernel_rfl)
       have e16 := hl
       have e27 : L 27 = false := by cases h9 : L 27 with | false => rfl | true => rw [((hcl 17 ((hcl 22 ((hcl 23 ((hcl 24 ((hcl 27 h9).dep 24 (by kernel_rfl))).dep 23 (by kernel_rfl))).dep 22 (by kernel_rfl))).dep 17 (by kernel_rfl))).dep 16 (by kernel_rfl))] at hl; cases hl
       have e30 : L 30 = false := by cases h9 : L 30 with | false => rfl | true => rw [((hcl 17 ((hcl 22 ((hcl 23 ((hcl 24 ((hcl 30 h9).dep 24 (by kernel_rfl))).dep 23 (by kernel_rfl))).dep 22 (by kernel_rfl))).dep 17 (by kernel_rfl))).dep 16 (by kernel_rfl))] at hl; cases hl
       refine wpOp_take rfl (by simp only [d13, cX_y]; rfl) fun K hK => ?_
       simp only [d13, cX_y]
       go_simp
       exact hK _ _ ⟨a27, c27, a30, c30, (by simp only [Nat.reduceBEq, Bool.false_or, Bool.true_or, cX_y, d13, e27, e30]), (h0), (fun k0 => absurd (show L 27 = true from k0) (by rw [e27]; simp)), (fun k0 => absurd (show L 30 = true from k0) (by rw [e30]; simp))⟩
      | 17, _ =>
       have d13 := hd.dep 13 (by kernel_rfl)
       have d14 := hd.dep 14 (by kernel_rfl)
       have d15 := hd.dep 15 (by kernel_rfl)
       have d16 := hd.dep 16 (by kernel_rfl)
       have e17 := hl
       have e27 : L 27 = false := by cases h9 : L 27 with | false => rfl | true => rw [((hcl 22 ((hcl 23 ((hcl 24 ((hcl 27 h9).dep 24 (by kernel_rfl))).dep 23 (by kernel_rfl))).dep 22 (by kernel_rfl))).dep 17 (by kernel_rfl))] at hl; cases hl
       have e30 : L 30 = false := by cases h9 : L 30 with | false => rfl | true => rw [((hcl 22 ((hcl 23 ((hcl 24 ((hcl 30 h9).dep 24 (by kernel_rfl))).dep 23 (by kernel_rfl))).dep 22 (by kernel_rfl))).dep 17 (by kernel_rfl))] at hl; cases hl
       refine wpOp_take rfl (by simp only [d13, cX_y]; rfl) fun K hK => ?_
       simp only [d13, d14, d15, d16, cX_y]
       go_simp
       refine Calls.mono (KR1.out W h0) ?_
       rintro e w9 ⟨rfl, b9⟩
       exact hK _ _ ⟨a27, c27, a30, c30, (by simp only [Nat.reduceBEq, Bool.false_or, Bool.true_or, cX_y, d13, d14, d15, d16, e27, e30]), (below2 h0 b9), (fun k0 => absurd (show L 27 = true from k0) (by rw [e27]; simp)), (fun k0 => absurd (show L 30 = true from k0) (by rw [e30]; simp))⟩
      | 18, _ =>
       have d13 := hd.dep 13 (by kernel_rfl)
       have e18 := hl
       have e27 : L 27 = false := by cases h9 : L 27 with | false => rfl | true => rw [((hcl 21 ((hcl 22 ((hcl 23 ((hcl 24 ((hcl 27 h9).dep 24 (by kernel_rfl))).dep 23 (by kernel_rfl))).dep 22 (by kernel_rfl))).dep 21 (by kernel_rfl))).dep 18 (by kernel_rfl))] at hl; cases hl
       have e30 : L 30 = false := by cases h9 : L 30 with | false => rfl | true => rw [((hcl 21 ((hcl 22 ((hcl 23 ((hcl 24 ((hcl 30 h9).dep 24 (by kernel_rfl))).dep 23 (by kernel_rfl))).dep 22 (by kernel_rfl))).dep 21 (by kernel_rfl))).dep 18 (by kernel_rfl))] at hl; cases hl
       refine wpOp_take rfl (by simp only [d13, cX_y]; rfl) fun K hK => ?_
       simp only [d13, cX_y]
       refine wp_load_row 37 _ rfl X7 (by rfl) 37 #[.int .i64 id, .int .i64 f, .slice va m vc] (0, 0) _ (R7.out.below h0 R7.out.lt) Tryz.underlying37 (by rfl) Tryz.infoNd ?_
       exact hK _ _ ⟨a27, c27, a30, c30, (by simp [Act.put, cX_y, d13]), (h0), (fun k0 => absurd (show L 27 = true from k0) (by rw [e27]; simp)), (fun k0 => absurd (show L 30 = true from k0) (by rw [e30]; simp))⟩
      | 19, _ =>
       have d13 := hd.dep 13 (by kernel_rfl)
       have e19 := hl
       have e27 : L 27 = false := by cases h9 : L 27 with | false => rfl | true => rw [((hcl 21 ((hcl 22 ((hcl 23 ((hcl 24 ((hcl 27 h9).dep 24 (by kernel_rfl))).dep 23 (by kernel_rfl))).dep 22 (by kernel_rfl))).dep 21 (by kernel_rfl))).dep 19 (by kernel_rfl))] at hl; cases hl
       have e30 : L 30 = false := by cases h9 : L 30 with | false => rfl | true => rw [((hcl 21 ((hcl 22 ((hcl 23 ((hcl 24 ((hcl 30 h9).dep 24 (by kernel_rfl))).dep 23 (by kernel_rfl))).dep 22 (by kernel_rfl))).dep 21 (by kernel_rfl))).dep 19 (by kernel_rfl))] at hl; cases hl
       refine wpOp_take rfl (by simp only [d13, cX_y]; rfl) fun K hK => ?_
       simp only [d13, cX_y]
       go_simp
       exact hK _ _ ⟨a27, c27, a30, c30, (by simp only [Nat.reduceBEq, Bool.false_or, Bool.true_or, cX_y, d13, e27, e30]), (h0), (fun k0 => absurd (show L 27 = true from k0) (by rw [e27]; simp)), (fun k0 => absurd (show L 30 = true from k0) (by rw [e30]; simp))⟩
      | 20, _ =>
       have d13 := hd.dep 13 (by kernel_rfl)
       have e20 := hl
       have e27 : L 27 = false := by cases h9 : L 27 with | false => rfl | true => rw [((hcl 21 ((hcl 22 ((hcl 23 ((hcl 24 ((hcl 27 h9).dep 24 (by kernel_rfl))).dep 23 (by kernel_rfl))).dep 22 (by kernel_rfl))).dep 21 (by kernel_rfl))).dep 20 (by kernel_rfl))] at hl; cases hl
       have e30 : L 30 = false := by cases h9 : L 30 with | false => rfl | true => rw [((hcl 21 ((hcl 22 ((hcl 23 ((hcl 24 ((hcl 30 h9).dep 24 (by kernel_rfl))).dep 23 (by kernel_rfl))).dep 22 (by kernel_rfl))).dep 21 (by kernel_rfl))).dep 20 (by kernel_rfl))] at hl; cases hl
       refine wpOp_take rfl (by simp only [d13, cX_y]; rfl) fun K hK => ?_
       simp only [d13, cX_y]
       go_simp
       exact hK _ _ ⟨a27, c27, a30, c30, (by simp only [Nat.reduceBEq, Bool.false_or, Bool.true_or, cX_y, d13, e27, e30]), (h0), (fun k0 => absurd (show L 27 = true from k0) (by rw [e27]; simp)), (fun k0 => absurd (show L 30 = true from k0) (by rw [e30]; simp))⟩
      | 21, _ =>
       have d13 := hd.dep 13 (by kernel_rfl)
       have d18 := hd.dep 18 (by kernel_rfl)
       have d19 := hd.dep 19 (by kernel_rfl)
       have d20 := hd.dep 20 (by kernel_rfl)
       have e21 := hl
       have e27 : L 27 = false := by cases h9 : L 27 with | false => rfl | true => rw [((hcl 22 ((hcl 23 ((hcl 24 ((hcl 27 h9).dep 24 (by kernel_rfl))).dep 23 (by kernel_rfl))).dep 22 (by kernel_rfl))).dep 21 (by kernel_rfl))] at hl; cases hl
       have e30 : L 30 = false := by cases h9 : L 30 with | false => rfl | true => rw [((hcl 22 ((hcl 23 ((hcl 24 ((hcl 30 h9).dep 24 (by kernel_rfl))).dep 23 (by kernel_rfl))).dep 22 (by kernel_rfl))).dep 21 (by kernel_rfl))] at hl; cases hl
       refine wpOp_take rfl (by simp only [d13, cX_y]; rfl) fun K hK => ?_
       simp only [d13, d18, d19, d20, cX_y]
       go_simp
       refine Calls.mono (KR2.out W h0) ?_
       rintro e w9 ⟨rfl, b9⟩
       exact hK _ _ ⟨a27, c27, a30, c30, (by simp only [Nat.reduceBEq, Bool.false_or, Bool.true_or, cX_y, d13, d18, d19, d20, e27, e30]), (below2 h0 b9), (fun k0 => absurd (show L 27 = true from k0) (by rw [e27]; simp)), (fun k0 => absurd (show L 30 = true from k0) (by rw [e30]; simp))⟩
      | 22, _ =>
       have d13 := hd.dep 13 (by kernel_rfl)
       have d17 := hd.dep 17 (by kernel_rfl)
       have d21 := hd.dep 21 (by kernel_rfl)
       have e22 := hl
       have e27 : L 27 = false := by cases h9 : L 27 with | false => rfl | true => rw [((hcl 23 ((hcl 24 ((hcl 27 h9).dep 24 (by kernel_rfl))).dep 23 (by kernel_rfl))).dep 22 (by kernel_rfl))] at hl; cases hl
       have e30 : L 30 = false := by cases h9 : L 30 with | false => rfl | true => rw [((hcl 23 ((hcl 24 ((hcl 30 h9).dep 24 (by kernel_rfl))).dep 23 (by kernel_rfl))).dep 22 (by kernel_rfl))] at hl; cases hl
       have g9 : (re.toList == re.toList) = true := by simp
       refine wpOp_take rfl (by simp only [d13, cX_y]; rfl) fun K hK => ?_
       simp only [d13, d17, d21, cX_y]
       go_simp
       exact hK _ _ ⟨a27, c27, a30, c30, (by simp only [Nat.reduceBEq, Bool.false_or, Bool.true_or, cX_y, d13, d17, d21, e27, e30]), (h0), (fun k0 => absurd (show L 27 = true from k0) (by rw [e27]; simp)), (fun k0 => absurd (show L 30 = true from k0) (by rw [e30]; simp))⟩
      | 23, _ =>
       have d13 := hd.dep 13 (by kernel_rfl)
       have d22 := hd.dep 22 (by kernel_rfl)
       have e23 := hl
       have e27 : L 27 = false := by cases h9 : L 27 with | false => rfl | true => rw [((hcl 24 ((hcl 27 h9).dep 24 (by kernel_rfl))).dep 23 (by kernel_rfl))] at hl; cases hl
       have e30 : L 30 = false := by cases h9 : L 30 with | false => rfl | true => rw [((hcl 24 ((hcl 30 h9).dep 24 (by kernel_rfl))).dep 23 (by kernel_rfl))] at hl; cases hl
       refine wpOp_plain rfl (fun _ => rfl) fun K hK => ?_
       simp only [d13, d22, cX_y]
       go_simp
       exact hK _ _ ⟨a27, c27, a30, c30, (by simp only [Nat.reduceBEq, Bool.false_or, Bool.true_or, cX_y, d13, d22, e27, e30]), (h0), (fun k0 => absurd (show L 27 = true from k0) (by rw [e27]; simp)), (fun k0 => absurd (show L 30 = true from k0) (by rw [e30]; simp))⟩
      | 24, _ =>
       have d23 := hd.dep 23 (by kernel_rfl)
       have e24 := hl
       have e27 : L 27 = false := by cases h9 : L 27 with | false => rfl | true => rw [((hcl 27 h9).dep 24 (by kernel_rfl))] at hl; cases hl
       have e30 : L 30 = false := by cases h9 : L 30 with | false => rfl | true => rw [((hcl 30 h9).dep 24 (by kernel_rfl))] at hl; cases hl
       refine wpOp_plain rfl (fun _ => rfl) fun K hK => ?_
       simp only [d23, cX_y]
       go_simp
       exact hK _ _ ⟨a27, c27, a30, c30, (by simp only [Nat.reduceBEq, Bool.false_or, Bool.true_or, cX_y, d23, e27, e30]), (h0), (fun k0 => absurd (show L 27 = true from k0) (by rw [e27]; simp)), (fun k0 => absurd (show L 30 = true from k0) (by rw [e30]; simp))⟩
      | 25, _ =>
       have d24 := hd.dep 24 (by kernel_rfl)
       have e25 := hl
       have e27 : L 27 = false := by cases h9 : L 27 with | false => rfl | true => rw [((hcl 27 h9).dep 25 (by kernel_rfl))] at hl; cases hl
       refine wpOp_take rfl (by simp only [d24, cX_y]; rfl) fun K hK => ?_
       simp only [d24, cX_y]
       go_simp
       exact hK _ _ ⟨a27, c27, a30, c30, (by simp only [Nat.reduceBEq, Bool.false_or, Bool.true_or, cX_y, d24, e27]), (h0), (fun k0 => absurd (show L 27 = true from k0) (by rw [e27]; simp)), (fun k0 => (h2 (show L 30 = true from k0)))⟩
      | 26, _ =>
       have d24 := hd.dep 24 (by kernel_rfl)
       have e26 := hl
       have e27 : L 27 = false := by cases h9 : L 27 with | false => rfl | true => rw [((hcl 27 h9).dep 26 (by kernel_rfl))] at hl; cases hl
       refine wpOp_take rfl (by simp only [d24, cX_y]; rfl) fun K hK => ?_
       simp only [d24, cX_y]
       go_simp
       exact hK _ _ ⟨a27, c27, a30, c30, (by simp only [Nat.reduceBEq, Bool.false_or, Bool.true_or, cX_y, d24, e27]), (h0), (fun k0 => absurd (show L 27 = true from k0) (by rw [e27]; simp)), (fun k0 => (h2 (show L 30 = true from k0)))⟩
      | 27, _ =>
       have d24 := hd.dep 24 (by kernel_rfl)
       have d25 := hd.dep 25 (by kernel_rfl)
       have d26 := hd.dep 26 (by kernel_rfl)
       have e27 := hl
       refine wpOp_take rfl (by simp only [d24, cX_y]; rfl) fun K hK => ?_
       simp only [d24, d25, d26, cX_y]
       go_simp
       refine Calls.mono (KS1.out W h0) ?_
       rintro e w9 ⟨aW, cW, rfl, WL, b9⟩
       exact hK _ _ ⟨aW, cW, a30, c30, (by simp only [Nat.reduceBEq, Bool.false_or, Bool.true_or, cX_y, d24, d25, d26]), (below2 h0 b9), (fun k0 => WL), (fun k0 => (h2 (show L 30 = true from k0)).below b9)⟩
      | 28, _ =>
       have d24 := hd.dep 24 (by kernel_rfl)
       have e28 := hl
       have e30 : L 30 = false := by cases h9 : L 30 with | false => rfl | true => rw [((hcl 30 h9).dep 28 (by kernel_rfl))] at hl; cases hl
       refine wpOp_take rfl (by simp only [d24, cX_y]; rfl) fun K hK => ?_
       simp only [d24, cX_y]
       go_simp
       exact hK _ _ ⟨a27, c27, a30, c30, (by simp only [Nat.reduceBEq, Bool.false_or, Bool.true_or, cX_y, d24, e30]), (h0), (fun k0 => (h1 (show L 27 = true from k0))), (fun k0 => absurd (show L 30 = true from k0) (by rw [e30]; simp))⟩
      | 29, _ =>
       have d24 := hd.dep 24 (by kernel_rfl)
       have e29 := hl
       have e30 : L 30 = false := by cases h9 : L 30 with | false => rfl | true => rw [((hcl 30 h9).dep 29 (by kernel_rfl))] at hl; cases hl
       refine wpOp_take rfl (by simp only [d24, cX_y]; rfl) fun K hK => ?_
       simp only [d24, cX_y]
       go_simp
       exact hK _ _ ⟨a27, c27, a30, c30, (by simp only [Nat.reduceBEq, Bool.false_or, Bool.true_or, cX_y, d24, e30]), (h0), (fun k0 => (h1 (show L 27 = true from k0))), (fun k0 => absurd (show L 30 = true from k0) (by rw [e30]; simp))⟩
      | 30, _ =>
       have d24 := hd.dep 24 (by kernel_rfl)
       have d28 := hd.dep 28 (by kernel_rfl)
       have d29 := hd.dep 29 (by kernel_rfl)
       have e30 := hl
       refine wpOp_take rfl (by simp only [d24, cX_y]; rfl) fun K hK => ?_
       simp only [d24, d28, d29, cX_y]
       go_simp
       refine Calls.mono (KS2.out W h0) ?_
       rintro e w9 ⟨aW, cW, rfl, WL, b9⟩
       exact hK _ _ ⟨a27, c27, aW, cW, (by simp only [Nat.reduceBEq, Bool.false_or, Bool.true_or, cX_y, d24, d28, d29]), (below2 h0 b9), (fun k0 => (h1 (show L 27 = true from k0)).below b9), (fun k0 => WL)⟩
      | 31, _ =>
       have d24 := hd.dep 24 (by kernel_rfl)
       have d27 := hd.dep 27 (by kernel_rfl)
       have d30 := hd.dep 30 (by kernel_rfl)
       have e31 := hl
       refine wpOp_take rfl (by simp only [d24, cX_y]; rfl) fun K hK => ?_
       simp only [d24, d27, d30, cX_y]
       go_simp
       refine Calls.mono (same_any _ _ _ _ _ z3 W (h1 d27) (h2 d30) hl3) ?_
       rintro e w9 ⟨rfl, b9⟩
       exact hK _ _ ⟨a27, c27, a30, c30, (by simp only [Nat.reduceBEq, Bool.false_or, Bool.true_or, cX_y, d24, d27, d30]), (below2 h0 b9), (fun k0 => (h1 (show L 27 = true from k0)).below b9), (fun k0 => (h2 (show L 30 = true from k0)).below b9)⟩
      | 32, _ =>
       have d24 := hd.dep 24 (by kernel_rfl)
       have d31 := hd.dep 31 (by kernel_rfl)
       have d27 := (hcl 31 d31).dep 27 (by kernel_rfl)
       have d30 := (hcl 31 d31).dep 30 (by kernel_rfl)
       have e32 := hl
       refine wpOp_plain rfl (fun _ => rfl) fun K hK => ?_
       simp only [d24, d31, cX_y]
       go_simp
       exact hK _ _ ⟨a27, c27, a30, c30, (by simp only [Nat.reduceBEq, Bool.false_or, Bool.true_or, cX_y, d24, d27, d30, d31]), (h0), (fun k0 => (h1 (show L 27 = true from k0))), (fun k0 => (h2 (show L 30 = true from k0)))⟩
      | 33, _ =>
       have d32 := hd.dep 32 (by kernel_rfl)
       have d31 := (hcl 32 d32).dep 31 (by kernel_rfl)
       have d27 := (hcl 31 d31).dep 27 (by kernel_rfl)
       have d30 := (hcl 31 d31).dep 30 (by kernel_rfl)
       have e33 := hl
       refine wpOp_plain rfl (fun _ => rfl) fun K hK => ?_
       simp only [d32, cX_y]
       go_simp
       exact hK _ _ ⟨a27, c27, a30, c30, (by simp only [Nat.reduceBEq, Bool.false_or, Bool.true_or, cX_y, d27, d30, d31, d32]), (h0), (fun k0 => (h1 (show L 27 = true from k0))), (fun k0 => (h2 (show L 30 = true from k0)))⟩
      | n9 + 34, h => exact absurd h (by simp)
     ·intro L a9 W hall hI9
      obtain ⟨a27, c27, a30, c30, rfl, h0, h1, h2⟩ := hI9
      have e0 := hall 0 (by decide)
      have e1 := hall 1 (by decide)
      have e2 := hall 2 (by decide)
      have e3 := hall 3 (by decide)
      have e4 := hall 4 (by decide)
      have e5 := hall 5 (by decide)
      have e6 := hall 6 (by decide)
      have e7 := hall 7 (by decide)
      have e8 := hall 8 (by decide)
      have e9 := hall 9 (by decide)
      have e10 := hall 10 (by decide)
      have e11 := hall 11 (by decide)
      have e12 := hall 12 (by decide)
      have e13 := hall 13 (by decide)
      have e14 := hall 14 (by decide)
      have e15 := hall 15 (by decide)
      have e16 := hall 16 (by decide)
      have e17 := hall 17 (by decide)
      have e18 := hall 18 (by decide)
      have e19 := hall 19 (by decide)
      have e20 := hall 20 (by decide)
      have e21 := hall 21 (by decide)
      have e22 := hall 22 (by decide)
      have e23 := hall 23 (by decide)
      have e24 := hall 24 (by decide)
      have e25 := hall 25 (by decide)
      have e26 := hall 26 (by decide)
      have e27 := hall 27 (by decide)
      have e28 := hall 28 (by decide)
      have e29 := hall 29 (by decide)
      have e30 := hall 30 (by decide)
      have e31 := hall 31 (by decide)
      have e32 := hall 32 (by decide)
      have e33 := hall 33 (by decide)
      simp only [e0, e1, e2, e3, e4, e5, e6, e7, e8, e9, e10, e11, e12, e13, e14, e15, e16, e17, e18, e19, e20, e21, e22, e23, e24, e25, e26, e27, e28, e29, e30, e31, e32, e33, cX_y]
      exact (HRmk.out _ _).2 ⟨a27, c27, a30, c30, rfl, (h0)⟩
end Go.Proofs.YtaenoiffamgcfaaGreatDoor
