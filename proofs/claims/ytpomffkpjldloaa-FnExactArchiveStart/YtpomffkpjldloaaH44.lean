/- A net's start in the program, where it may start. Conditions: lists of at most 2^20. -/
import Derived.Test.YtpomffkpjldloaaH43
namespace Go.Proofs.Ytpomffkpjldloaa
set_option maxRecDepth 2000
open Go.ChangeShapes Go.WideShapes Go.ChangeAt Go.RowKit

set_option maxHeartbeats 4000000 in
theorem netStart_yes (f : Int) (a : Option Addr) (cap : Nat) (zs : List Int) (m : Nat) (w : World) (h : IntsAt w a zs.length zs) (hn : zs.length ≤ 1048576) (hb : nsB f zs = true) (hm : (m : Int) = 3 * f + 1) :
    Calls Try.prog 13 #[.int .i64 f, .slice a zs.length cap] w fun e w' => ∃ g1 a2 c2 g3 F1 F2 F3, e = .returned (.tuple #[ntV f (.slice (some ⟨g1, 0, none⟩) m m) (.slice a2 zs.length c2) (.slice (some ⟨g3, 0, none⟩) 0 0), .bool true]) ∧ NtO w' w.heap.size m (nd0 f) zs 0 (fun _ => syO) (.slice (some ⟨g1, 0, none⟩) m m) (.slice a2 zs.length c2) (.slice (some ⟨g3, 0, none⟩) 0 0) F1 F2 F3 ∧ Below w.heap.size w w' := by
  obtain ⟨i0, hi, hz0, hz1, hz2⟩ := info_parts Try.infoNdZ2
  obtain ⟨D, HD⟩ : ∃ x, Hid (x = w.heap.size) := ⟨_, rfl⟩
  obtain ⟨w0, HW0⟩ : ∃ x, Hid (x = w.alloc (.cells #[.int .i64 0, .slice none 0 0, .slice none 0 0, .slice none 0 0] 26)) := ⟨_, rfl⟩
  have RD : Hid (Row w0 D 26 #[.int .i64 0, .slice none 0 0, .slice none 0 0, .slice none 0 0]) := by show Row _ _ _ _; rw [HW0.out, HD.out]; exact Row.new w _ _
  have b0 : Below w.heap.size w w0 := by rw [HW0.out]; exact (Below.refl _ _).alloc (Nat.le_refl _) _
  have KB0 : Hid (Below w.heap.size w w0) := b0
  have HDw : Hid (w.heap.size ≤ D) := by show _ ≤ _; rw [HD.out]; exact Nat.le_refl _
  have hf : 1 ≤ f ∧ f ≤ 3 := by
    unfold nsB fB at hb
    rw [Bool.and_eq_true] at hb
    exact of_decide_eq_true hb.1
  have hl : lsB f zs = true := by unfold nsB at hb; rw [Bool.and_eq_true] at hb; exact hb.2
  have hfB : fB f = true := by unfold nsB at hb; rw [Bool.and_eq_true] at hb; exact hb.1
  have KI : Hid (∀ W, Calls Try.prog 26 #[.int .i64 f] W fun e w' => e = .returned (.bool true) ∧ w' = W) := fun W => by rw [← hfB]; exact isF_any f W
  have KN : Hid (Calls Try.prog 27 #[.slice a zs.length cap, .int .i64 f] w0 fun e w' => e = .returned (.bool true) ∧ Below w0.heap.size w0 w') := by rw [← hl]; exact areLi_any f a cap zs w0 (h.below b0) hf hn
  have KA : Hid (∀ W, Calls Try.prog 28 #[.int .i64 f] W fun e w' => e = .returned (.int .i64 (m : Int)) ∧ w' = W) := fun W => by rw [hm]; exact nodeCount_any f W hf
  have KC : Hid (∀ W, Below w0.heap.size w0 W → Calls Try.prog 29 #[.slice a zs.length cap] W fun e w' => ∃ a' c', e = .returned (.slice a' zs.length c') ∧ Ow w' W.heap.size (inD zs) (.slice a' zs.length c') (rng W.heap.size w'.heap.size) ∧ Below W.heap.size W w') := fun W hW => cloneI_any a cap zs W ((h.below b0).below hW) hn
  have HM : Hid (m ≤ 10) := by show m ≤ 10; omega
  have HFm : Hid ((m : Int) = 3 * f + 1 ∧ 1 ≤ f ∧ f ≤ 3) := ⟨hm, hf⟩
  obtain ⟨n, HN⟩ : ∃ x, Hid (zs.length = x) := ⟨_, rfl⟩
  rw [HN.out] at KN KC ⊢
  clear b0 h hf hb hl hfB hm hn
  go_enter Try.func13, Try.ntmps13
  go_wp2_with (first | (go_at_call 26; refine Calls.mono (KI.out _) ?_; rintro e w' ⟨rfl, hw⟩; obtain rfl := hw.symm; clear hw) | (go_at_call 27; rw [← HW0.out, ← HD.out]; refine Calls.mono KN.out ?_; rintro e w1 ⟨rfl, b1⟩))
  have hmk := make_nodes m HM.out
  have KW1 : Hid (Below w0.heap.size w0 w1) := b1
  clear b1
  refine wp_region_any (by kernel_rfl) ?_
  change wpAny _ _ _ _ _ _ _ (World.drew _)
  refine wpAny_take (i := 0) (v := .int .i64 f) rfl (by kernel_rfl) (by kernel_rfl) (by kernel_rfl) (fun _ _ _ h => h) (Or.inl ⟨by rfl, ?_⟩) ?_
  · intro w; go_simp
  refine wpAny_take (i := 1) (v := .int .i64 f) rfl (by kernel_rfl) (by kernel_rfl) (by kernel_rfl) (fun _ _ _ h => h) (Or.inl ⟨by rfl, ?_⟩) ?_
  · intro w; go_simp
  refine wpAny_take (i := 4) (v := .slice a n cap) rfl (by kernel_rfl) (by kernel_rfl) (by kernel_rfl) (fun _ _ _ h => h) (Or.inl ⟨by rfl, ?_⟩) ?_
  · intro w; go_simp
  refine wpAny_five (act := fun x20 x21 x23 x24 x6 => ⟨#[.int .i64 f, .slice a n cap, undef, undef, .pointer (some ⟨D, 0, none⟩), .bool false, x6, undef, .int .i64 f, .bool true, .bool false, .bool false, .slice a n cap, .int .i64 f, .bool true, .bool false, .bool false, undef, .int .i64 f, .int .i64 f, x20, x21, .slice a n cap, x23, x24, undef, undef, undef, undef, undef, undef, undef, undef, undef, undef, undef, undef, undef, undef, undef, undef, undef, undef, undef], []⟩) undef undef undef undef undef (N3E w1.drew m zs) ?_ ?_ (n3_start _ _ _ _ _ _ _ _) ?_ ?_ ?_ ?_ ?_ (act2 := fun x20 x21 x23 x24 x6 => ⟨#[.int .i64 f, .slice a n cap, undef, undef, .pointer (some ⟨D, 0, none⟩), .bool false, x6, undef, .int .i64 f, .bool true, .bool false, .bool false, .slice a n cap, .int .i64 f, .bool true, .bool false, .bool false, undef, .int .i64 f, .int .i64 f, x20, x21, .slice a n cap, x23, x24, .agg #[.int .i64 f, x21, x23, x24], undef, undef, undef, undef, undef, undef, undef, undef, undef, undef, undef, undef, undef, undef, undef, undef, undef, undef], []⟩) ?_ (by kernel_rfl) (by kernel_rfl) (by kernel_rfl) ?_ ?_
  · intro p2 p3 p5 p6 p8 h
    cases p2 <;> cases p3 <;> cases p5 <;> cases p6 <;> cases p8 <;> first | exact absurd (h rfl) (by decide) | kernel_rfl
  · intro p2 p3 p5 p6 p8 h e
    have e' := congrArg List.isEmpty e
    revert e'
    cases p2 <;> cases p3 <;> cases p5 <;> cases p6 <;> cases p8 <;> first | exact absurd (h rfl) (by decide) | (intro e'; exact absurd ((show _ = false by kernel_rfl).symm.trans e') (by decide))
  · intro p3 p5 p6 p8 x20 x21 x23 x24 x6 W K hf hk
    refine wpOp_step rfl (fun K' hK => ?_)
    go_simp
    refine Calls.mono (KA.out _) ?_
    rintro e w' ⟨rfl, hw⟩
    obtain rfl := hw.symm
    clear hw
    exact hK _ _ (hk _ _ hf.count)
  · intro p5 p6 p8 x20 x21 x23 x24 x6 W K hf hk
    have e20 : x20 = .int .i64 (m : Int) := by obtain ⟨_, _, _, _, h⟩ := hf; exact h.c2 rfl
    subst e20
    refine wpOp_step rfl (fun K' hK => ?_)
    go_simp
    exact hK _ _ (hk _ _ (hf.nodes ((Below.refl _ _).alloc (Nat.le_refl _) _) (ow_nodes m HM.out W)))
  · intro p2 p3 p6 p8 x20 x21 x23 x24 x6 W K hf hk
    have hbw : Below w0.heap.size w0 W := by obtain ⟨_, _, _, _, h⟩ := hf; exact below2 KW1.out (below_of_drew h.bw)
    refine wpOp_step rfl (fun K' hK => ?_)
    go_simp
    refine Calls.mono (KC.out _ hbw) ?_
    rintro e w' ⟨a', c', rfl, ho, hb⟩
    have h' := hf.liars (a2 := a') (c2 := c') hb (by rw [HN.out]; exact ho)
    rw [HN.out] at h'
    exact hK _ _ (hk _ _ h')
  · intro p2 p3 p5 p8 x20 x21 x23 x24 x6 W K hf hk
    refine wpOp_step rfl (fun K' hK => ?_)
    go_simp
    exact hK _ _ (hk _ _ (hf.way ((Below.refl _ _).alloc (Nat.le_refl _) _) (ow_way W)))
  · intro p2 p3 p5 p6 x20 x21 x23 x24 x6 W K hf hk
    refine wpOp_step rfl (fun K' hK => ?_)
    go_simp
    exact hK _ _ (hk _ _ hf.own)
  · intro p8 k x20 x21 x23 x24 x6 W hf h
    obtain ⟨_, _, _, _, h3⟩ := hf
    obtain ⟨g1, e1, _⟩ := h3.c3 rfl
    obtain ⟨a2, c2, e2, _⟩ := h3.c5 rfl
    obtain ⟨g3, e3, _⟩ := h3.c6 rfl
    subst e1 e2 e3
    cases p8
    · refine wpAny_take (i := 7) (v := .agg #[.int .i64 f, .slice (some ⟨g1, 0, none⟩) m m, .slice a2 zs.length c2, .slice (some ⟨g3, 0, none⟩) 0 0]) rfl (by kernel_rfl) (by kernel_rfl) (by kernel_rfl) (fun _ _ _ h => h) (Or.inl ⟨by rfl, ?_⟩) ?_
      · intro w; go_simp
      · exact h
    · refine wpAny_take (i := 7) (v := .agg #[.int .i64 f, .slice (some ⟨g1, 0, none⟩) m m, .slice a2 zs.length c2, .slice (some ⟨g3, 0, none⟩) 0 0]) rfl (by kernel_rfl) (by kernel_rfl) (by kernel_rfl) (fun _ _ _ h => h) (Or.inl ⟨by rfl, ?_⟩) ?_
      · intro w; go_simp
      · exact h
  · intro x20 x21 x23 x24 x6 W K hf hk
    refine wpOp_step rfl (fun K' hK => ?_)
    go_simp
    exact hK _ _ (hk _ _ hf.own)
  intro x20 x21 x23 x24 x6 W hf
  obtain ⟨F1, F2, F3, F4, h3⟩ := hf
  obtain ⟨g1, e1, o1⟩ := h3.c3 rfl
  obtain ⟨a2, c2, e2, o2⟩ := h3.c5 rfl
  obtain ⟨g3, e3, o3⟩ := h3.c6 rfl
  obtain ⟨G, e4, r4, f4⟩ := h3.c8 rfl
  subst e1 e2 e3 e4
  have y0 := r4.cell 0
  have y1 := r4.cell 1
  have y2 := r4.cell 2
  have y3 := r4.cell 3
  have z0 := r4.free 0
  have z1 := r4.free 1
  have z2 := r4.free 2
  have z3 := r4.free 3
  simp at y0 y1 y2 y3
  rw [HN.out]
  refine wpOp_step rfl (fun K' hK => ?_)
  go_simp
  refine hK _ _ ?_
  obtain ⟨WR, HWR⟩ : ∃ x, Hid (x = ((((W.setCell ⟨G, 0, none⟩ (.int .i64 f)).setCell ⟨G, 1, none⟩ (.slice (some ⟨g1, 0, none⟩) m m)).setCell ⟨G, 2, none⟩ (.slice a2 n c2)).setCell ⟨G, 3, none⟩ (.slice (some ⟨g3, 0, none⟩) 0 0))) := ⟨_, rfl⟩
  rw [← HWR.out]
  have sW : WR.heap.size = W.heap.size := by rw [HWR.out]; simp
  have lD1 : D < w1.drew.heap.size := Nat.lt_of_lt_of_le RD.out.lt KW1.out.size
  have nG : ¬ F1 G ∧ ¬ F2 G ∧ ¬ F3 G := ⟨fun k => (h3.d1 G k).2.2 f4, fun k => (h3.d2 G k).2 f4, fun k => h3.d3 G k f4⟩
  have bG := h3.bd G (.inr (.inr (.inr f4)))
  have hG1 : F1 g1 := by
    obtain ⟨_, _, _, _, e, _, hs, _⟩ := o1
    cases e
    exact hs.head _ rfl
  have hwD := HDw.out
  have sK := KB0.out.size
  have sK1 := KW1.out.size
  have sdr : w1.drew.heap.size = w1.heap.size := rfl
  have HX : Hid (N5X w w1.drew.heap.size WR.heap.size G g1 D F1 F2 F3) := ⟨hG1, fun g hg => by rw [sW]; exact h3.bd g (by rcases hg with a | a | a <;> simp [a]), fun g hg => ⟨(h3.d1 g hg).1, (h3.d1 g hg).2.1⟩, fun g hg => (h3.d2 g hg).1, nG, lD1, by omega, hwD, by omega⟩
  have bWR : Below w.heap.size w WR := by
    have h1 : Below w.heap.size w W := below2 (below2 KB0.out KW1.out) (below_of_drew h3.bw)
    rw [HWR.out]
    exact Below.setCell (Below.setCell (Below.setCell (Below.setCell h1 (by show _ ≤ G; omega) _) (by show _ ≤ G; omega) _) (by show _ ≤ G; omega) _) (by show _ ≤ G; omega) _
  have H5 : Hid (N5 w w1.drew.heap.size WR.heap.size G g1 D f m zs a2 n c2 g3 F1 F2 F3 0 WR) := by
    have rD : Row W D 26 ntZ := ((RD.out.below KW1.out RD.out.lt).drew).below h3.bw lD1
    have gD : D ≠ G := by omega
    refine ⟨?_, ?_, ?_, ?_, ?_, bWR, Nat.le_refl _⟩
    · rw [HWR.out]; exact (((r4.set 0 _).set 1 _).set 2 _).set 3 _
    · rw [HWR.out]; exact (((rD.other 0 _ gD).other 1 _ gD).other 2 _ gD).other 3 _ gD
    · have h1 : Ow W w1.drew.heap.size (.lst 52 3 m (fun i => if i < 0 then ndD (nd0 f i) else ndD ndN)) (.slice (some ⟨g1, 0, none⟩) m m) F1 := Ow.congr o1 (fun i q _ _ => by simp)
      rw [HWR.out]
      exact ((((h1.apart 0 _ nG.1).apart 1 _ nG.1).apart 2 _ nG.1).apart 3 _ nG.1).mono fun g hg => .inl hg
    · rw [HWR.out]; exact (((o2.apart 0 _ nG.2.1).apart 1 _ nG.2.1).apart 2 _ nG.2.1).apart 3 _ nG.2.1
    · rw [HWR.out]; exact (((o3.apart 0 _ nG.2.2).apart 1 _ nG.2.2).apart 2 _ nG.2.2).apart 3 _ nG.2.2
  obtain ⟨B, HBB⟩ : ∃ x, Hid (x = w1.drew.heap.size) := ⟨_, rfl⟩
  obtain ⟨S0, HSS⟩ : ∃ x, Hid (x = WR.heap.size) := ⟨_, rfl⟩
  rw [← HBB.out, ← HSS.out] at HX H5
  have HSe : Hid (∀ k : Nat, k < m → seB (k : Int) f = true) := fun k hk => by
    show seB (k : Int) f = true
    unfold seB
    have := HFm.out
    exact decide_eq_true (by omega)
  clear y0 y1 y2 y3 z0 z1 z2 z3 r4 f4 o1 o2 o3 h3 nG bG hG1 lD1 sW bWR hwD sK sK1 sdr HBB HSS HWR
  have y1 := H5.out.rg.cell 1
  simp at y1
  have hm10 := HM.out
  go_wp2
  go_loopw [29, 7] (fun vi _ wr => ∃ k : Nat, k ≤ m ∧ vi = .int .i64 (k : Int) ∧ Hid (N5 w B S0 G g1 D f m zs a2 n c2 g3 F1 F2 F3 k wr)) (fun vi _ _ => m - (intOf vi).toNat)
  case atStart => exact ⟨0, Nat.zero_le _, rfl, H5⟩
  case round =>
    obtain ⟨k, hk, rfl, HR⟩ := hrel
    clear H5 y1
    have y1 := HR.out.rg.cell 1
    simp at y1
    by_cases hlt : k < m
    · have hki : (k : Int) < (m : Int) := by omega
      have HLT : Hid (k < m) := hlt
      have KS : Hid (Calls Try.prog 30 #[.int .i64 (k : Int), .int .i64 f] wr.drew fun e w' => ∃ ay, e = .returned (.tuple #[ndV (k : Int) f (.slice ay 0 0), .bool true]) ∧ w'.ownsRow wr.heap.size 82 13 (.slice ay 0 0) 0 [] ∧ Below wr.heap.size wr w') := by
        have h1 := nodeStart_any (k : Int) f wr.drew
        rw [HSe.out k hlt] at h1
        refine Calls.mono h1 ?_
        rintro e w' ⟨ay, he, ho, hb⟩
        exact ⟨ay, he, ho, below_of_drew hb⟩
      obtain ⟨a', cap', c', G', e', ho', hs', _⟩ := HR.out.on
      cases e'
      have cel : ∀ q, q < 3 → wr.cell? ⟨g1, k * 3 + q, none⟩ = some (c' k q) ∧ wr.frozen? ⟨g1, k * 3 + q, none⟩ = false := fun q hq => ⟨by rw [World.ownsRow.cellAt ho' _ (mid_lt hlt hq), cL_get _ _ _ _ _ hlt hq], World.ownsRow.frozenAt ho' _⟩
      have lg : g1 < wr.heap.size := (World.ownsRow.lt ho' g1 rfl).2
      have lG := HR.out.rg.lt
      have hCl : ∀ v, Below wr.heap.size wr v → v.cell? ⟨G, 1, none⟩ = some (.slice (some ⟨g1, 0, none⟩) m m) ∧ v.cell? ⟨g1, k * 3, none⟩ = some (c' k 0) ∧ v.cell? ⟨g1, k * 3 + 1, none⟩ = some (c' k 1) ∧ v.cell? ⟨g1, k * 3 + 2, none⟩ = some (c' k 2) ∧ v.frozen? ⟨g1, k * 3, none⟩ = false ∧ v.frozen? ⟨g1, k * 3 + 1, none⟩ = false ∧ v.frozen? ⟨g1, k * 3 + 2, none⟩ = false := fun v hv =>
        ⟨(hv.cell (p := ⟨G, 1, none⟩) lG).trans y1, (hv.cell (p := ⟨g1, k * 3, none⟩) lg).trans (cel 0 (by omega)).1, (hv.cell (p := ⟨g1, k * 3 + 1, none⟩) lg).trans (cel 1 (by omega)).1, (hv.cell (p := ⟨g1, k * 3 + 2, none⟩) lg).trans (cel 2 (by omega)).1, (hv.frozen (p := ⟨g1, k * 3, none⟩) lg).trans (cel 0 (by omega)).2, (hv.frozen (p := ⟨g1, k * 3 + 1, none⟩) lg).trans (cel 1 (by omega)).2, (hv.frozen (p := ⟨g1, k * 3 + 2, none⟩) lg).trans (cel 2 (by omega)).2⟩
      have HCl : Hid _ := hCl
      clear hCl cel ho' hs' lg lG
      go_wp2_with fail
      go_region_with ((go_at_call 30; refine Calls.mono KS.out ?_; rintro e v ⟨ay, rfl, o2, b2⟩; obtain ⟨c1, c2', c3, c4, z1, z2, z3⟩ := HCl.out _ b2; have HP : Hid (N5 w B S0 G g1 D f m zs a2 n c2 g3 F1 F2 F3 (k + 1) (v.setCells g1 (k * 3) [.int .i64 (k : Int), .int .i64 f, .slice ay 0 0])) := N5.put HX.out HR.out HLT.out b2 o2; clear o2 b2))
      all_goals
        go_wp2
        go_roundw
        case rel => exact ⟨k + 1, by omega, by go_num, HP⟩
        case measure => simp [intOf]; omega
    · obtain rfl : k = m := by omega
      obtain ⟨w8, HW8⟩ : ∃ x, Hid (x = wr.setRow D #[.int .i64 f, .slice (some ⟨g1, 0, none⟩) k k, .slice a2 n c2, .slice (some ⟨g3, 0, none⟩) 0 0]) := ⟨_, rfl⟩
      have ZR : Hid (Row w8 D 26 #[.int .i64 f, .slice (some ⟨g1, 0, none⟩) k k, .slice a2 n c2, .slice (some ⟨g3, 0, none⟩) 0 0]) := by show Row _ _ _ _; rw [HW8.out]; exact HR.out.rd.row
      have ZN := N5.fin HX.out HR.out #[.int .i64 f, .slice (some ⟨g1, 0, none⟩) k k, .slice a2 n c2, .slice (some ⟨g3, 0, none⟩) 0 0]
      rw [← HW8.out, HN.out] at ZN
      have HZN : Hid _ := ZN
      clear ZN
      go_wp2_with (first | (refine wpList_load_row (by rfl) 26 _ (by rfl) G (by rfl) 26 #[.int .i64 f, .slice (some ⟨g1, 0, none⟩) k k, .slice a2 n c2, .slice (some ⟨g3, 0, none⟩) 0 0] (0, 0) _ ?_ Try.underlying26 (by rfl) Try.infoNt ?_; exact HR.out.rg) | (refine wpList_store_row (by rfl) 26 _ _ (by rfl) D #[.int .i64 f, .slice (some ⟨g1, 0, none⟩) k k, .slice a2 n c2, .slice (some ⟨g3, 0, none⟩) 0 0] (by rfl) (by rfl) 26 ntZ ?_ Try.infoNt rfl (by simp [Value.oneCell']) ?_; exact HR.out.rd; rw [← HW8.out]))
      refine bodyPost_ret (v := .tuple #[ntV f (.slice (some ⟨g1, 0, none⟩) k k) (.slice a2 n c2) (.slice (some ⟨g3, 0, none⟩) 0 0), .bool true]) (by
        have p0 := ZR.out.cell 0
        have p1 := ZR.out.cell 1
        have p2 := ZR.out.cell 2
        have p3 := ZR.out.cell 3
        simp at p0 p1 p2 p3
        simp [results, Try.results13, go_sem, p0, p1, p2, p3]) rfl ⟨_, _, _, _, _, _, _, rfl, HZN.out.1, HZN.out.2⟩
end Go.Proofs.Ytpomffkpjldloaa
