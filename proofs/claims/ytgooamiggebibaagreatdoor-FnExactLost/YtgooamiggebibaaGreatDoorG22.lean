import Derived.Test.YtgooamiggebibaaGreatDoorG17
import Derived.Test.YtgooamiggebibaaGreatDoorG14
set_option maxHeartbeats 8000000
set_option maxRecDepth 2000
open Go.ChangeShapes Go.WideShapes Go.ChangeAt Go.RowKit
namespace Go.Proofs.YtgooamiggebibaaGreatDoor
noncomputable def allQ (K : Nat) (Q : Nat → Pc) : Nat → Pc := cutP (Q 0).k (Q 0).n.toNat (alQ K Q)
def RsE (root : ByteArray) (K : Nat) (Q : Nat → Pc) (e : Ending) : Prop :=
 (¬ Cm root K Q ∧ e = .returned (.tuple #[.string ⟨#[]⟩, .int .i64 2])) ∨
 (Cm root K Q ∧ dcB (Q 0).k (Q 0).n (zsQ K (allQ K Q)) K (sQ (allQ K Q)) = false ∧ e = .returned (.tuple #[.string ⟨#[]⟩, .int .i64 2])) ∨
 (Cm root K Q ∧ dcB (Q 0).k (Q 0).n (zsQ K (allQ K Q)) K (sQ (allQ K Q)) = true ∧ e = .returned (.tuple #[.string (dcS (Q 0).k (Q 0).n (zsQ K (allQ K Q)) K (sQ (allQ K Q))), .int .i64 0]))
theorem sRegain_any (root : ByteArray) (a : Option Addr) (n cap : Nat) (A : Nat → Option Addr) (C : Nat → Nat) (P : Nat → Pc) (w : World) (hch : ChOk root a n cap P A C w) :
  Calls Tryz.prog 34 #[.string root, .slice a n cap] w fun e w' => Below w.heap.size w w' ∧ ((enB root n P = false ∧ e = .returned (.tuple #[.string ⟨#[]⟩, .int .i64 1])) ∨ (enB root n P = true ∧ ∃ L : List Nat, L.Perm (gsel root P n) ∧ (∀ x y, x < y → y < L.length → (P (L.getD x 0)).i ≤ (P (L.getD y 0)).i) ∧ RsE root (enK root n P).toNat (qL P L) e)) := by
 obtain ⟨i0, hi, hz0, hz1, hz2⟩ := info_parts Tryz.infoInt
 obtain ⟨j0, hj, hy0, hy1, hy2⟩ := info_parts Tryz.infoStr
 have KCH : Hid _ := hch w (Below.refl _ _)
 clear hch
 go_enter Tryz.func34, Tryz.ntmps34
 go_wp2_with fail
 refine Calls.mono KCH.out ?_
 rintro e w1 ⟨hb1, h1⟩
 have KB1 : Hid (Below w.heap.size w w1) := hb1
 rcases h1 with ⟨hen, v1, rfl⟩ | ⟨hen, g, cc, L, rfl, hp, hso, hcell⟩
 ·clear KCH hb1
  go_wp2
  go_ret2
  exact ⟨KB1.out, .inl ⟨hen, rfl⟩⟩
 ·obtain ⟨k0, k64, kL, kb⟩ := en_parts hen hp
  obtain ⟨K, HK⟩ : ∃ x, Hid ((enK root n P).toNat = x) := ⟨_, rfl⟩
  obtain ⟨Q, HQ⟩ : ∃ x, Hid (qL P L = x) := ⟨_, rfl⟩
  have HFin : Hid (∀ e, RsE root K Q e → (enB root n P = false ∧ e = .returned (.tuple #[.string ⟨#[]⟩, .int .i64 1])) ∨ (enB root n P = true ∧ ∃ L : List Nat, L.Perm (gsel root P n) ∧ (∀ x y, x < y → y < L.length → (P (L.getD x 0)).i ≤ (P (L.getD y 0)).i) ∧ RsE root (enK root n P).toNat (qL P L) e)) := fun e he => .inr ⟨hen, L, hp, hso, by rw [HK.out, HQ.out]; exact he⟩
  rw [HK.out] at k0 k64 hcell
  rw [HK.out]
  rw [HQ.out] at kb
  have KBO : Hid _ := sBod_any root g K cc Q (fun j => A (L.getD j 0)) (fun j => C (L.getD j 0)) w1 (fun j q hj hq => by rw [← HQ.out]; exact hcell j q hj hq) k0 k64 kb
  clear hcell hp hso hen HK HQ KCH hb1
  go_wp2_with fail
  refine Calls.mono KBO.out ?_
  rintro e wb ⟨hb2, h2⟩
  have KB2 : Hid (Below w.heap.size w wb) := below2 KB1.out hb2
  rcases h2 with ⟨hcm, g', rfl⟩ | ⟨hcm, v, rfl, hP⟩
  ·have HFn : Hid _ := HFin.out (.returned (.tuple #[.string ⟨#[]⟩, .int .i64 2])) (.inl ⟨hcm, rfl⟩)
   clear KBO hb2
   go_wp2
   go_ret2
   exact ⟨KB2.out, HFn.out⟩
  ·obtain ⟨g5, c5, A5, C5, rfl, hO5⟩ := hP
   have hsp := sprOk_parts hcm.1.1
   have hkk : (Q 0).k = (K : Int) := hcm.1.2.2.1.symm
   obtain ⟨N, HN⟩ : ∃ x, Hid ((Q 0).n.toNat = x) := ⟨_, rfl⟩
   obtain ⟨R, HR⟩ : ∃ x, Hid (allQ K Q = x) := ⟨_, rfl⟩
   have hnn : (Q 0).n = (N : Int) := by rw [← HN.out]; exact (Int.toNat_of_nonneg (by omega)).symm
   have hRk : Hid (∀ j, (R j).k = (K : Int) ∧ (R j).n = (N : Int) ∧ (R j).i = (j : Int)) := fun j => by rw [← HR.out]; exact ⟨hkk, by show ((Q 0).n.toNat : Int) = N; rw [HN.out], rfl⟩
   have hO6 : OwnP wb w1.heap.size (some ⟨g5, 0, none⟩) N c5 A5 C5 R := by rw [← HR.out, ← HN.out]; exact hO5
   have hKN : K ≤ N := by omega
   have hN : 0 < N ∧ N ≤ 64 := by omega
   have HX : Hid (∀ j q, j < N → q < 6 → wb.cell? ⟨g5, j * 6 + q, none⟩ = some (cel (R j) (.slice (A5 j) (R j).m (C5 j)) q)) := fun j q hj hq => OwnC.cell hO6.1 hj hq
   have HRb : Hid ((R 0).b.size ≤ 1048576) := by show (R 0).b.size ≤ 1048576; rw [← HR.out]; show (alQ K Q 0).size ≤ 1048576; unfold alQ bdS; rw [bod_size]; exact kb
   have HFy : Hid (∀ ok, dcB (K : Int) (N : Int) (zsQ K R) K (sQ R) = ok → _) := fun ok hok => HFin.out (.returned (.tuple #[.string (if ok then dcS (K : Int) (N : Int) (zsQ K R) K (sQ R) else ⟨#[]⟩), .int .i64 (if ok then 0 else 2)])) (by
    rw [← HR.out, ← hkk, ← hnn] at hok
    cases ok with
    | false => exact .inr (.inl ⟨hcm, hok, rfl⟩)
    | true => exact .inr (.inr ⟨hcm, hok, by rw [← HR.out, ← hkk, ← hnn]; rfl⟩))
   have x1w := HX.out 0 1 hN.1 (by omega)
   have x2w := HX.out 0 2 hN.1 (by omega)
   simp only [cel, Nat.zero_mul, Nat.zero_add] at x1w x2w
   rw [(hRk.out 0).1] at x1w
   rw [(hRk.out 0).2.1] at x2w
   have hgw := block_lt_of_cell x1w
   simp only at hgw
   have hNi : (0 : Int) < (N : Int) := by omega
   rw [HN.out]
   clear hO5 hO6 KBO hb2 hcm hkk hnn hsp
   go_wp2
   go_loopw [10, 11, 12] (fun v10 v11 v12 wr => ∃ j g1 c1 g2 c2 : Nat, j ≤ K ∧ v12 = .int .i64 (j : Int) ∧ v10 = .slice (some ⟨g1, 0, none⟩) j c1 ∧ v11 = .slice (some ⟨g2, 0, none⟩) j c2 ∧ SbI wr wb.heap.size g1 c1 g2 c2 j R ∧ Below wb.heap.size wb wr) (fun _ _ v12 _ => K - (intOf v12).toNat)
   case atStart =>
    refine ⟨0, wb.heap.size, 0, wb.heap.size + 1, 0, Nat.zero_le _, rfl, rfl, rfl, ⟨World.ownsRow.alloc (World.ownsRow_lit wb #[] 0 (Nat.le_refl _) (by unfold maxLen; omega) (by simp)) _, ?_, by omega⟩, ((Below.refl _ _).alloc (Nat.le_refl _) _).alloc (by simp) _⟩
    have := OwnT.base (litT (wb.alloc (.cells #[] 3)) (sQ R)) (B' := wb.heap.size) (by simp)
    simpa using this
   case round =>
    obtain ⟨j, g1, c1, g2, c2, hjc, rfl, rfl, rfl, hl, hbel⟩ := hrel
    have x1 := (hbel.cell (p := ⟨g5, 1, none⟩) hgw).trans x1w
    by_cases hlt : j < K
    ·have hji : (j : Int) < (K : Int) := by omega
     have hjN : (j : Int) < (N : Int) := by omega
     have hsz := hbel.size
     have lg1 := World.ownsRow.lt hl.1 g1 rfl
     have lg2 := World.ownsRow.lt hl.2.1 g2 rfl
     have x4w := HX.out j 4 (by omega) (by omega)
     simp only [cel] at x4w
     have HI : Hid ((R j).i = (j : Int)) := (hRk.out j).2.2
     obtain ⟨bb, HBB⟩ : ∃ x, Hid ((R j).b = x) := ⟨_, rfl⟩
     rw [HBB.out] at x4w
     have hgg := hl.2.2
     have HL : Hid (OwnT wr wb.heap.size (some ⟨g2, 0, none⟩) j c2 (sQ R)) := hl.2.1
     have HBel : Hid (Below wb.heap.size wb wr) := hbel
     have hl1 := hl.1
     clear hl hbel
     go_wp2_with (first | (guard_hyp KA; at_builtin; refine wpList_append_lies _ (by rfl) _ _ 27 (by rfl) wb.heap.size 9 j0 (.string ByteArray.empty) 1 16 Tryz.underlying27 hj hy0 hy1 hy2 rfl (by decide) (.slice (some ⟨g2, 0, none⟩) j c2) j _ (by rfl) (World.ownsRow.alloc KA.out.2.1 _) ⟨w2.heap.size, 0, none⟩ 1 1 [.string bb] (by rfl) (by rfl) (World.news_of_block (cs := #[.string bb]) (t := 9) (fr := (0, 0)) (heap_alloc_new w2 _)) (by simp [Value.oneCell']) (by omega) (by unfold maxLen; omega) (by omega) (by simp; omega) (w2.heap.size + 1) (by simp) ?_; intro g4 c4 w3 hown3 hgrow3 hat3 hltg3) | (at_builtin; refine wpList_append_lies _ (by rfl) _ _ 23 (by rfl) wb.heap.size 3 i0 (.int .i64 0) 1 8 Tryz.underlying23 hi hz0 hz1 hz2 rfl (by decide) (.slice (some ⟨g1, 0, none⟩) j c1) j _ (by rfl) (World.ownsRow.alloc hl1 _) ⟨wr.heap.size, 0, none⟩ 1 1 [.int .i64 (j : Int)] (by rfl) (by rfl) (World.news_of_block (cs := #[.int .i64 (j : Int)]) (t := 3) (fr := (0, 0)) (heap_alloc_new wr _)) (by simp [Value.oneCell']) (by omega) (by unfold maxLen; omega) (by omega) (by simp; omega) (wr.heap.size + 1) (by simp) ?_; intro g3 c3 w2 hown2 hgrow hat hltg; have hb2 : Below wb.heap.size wb w2 := (HBel.out.alloc hsz _).grown (show World.grownBy _ w2 (some g1) from hgrow) (by simp; omega) (fun x hx => by cases hx; exact lg1.1); have x4 := (hb2.cell (p := ⟨g5, j * 6 + 4, none⟩) hgw).trans x4w; have KA : Hid (w2.ownsRow wb.heap.size 3 1 (.slice (some ⟨g3, 0, none⟩) (j + 1) c3) (j + 1) (zL (fun x => (R x).i) j ++ [.int .i64 (j : Int)]) ∧ OwnT w2 wb.heap.size (some ⟨g2, 0, none⟩) j c2 (sQ R) ∧ Below wb.heap.size wb w2) := ⟨hown2, World.ownsRow.kept (World.ownsRow.alloc HL.out _) (show World.grownBy _ w2 (some g1) from hgrow) (.inr (by intro e; exact hgg (by simpa [Value.ownBlock] using e.symm))), hb2⟩; have hg3 : g3 ≠ g2 := own_ne hat hgg (Nat.lt_succ_of_lt lg2.2); have hsz2 := hb2.size; have lg3 := (World.ownsRow.lt hown2 g3 rfl); have lg2' : g2 < w2.heap.size := (World.ownsRow.lt KA.out.2.1 g2 rfl).2; have x1' := (hb2.cell (p := ⟨g5, 1, none⟩) hgw).trans x1w; clear hown2 hgrow hat hb2 x1))
     have KF : Hid (SbI w3 wb.heap.size g3 c3 g4 c4 (j + 1) R ∧ Below wb.heap.size wb w3) := by
      refine ⟨⟨?_, ?_, ?_⟩, (KA.out.2.2.alloc hsz2 _).grown (show World.grownBy _ w3 (some g2) from hgrow3) (by simp; omega) (fun x hx => by cases hx; exact lg2.1)⟩
      ·have := World.ownsRow.kept (World.ownsRow.alloc KA.out.1 _) (show World.grownBy _ w3 (some g2) from hgrow3) (.inr (by intro e; exact hg3 (by simpa [Value.ownBlock] using e)))
       rw [zL_snoc, HI.out]
       exact this
      ·unfold OwnT
       rw [sL_snoc, show sQ R j = bb from HBB.out]
       exact hown3
      ·rcases hat3 with e | e
       ·have e' : g2 = g4 := by simpa [Value.ownBlock] using e
        omega
       ·omega
     clear hown3 hgrow3 hat3 KA x4 x4w hl1 HL x1'
     go_roundw
     case rel => exact ⟨j + 1, g3, c3, g4, c4, by omega, by go_num, rfl, rfl, KF.out.1, KF.out.2⟩
     case measure => simp [intOf] <;> omega
    ·obtain rfl : j = K := by omega
     have KI : Hid (IntsAt wr (some ⟨g1, 0, none⟩) j (zsQ j R)) := hl.ints
     have KT : Hid (TxtAt wr (some ⟨g2, 0, none⟩) j (sQ R)) := OwnT.at hl.2.1
     have KB : Hid (Below w.heap.size w wr) := below2 KB2.out hbel
     have x2 := (hbel.cell (p := ⟨g5, 2, none⟩) hgw).trans x2w
     have KDC : Hid (∀ W, Below wr.heap.size wr W → Calls Tryz.prog 50 #[.int .i64 (j : Int), .int .i64 (N : Int), .slice (some ⟨g1, 0, none⟩) j c1, .slice (some ⟨g2, 0, none⟩) j c2] W fun e w' => e = .returned (.tuple #[.string (dcS (j : Int) (N : Int) (zsQ j R) j (sQ R)), .bool (dcB (j : Int) (N : Int) (zsQ j R) j (sQ R))]) ∧ Below W.heap.size W w') := fun W hW => sDecode_any _ _ _ _ _ _ _ _ _ _ W (KI.out.below hW) (KT.out.below hW) (fun _ => HRb.out)
     obtain ⟨ok, HOK⟩ : ∃ x, Hid (dcB (j : Int) (N : Int) (zsQ j R) j (sQ R) = x) := ⟨_, rfl⟩
     have HFz : Hid _ := HFy.out ok HOK.out
     rw [HOK.out] at KDC
     obtain ⟨tx, HTX⟩ : ∃ x, Hid (dcS (j : Int) (N : Int) (zsQ j R) j (sQ R) = x) := ⟨_, rfl⟩
     rw [HTX.out] at KDC HFz
     clear hl hbel hi hz0 hz1 hz2 hj hy0 hy1 hy2 x1w x2w HX HFy
     go_wp2_with fail
     go_cut [13, 14] from 54 to 67 (fun v13 v14 wx => Hid (Below wr.heap.size wr wx ∧ v13 = .string tx ∧ v14 = .bool ok))
     case first =>
      go_region_with ((go_at_call 50; refine Calls.mono (KDC.out _ ⟨rfl, rfl, rfl, Nat.le_refl _, fun _ _ => rfl⟩) ?_; rintro e w2 ⟨rfl, hb2'⟩; have hb2 := below_of_drew hb2'; clear hb2'; have z1 := (hb2.cell (p := ⟨g5, 1, none⟩) (block_lt_of_cell x1)).trans x1; have z2 := (hb2.cell (p := ⟨g5, 2, none⟩) (block_lt_of_cell x2)).trans x2))
      all_goals
       go_wp2_with fail
       go_meet
       exact ⟨hb2, rfl, rfl⟩
     obtain ⟨hbc, rfl, rfl⟩ := hcut.out
     clear hcut KDC
     cases ok with
     | false =>
      go_wp2
      go_ret2
      exact ⟨below2 KB.out hbc, HFz.out⟩
     | true =>
      go_wp2
      go_ret2
      exact ⟨below2 KB.out hbc, HFz.out⟩
theorem tells_congr {W W' : Nat → Nat} {N k : Nat} (h : ∀ q, q < N → W q = W' q) (ht : tells W N k) : tells W' N k := by
 obtain ⟨h1, h2, h3, h4⟩ := ht
 have e0 := h 0 (by omega)
 have e1 := h 1 (by omega)
 refine ⟨h1, by rw [← e0, ← e1]; exact h2, by rw [← e0, ← e1]; exact h3, fun q hq hq2 => ?_⟩
 rw [← h q hq2]
 exact h4 q (by rw [e0, e1]; exact hq) hq2
theorem tl_congr {W W' : Nat → Nat} {N k : Nat} (hk : 1 ≤ k) (h : ∀ q, q < N → W q = W' q) : tlB W N k = tlB W' N k ∧ tlS W N k = tlS W' N k := by
 by_cases ht : tells W N k
 ·have ht' := tells_congr h ht
  refine ⟨(tl_yes ht).1.trans (tl_yes ht').1.symm, ?_⟩
  rw [(tl_yes ht).2, (tl_yes ht').2]
  have e0 := h 0 (by have := ht.1; omega)
  have e1 := h 1 (by have := ht.1; omega)
  unfold told
  rw [← e0, ← e1]
  refine txt_congr fun q hq => h (q + 2) ?_
  have h1 := blen_ge (s := W 0 * 256 + W 1) hk
  have h2 := ht.2.2.1
  rw [← h2] at h1
  omega
 ·have ht' : ¬ tells W' N k := fun h' => ht (tells_congr (fun q hq => (h q hq).symm) h')
  exact ⟨(tl_no ht).1.trans (tl_no ht').1.symm, (tl_no ht).2.trans (tl_no ht').2.symm⟩
theorem first_fs {K M : Nat} {S : Nat → ByteArray} (h : Rgt (K : Int) (M : Int) (eI (fun i => i) K) K S) {t : Nat} (ht : t < K) (p : Nat) : fsT K M (eI (fun i => i) K) S t p = tat (S t) p := by
 obtain ⟨q1, q2, q3⟩ := sprOk_parts h.1
 obtain ⟨_, _, io, hbz⟩ := spread_pick h.diff (eI_len _ _) (show 1 ≤ K by omega) (show K ≤ M by omega) (by omega)
 have hbk : ∀ t j, t < K → j < K → bkM M K (eI (fun i => i) K) t j = Gm.dl t j := fun t j ht hj =>
  iv_dl (bZ_byt _ _ _) (fun a b ha hb => by
   have := hbz a b ha hb
   rw [eI_getD _ _ _ ha, Int.toNat_natCast] at this
   refine Eq.trans this ?_
   unfold Gm.sprd
   rw [if_pos ha]) io.2.2 ht hj
 unfold fsT
 rw [Gm.mp_congr (A' := Gm.dl) (B' := fun i p => tat (S i) p) (fun u hu => hbk t u ht hu) (fun _ _ => rfl)]
 exact Gm.mp_dl ht (tat_lt _ _)
theorem dc_again {K M : Nat} {zs : List Int} {S : Nat → ByteArray} (hr : Rgt (K : Int) (M : Int) zs K S) :
  dcB (K : Int) (M : Int) (eI (fun i => i) K) K (bdS (K : Int) (M : Int) zs S) = dcB (K : Int) (M : Int) zs K S ∧ dcS (K : Int) (M : Int) (eI (fun i => i) K) K (bdS (K : Int) (M : Int) zs S) = dcS (K : Int) (M : Int) zs K S := by
 have hr' := agr_rgt (bd_agr hr)
 obtain ⟨q1, q2, q3⟩ := sprOk_parts hr.1
 obtain ⟨e1, e2⟩ := dc_yes hr
 obtain ⟨f1, f2⟩ := dc_yes hr'
 rw [e1, e2, f1, f2, bd_size]
 have key : ∀ q, q < K * (S 0).size → fsW K M (eI (fun i => i) K) (bdS (K : Int) (M : Int) zs S) q = fsW K M zs S q := fun q hq => by
  unfold fsW
  rw [bd_size]
  obtain ⟨l, hl⟩ : ∃ l, (S 0).size = l := ⟨_, rfl⟩
  rw [hl] at hq ⊢
  have hl0 : 0 < l := by
   rcases Nat.eq_zero_or_pos l with h | h
   ·rw [h, Nat.mul_zero] at hq; omega
   ·exact h
  have ht : q / l < K := (Nat.div_lt_iff_lt_mul hl0).2 hq
  have hp : q % l < (S 0).size := by rw [hl]; exact Nat.mod_lt _ hl0
  unfold whl
  rw [first_fs hr' ht, bdS_is, tat_txt hp (Gm.mp_byt _ _ _ _ _)]
  exact bod_first (fsT_byt K M zs S) ht
 exact tl_congr (show 1 ≤ K by omega) key
theorem zsQ_all (K : Nat) (Q : Nat → Pc) : zsQ K (allQ K Q) = eI (fun i => i) K := rfl
theorem sQ_all (K : Nat) (Q : Nat → Pc) : sQ (allQ K Q) = alQ K Q := rfl
theorem rs_rg {root : ByteArray} {K : Nat} {Q : Nat → Pc} {e : Ending} (h : RsE root K Q e) : RgE root K Q e := by
 have key : Cm root K Q → dcB (Q 0).k (Q 0).n (zsQ K (allQ K Q)) K (sQ (allQ K Q)) = dcB (Q 0).k (Q 0).n (zsQ K Q) K (sQ Q) ∧ dcS (Q 0).k (Q 0).n (zsQ K (allQ K Q)) K (sQ (allQ K Q)) = dcS (Q 0).k (Q 0).n (zsQ K Q) K (sQ Q) := fun hc => by
  have hr := hc.1
  obtain ⟨q1, q2, q3⟩ := sprOk_parts hr.1
  have hk : (Q 0).k = (K : Int) := hr.2.2.1.symm
  obtain ⟨N, hN⟩ := Int.eq_ofNat_of_zero_le (show 0 ≤ (Q 0).n by omega)
  rw [zsQ_all, sQ_all]
  unfold alQ
  rw [hk, hN] at hr ⊢
  exact dc_again hr
 rcases h with ⟨h1, h2⟩ | ⟨h1, h2, h3⟩ | ⟨h1, h2, h3⟩
 ·exact .inl ⟨h1, h2⟩
 ·exact .inr (.inl ⟨h1, by rw [← (key h1).1]; exact h2, h3⟩)
 ·exact .inr (.inr ⟨h1, by rw [← (key h1).1]; exact h2, by rw [← (key h1).2]; exact h3⟩)
def RgA (root : ByteArray) (n : Nat) (P : Nat → Pc) (e : Ending) : Prop :=
 (enB root n P = false ∧ e = .returned (.tuple #[.string ⟨#[]⟩, .int .i64 1])) ∨ (enB root n P = true ∧ ∃ L : List Nat, L.Perm (gsel root P n) ∧ (∀ x y, x < y → y < L.length → (P (L.getD x 0)).i ≤ (P (L.getD y 0)).i) ∧ RgE root (enK root n P).toNat (qL P L) e)
theorem rgE_one {root : ByteArray} {K : Nat} {Q : Nat → Pc} {e e' : Ending} (h : RgE root K Q e) (h' : RgE root K Q e') : e = e' := by
 rcases h with ⟨h1, h2⟩ | ⟨h1, h2, h3⟩ | ⟨h1, h2, h3⟩ <;> rcases h' with ⟨k1, k2⟩ | ⟨k1, k2, k3⟩ | ⟨k1, k2, k3⟩
 ·rw [h2, k2]
 ·exact absurd k1 h1
 ·exact absurd k1 h1
 ·exact absurd h1 k1
 ·rw [h3, k3]
 ·rw [h2] at k2; cases k2
 ·exact absurd h1 k1
 ·rw [h2] at k2; cases k2
 ·rw [h3, k3]
theorem rgA_one {root : ByteArray} {n : Nat} {P : Nat → Pc} {e e' : Ending} (h : RgA root n P e) (h' : RgA root n P e') : e = e' := by
 rcases h with ⟨h1, h2⟩ | ⟨h1, L, hp, hs, hr⟩ <;> rcases h' with ⟨k1, k2⟩ | ⟨k1, L', kp, ks, kr⟩
 ·rw [h2, k2]
 ·rw [h1] at k1; cases k1
 ·rw [h1] at k1; cases k1
 ·obtain rfl := asc_one (gsel_one root P n) hp kp hs ks
  exact rgE_one hr kr
theorem rgA_is {root : ByteArray} {n : Nat} {P : Nat → Pc} {e : Ending} (h : RgA root n P e) : ∃ (s : ByteArray) (c : Int), e = .returned (.tuple #[.string s, .int .i64 c]) := by
 rcases h with ⟨_, h2⟩ | ⟨_, L, _, _, hr⟩
 ·exact ⟨_, _, h2⟩
 ·rcases hr with ⟨_, h2⟩ | ⟨_, _, h2⟩ | ⟨_, _, h2⟩ <;> exact ⟨_, _, h2⟩
end Go.Proofs.YtgooamiggebibaaGreatDoor
