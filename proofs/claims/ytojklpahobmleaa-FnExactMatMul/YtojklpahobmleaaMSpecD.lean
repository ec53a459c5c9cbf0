/- The model's product of matrices. Conditions: at most 2^20 rows, at most 2^20 numbers a row. Written by mkspec.py. -/
import Derived.Test.YtojklpahobmleaaMSpecC
namespace Go.Proofs.Ytojklpahobmleaa
open Go.ChangeShapes Go.WideShapes Go.ChangeAt Go.RowKit

theorem dotGo_mp (F H : Nat → Nat → Nat) (i j n : Nat) (xs ys : List Int) (hx : ∀ t, t < n → xs.getD t 0 = ((F i t : Nat) : Int)) (hy : ∀ t, t < n → ys.getD t 0 = ((H t j : Nat) : Int)) (hF : Gm.Byt F) (hH : Gm.Byt H) (k : Nat) (hk : k ≤ n) :
    dotGo xs ys (n - k) k (Gm.sm (fun t => Gp.m (F i t) (H t j)) k) = ((Gm.mp n F H i j : Nat) : Int) := by
  induction hd : n - k generalizing k with
  | zero =>
    have : k = n := by omega
    subst this
    rfl
  | succ d ih =>
    have h1 := dotGo_yes (xs := xs) (ys := ys) (n := n) (k := k) (X := Gm.sm (fun t => Gp.m (F i t) (H t j)) k) (by omega) (hx k (by omega)).symm (hy k (by omega)).symm (hF i k) (hH k j)
    rw [hd] at h1
    rw [h1, Gp.m_nat (hF i k) (hH k j), ← Gm.sm_s (fun t => Gp.m (F i t) (H t j)), show n - (k + 1) = d by omega]
    exact ih (k + 1) (by omega) (by omega)
set_option maxHeartbeats 4000000 in
theorem sMul_mat (a : Option Addr) (n ca : Nat) (L : Nat → Nat) (Z : Nat → Nat → Int) (a' : Option Addr) (n' ca' : Nat) (L' : Nat → Nat) (Z' : Nat → Nat → Int) (w : World) (h : MatAt w a n L Z) (h' : MatAt w a' n' L' Z') (hL : ∀ i, i < n → L i ≤ 1048576) (hL' : ∀ i, i < n' → L' i ≤ 1048576) :
    Calls Try.prog 26 #[.slice a n ca, .slice a' n' ca'] w fun e w' => ∃ v, e = .returned (.tuple #[v, .bool (muOk n L Z n' L' Z')]) ∧ ResM w w' v (muR n L Z n' L' Z') (L' 0) (Gm.mp n' (bZ n L Z) (bZ n' L' Z')) ∧ Below w.heap.size w w' := by
  obtain ⟨i0, hi, hz0, hz1, hz2⟩ := info_parts Try.infoInt
  obtain ⟨i1, hj, hy0, hy1, hy2⟩ := info_parts Try.infoInts
  have KO1 : Hid _ := sMatOk_any a n ca L Z w h hL
  have KO2 : Hid (∀ W, Below w.heap.size w W → _) := fun W hW => sMatOk_any a' n' ca' L' Z' W (h'.below hW) hL'
  by_cases ok : OkM n L Z
  case neg =>
    have hO : muOk n L Z n' L' Z' = false := muOk_no (fun hh => ok hh.1)
    have hR : muR n L Z n' L' Z' = 0 := by unfold muR; rw [if_neg (by rw [hO]; simp)]
    rw [okM_no ok] at KO1
    rw [hO, hR]
    clear hO hR ok h h' hL hL' KO2 hi hz0 hz1 hz2 hj hy0 hy1 hy2
    go_enter Try.func26, Try.ntmps26
    go_wp2_with fail
    refine Calls.mono KO1.out ?_
    rintro e w1 ⟨rfl, hb1⟩
    go_wp2
    go_ret2
    exact ⟨_, rfl, resLit0 _ _ hb1.size _ _, below2 hb1 ((Below.refl _ _).alloc (Nat.le_refl _) _)⟩
  rw [okM_yes ok] at KO1
  by_cases ok' : OkM n' L' Z'
  case neg =>
    have hO : muOk n L Z n' L' Z' = false := muOk_no (fun hh => ok' hh.2.1)
    have hR : muR n L Z n' L' Z' = 0 := by unfold muR; rw [if_neg (by rw [hO]; simp)]
    rw [okM_no ok'] at KO2
    rw [hO, hR]
    clear hO hR ok ok' h h' hL hL' hi hz0 hz1 hz2 hj hy0 hy1 hy2
    go_enter Try.func26, Try.ntmps26
    go_wp2_with fail
    refine Calls.mono KO1.out ?_
    rintro e w1 ⟨rfl, hb1⟩
    have hK2 := KO2.out w1 hb1
    go_wp2_with fail
    refine Calls.mono hK2 ?_
    rintro e w2 ⟨rfl, hb2⟩
    clear hK2
    go_wp2
    go_ret2
    exact ⟨_, rfl, resLit0 _ _ (Nat.le_trans hb1.size hb2.size) _ _, below2 (below2 hb1 hb2) ((Below.refl _ _).alloc (Nat.le_refl _) _)⟩
  rw [okM_yes ok'] at KO2
  obtain ⟨b1, off1, ai1, ci1, e1, hc1, _⟩ := h 0 (by have := ok.1; omega)
  subst e1
  rw [Nat.add_zero] at hc1
  have hlt1 := block_lt_of_cell hc1
  have hn0' : 0 < n := by have := ok.1; omega
  by_cases e : L 0 = n'
  case neg =>
    have hO : muOk n L Z n' L' Z' = false := muOk_no (fun hh => e hh.2.2)
    have hR : muR n L Z n' L' Z' = 0 := by unfold muR; rw [if_neg (by rw [hO]; simp)]
    rw [hO, hR]
    have hne : ((L 0 : Int) != (n' : Int)) = true := by simp; omega
    clear hO hR ok ok' h h' hL hL' e hi hz0 hz1 hz2 hj hy0 hy1 hy2
    generalize L 0 = l at hc1 hne
    go_enter Try.func26, Try.ntmps26
    go_wp2_with fail
    refine Calls.mono KO1.out ?_
    rintro e w1 ⟨rfl, hb1⟩
    have hK2 := KO2.out w1 hb1
    go_wp2_with fail
    refine Calls.mono hK2 ?_
    rintro e w2 ⟨rfl, hb2⟩
    have hc2 := ((below2 hb1 hb2).cell (p := ⟨b1, off1, none⟩) hlt1).trans hc1
    clear hK2 hc1
    go_wp2
    go_ret2
    exact ⟨_, rfl, resLit0 _ _ (Nat.le_trans hb1.size hb2.size) _ _, below2 (below2 hb1 hb2) ((Below.refl _ _).alloc (Nat.le_refl _) _)⟩
  have hO : muOk n L Z n' L' Z' = true := muOk_yes ⟨ok, ok', e⟩
  have hR : muR n L Z n' L' Z' = n := by unfold muR; rw [if_pos hO]
  rw [hO, hR]
  have KT : Hid (∀ W, Below w.heap.size w W → _) := fun W hW => sTurn0_any a' n' ca' L' Z' W (h'.below hW) ok'
  have KV : Hid (∀ i j, i < n → j < L 0 → Z i j = ((bZ n L Z i j : Nat) : Int)) := fun i j hi hj => by
    rw [bZ_eq ok hi hj]
    obtain ⟨X, hX, e⟩ := isB_nat ((ok.2.2.2.2 i hi).2 j hj)
    unfold cZ
    rw [e]
    simp
  have KL : Hid (∀ i, i < n → L i = L 0) := fun i hi => (ok.2.2.2.2 i hi).1
  have KBF : Hid (Gm.Byt (bZ n L Z)) := bZ_byt n L Z
  have KBH : Hid (Gm.Byt (bZ n' L' Z')) := bZ_byt n' L' Z'
  have hn2 : n ≤ 16 := ok.2.1
  have hm2 : n' ≤ 16 := ok'.2.1
  have hp1 : 1 ≤ L' 0 := ok'.2.2.1
  have hp2 : L' 0 ≤ 16 := ok'.2.2.2.1
  have KH : Hid (MatAt w (some ⟨b1, off1, none⟩) n L Z) := h
  generalize bZ n L Z = F at KV KBF
  generalize bZ n' L' Z' = H at KT KBH
  rw [e] at KV KL hc1
  generalize L' 0 = l' at *
  clear h h' hL hL' ok ok' e hO hR
  obtain ⟨P, hP⟩ : ∃ P, Gm.mp n' F H = P := ⟨_, rfl⟩
  rw [hP]
  have KP : Hid (Gm.mp n' F H = P) := hP
  clear hP
  go_enter Try.func26, Try.ntmps26
  go_wp2_with fail
  refine Calls.mono KO1.out ?_
  rintro e w1 ⟨rfl, hb1⟩
  have hK2 := KO2.out w1 hb1
  go_wp2_with fail
  refine Calls.mono hK2 ?_
  rintro e w2 ⟨rfl, hb2⟩
  have hc2 := ((below2 hb1 hb2).cell (p := ⟨b1, off1, none⟩) hlt1).trans hc1
  have hb12 := below2 hb1 hb2
  have hKT := KT.out w2 hb12
  clear hK2 hc1 KO1 KO2 KT hb1 hb2
  go_wp2_with fail
  refine Calls.mono hKT ?_
  rintro e w3 ⟨GT, cT, AT, CT, rfl, hMT, hb3⟩
  have KMT : Hid (MatAt w3 (some ⟨GT, 0, none⟩) l' (fun _ => n') (fun i j => ((H j i : Nat) : Int))) := hMT.at
  have hsz3 : w.heap.size ≤ w3.heap.size := Nat.le_trans hb12.size hb3.size
  have KB3 : Hid (Below w.heap.size w w3) := below2 hb12 hb3
  have hGT3 := hMT.olt.2
  have hb13 : b1 < w3.heap.size := by omega
  clear hMT hKT hc2 hb12 hb3
  have H0 : Hid (MatI (w3.alloc (.cells #[] 31)) w3.heap.size (w3.alloc (.cells #[] 31)).heap.size (some ⟨w3.heap.size, 0, none⟩) 0 0 (fun _ => none) (fun _ => l') (fun _ => 0) (fun i j => ((P i j : Nat) : Int))) := litM w3 _ _ _ _
  have KB4 : Hid (Below w3.heap.size w3 (w3.alloc (.cells #[] 31))) := (Below.refl _ _).alloc (Nat.le_refl _) _
  have KH3 : Hid (MatAt w3 (some ⟨b1, off1, none⟩) n L Z) := KH.out.below KB3.out
  clear KH
  go_wp2
  go_loopw [7, 8] (fun v i wr => ∃ k G cap A C, k ≤ n ∧ i = .int .i64 ((k : Nat) : Int) ∧ v = .slice (some ⟨G, 0, none⟩) k cap ∧ MatI wr w3.heap.size wr.heap.size (some ⟨G, 0, none⟩) k cap A (fun _ => l') C (fun i j => ((P i j : Nat) : Int)) ∧ Below w3.heap.size w3 wr) (fun _ i _ => n - (intOf i).toNat)
  case atStart => exact ⟨0, _, _, _, _, Nat.zero_le _, rfl, rfl, H0.out, KB4.out⟩
  case round =>
    obtain ⟨k, G, cap, A, C, hk, rfl, rfl, hM, hbel⟩ := hrel
    clear H0
    by_cases hlt : k < n
    · have hki : (k : Int) < (n : Int) := by omega
      have hsz0 := hbel.size
      have KR : Hid (OwnR (wr.alloc (.cells #[] 3)) wr.heap.size wr.heap.size 0 0 (P k)) := lit0 wr (P k)
      have KM : Hid (MatI (wr.alloc (.cells #[] 3)) w3.heap.size wr.heap.size (some ⟨G, 0, none⟩) k cap A (fun _ => l') C (fun i j => ((P i j : Nat) : Int))) := hM.below ((Below.refl _ _).alloc (Nat.le_refl _) _)
      have KB : Hid (Below w3.heap.size w3 (wr.alloc (.cells #[] 3))) := hbel.alloc hsz0 _
      have hGl := hM.olt.1

      clear hM hbel
      obtain ⟨b0, hb0⟩ : ∃ b0, wr.heap.size = b0 := ⟨_, rfl⟩
      rw [hb0] at KR KM hsz0
      go_wp2
      clear hb0
      go_loopw [9, 10] (fun v i wr => ∃ q gr capr, q ≤ l' ∧ i = .int .i64 ((q : Nat) : Int) ∧ v = .slice (some ⟨gr, 0, none⟩) q capr ∧ OwnR wr b0 gr q capr (P k) ∧ MatI wr w3.heap.size b0 (some ⟨G, 0, none⟩) k cap A (fun _ => l') C (fun i j => ((P i j : Nat) : Int)) ∧ Below w3.heap.size w3 wr) (fun _ i _ => l' - (intOf i).toNat)
      case atStart => exact ⟨0, _, _, Nat.zero_le _, rfl, rfl, KR.out, KM.out, KB.out⟩
      case round =>
        obtain ⟨q, gr, capr, hq, rfl, rfl, hown, hM, hbel⟩ := hrel
        clear KR KM KB
        have hgr := hown.lt.1
        have hsz := hbel.size
        have hglt := hown.lt.2
        by_cases hqn : q < l'
        · have hqi : (q : Int) < (l' : Int) := by omega
          obtain ⟨b2, off2, ai, ci, eb, hc, hr⟩ := KH3.out.below hbel k hlt
          cases eb
          rw [KL.out k hlt] at hc hr
          obtain ⟨b3, off3, at3, ct3, eb3, hct, hrt⟩ := KMT.out.below hbel q hqn
          cases eb3
          rw [Nat.zero_add] at hct
          have hdv := dotGo_mp F H k q n' (zI (Z k) n') (zI (fun j => ((H j q : Nat) : Int)) n') (fun t ht => by rw [zI_getD _ _ _ ht]; exact KV.out k t hlt ht) (fun t ht => by rw [zI_getD _ _ _ ht]) KBF.out KBH.out 0 (Nat.zero_le _)
          have hD := fun w h1 h2 => sDot_same ai at3 n' ci ct3 (zI (Z k) n') (zI (fun j => ((H j q : Nat) : Int)) n') w h1 h2 (by omega)
          rw [show n' - 0 = n' from rfl, show Gm.sm (fun t => Gp.m (F k t) (H t q)) 0 = 0 from rfl, KP.out] at hdv
          rw [hdv] at hD
          clear hdv
          have hcl := block_lt_of_cell hc
          have hctl := block_lt_of_cell hct
          have hcb : b1 < b0 := by omega
          have hctb : GT < b0 := by omega
          have hne1 : b1 ≠ gr := by omega
          have hne2 : GT ≠ gr := by omega
          have hbx : b0 ≤ wr.heap.size := by omega
          have hrd : IntsAt wr.drew ai n' (zI (Z k) n') := hr.below ⟨rfl, rfl, rfl, Nat.le_refl _, fun _ _ => rfl⟩
          have hrtd : IntsAt wr.drew at3 n' (zI (fun j => ((H j q : Nat) : Int)) n') := hrt.below ⟨rfl, rfl, rfl, Nat.le_refl _, fun _ _ => rfl⟩
          go_wp2_with fail
          go_region_held3 (fun w' => w'.cell? ⟨b1, off1 + k, none⟩ = some (.slice ai n' ci) ∧ w'.cell? ⟨GT, q, none⟩ = some (.slice at3 n' ct3)) (go_keep) ((first | (go_at_call 66; refine Calls.mono (hD wr.drew hrd hrtd) ?_; rintro e w5 ⟨rfl, hb5'⟩; have hb5 := below_of_drew hb5'; clear hb5'; have hs5 := hb5.size; have cc5 := (hb5.cell (p := ⟨b1, off1 + k, none⟩) hcl).trans hc; have cd5 := (hb5.cell (p := ⟨GT, q, none⟩) hctl).trans hct; have hba : Below w5.heap.size w5 (w5.alloc (.cells #[.int .i64 ((P k q : Nat) : Int)] 3)) := (Below.refl _ _).alloc (Nat.le_refl _) _; have ca5 := (hba.cell (p := ⟨b1, off1 + k, none⟩) (block_lt_of_cell cc5)).trans cc5; have cb5 := (hba.cell (p := ⟨GT, q, none⟩) (block_lt_of_cell cd5)).trans cd5; have hown5 := OwnR.below hown hb5) | (guard_hyp hown5; refine step_append_lies _ (by rfl) _ _ _ (by rfl) b0 3 i0 _ 1 8 Try.underlying31 hi hz0 hz1 hz2 rfl (by omega) (.slice (some ⟨gr, 0, none⟩) q capr) q _ (by rfl) (World.ownsRow.alloc hown5 _) ⟨w5.heap.size, 0, none⟩ 1 1 [.int .i64 ((P k q : Nat) : Int)] (by rfl) (by rfl) (World.news_of_block (cs := #[.int .i64 ((P k q : Nat) : Int)]) (t := 3) (fr := (0, 0)) (heap_alloc_new w5 _)) (by simp [Value.oneCell']) (by omega) (by unfold maxLen; omega) (by omega) (by simp; omega) (w5.heap.size + 1) (by simp) ?_; intro g2 cap3 w2 hown2 hgrow hat hltg; have ca2 := hgrow.cell (row := some gr) ca5 (fun e => absurd (Option.some.inj e) hne1); have cb2 := hgrow.cell (row := some gr) cb5 (fun e => absurd (Option.some.inj e) hne2))))
          all_goals
            have hsz5 : b0 ≤ w5.heap.size := by have := hb5.size; omega
            have HO : Hid (OwnR w2 b0 g2 (q + 1) cap3 (P k)) := OwnR.snoc hown2
            have HM : Hid (MatI w2 w3.heap.size b0 (some ⟨G, 0, none⟩) k cap A (fun _ => l') C (fun i j => ((P i j : Nat) : Int))) := MatI.rowed _ (hM.below hb5) hgr hgrow
            have hb' : Below w3.heap.size w3 w2 := ((below2 hbel hb5).alloc (Nat.le_trans hsz hb5.size) _).grown (show World.grownBy _ w2 (some gr) from hgrow) (by simp; omega) (fun j hj => by cases hj; omega)
            clear hown2 hgrow hat hltg hown hM hown5
            go_wp2
            go_roundw
            case rel => exact ⟨q + 1, g2, cap3, by omega, by go_num, rfl, HO.out, HM.out, hb'⟩
            case measure => simp [intOf] <;> omega

        · obtain rfl : l' = q := by omega
          have hqi : ¬ (l' : Int) < (l' : Int) := by omega

          go_wp2_with (at_builtin; refine wpList_append_lies _ (by rfl) _ _ 24 (by rfl) w3.heap.size 31 i1 (.slice none 0 0) 1 24 Try.underlying24 hj hy0 hy1 hy2 rfl (by decide) (.slice (some ⟨G, 0, none⟩) k cap) k _ (by rfl) (World.ownsRow.alloc hM.out _) ⟨wr.heap.size, 0, none⟩ 1 1 [.slice (some ⟨gr, 0, none⟩) l' capr] (by rfl) (by rfl) (World.news_of_block (cs := #[.slice (some ⟨gr, 0, none⟩) l' capr]) (t := 31) (fr := (0, 0)) (heap_alloc_new wr _)) (by simp [Value.oneCell']) (by omega) (by unfold maxLen; omega) (by omega) (by simp; omega) (wr.heap.size + 1) (by simp) ?_; intro g2 cap3 w2 hown2 hgrow hat hltg)
          obtain ⟨A', C', hP⟩ := MatI.pushed _ hM hsz0 hown hgrow hown2
          have HP : Hid (MatI w2 w3.heap.size w2.heap.size (some ⟨g2, 0, none⟩) (k + 1) cap3 A' (fun _ => l') C' (fun i j => ((P i j : Nat) : Int))) := hP
          have hb' : Below w3.heap.size w3 w2 := (hbel.alloc hsz _).grown (show World.grownBy _ w2 (some G) from hgrow) (by simp; omega) (fun j hj => by cases hj; exact hGl)
          clear hown2 hgrow hat hltg hown hM hP
          go_roundw
          case rel => exact ⟨k + 1, g2, cap3, A', C', by omega, by go_num, rfl, HP.out, hb'⟩
          case measure => simp [intOf] <;> omega
    · obtain rfl : k = n := by omega
      have KM : Hid _ := hM
      clear hM

      go_wp2
      go_ret2
      exact ⟨_, rfl, ResM.mk KM.out hsz3, below2 KB3.out hbel⟩
end Go.Proofs.Ytojklpahobmleaa
