/- The model's copy of a matrix and its rank. Conditions: at most 2^20 rows, at most 2^20 numbers a row. -/
import Derived.Test.YtojklpahobmleaaMRed
import Derived.Test.YtojklpahobmleaaMSpecE
namespace Go.Proofs.Ytojklpahobmleaa
open Go.ChangeShapes Go.WideShapes Go.ChangeAt Go.RowKit

theorem MatI.g {w : World} {B E : Nat} {a : Option Addr} {n cap : Nat} {A : Nat → Option Addr} {W : Nat} {C : Nat → Nat} {F : Nat → Nat → Nat} (h : MatI w B E a n cap A (fun _ => W) C (fun i j => ((F i j : Nat) : Int))) (hW : 0 < W) : ∃ g : Nat → Nat, MatI w B E a n cap (fun i => some ⟨g i, 0, none⟩) (fun _ => W) C (fun i j => ((F i j : Nat) : Int)) := by
  have hx : ∀ i, i < n → ∃ g, A i = some ⟨g, 0, none⟩ := fun i hi => by
    rcases own_shape (h.row i hi) with ⟨_, h0, _⟩ | ⟨g, _, e, _⟩
    · omega
    · exact ⟨g, e⟩
  refine ⟨fun i => if hi : i < n then Classical.choose (hx i hi) else 0, h.congr (fun i hi => ⟨?_, rfl, rfl, fun _ _ => rfl⟩)⟩
  simp only [hi, dif_pos]
  exact Classical.choose_spec (hx i hi)
set_option maxHeartbeats 4000000 in
theorem sCopy_any (a : Option Addr) (n ca : Nat) (L : Nat → Nat) (Z : Nat → Nat → Int) (w : World) (h : MatAt w a n L Z) (ok : OkM n L Z) :
    Calls Try.prog 56 #[.slice a n ca] w fun e w' => ∃ G cap A C, e = .returned (.slice (some ⟨G, 0, none⟩) n cap) ∧ MatI w' w.heap.size w'.heap.size (some ⟨G, 0, none⟩) n cap A (fun _ => L 0) C (fun i j => ((bZ n L Z i j : Nat) : Int)) ∧ Below w.heap.size w w' := by
  obtain ⟨i0, hi, hz0, hz1, hz2⟩ := info_parts Try.infoInt
  obtain ⟨i1, hj, hy0, hy1, hy2⟩ := info_parts Try.infoInts
  have KV : Hid (∀ i j, i < n → j < L 0 → Z i j = ((bZ n L Z i j : Nat) : Int)) := fun i j hi hj => by
    rw [bZ_eq ok hi hj]
    obtain ⟨X, hX, e⟩ := isB_nat ((ok.2.2.2.2 i hi).2 j hj)
    unfold cZ
    rw [e]
    simp
  have KL : Hid (∀ i, i < n → L i = L 0) := fun i hi => (ok.2.2.2.2 i hi).1
  have hn1 : 1 ≤ n := ok.1
  have hn2 : n ≤ 16 := ok.2.1
  have hl1 : 1 ≤ L 0 := ok.2.2.1
  have hl2 : L 0 ≤ 16 := ok.2.2.2.1
  generalize bZ n L Z = P at KV
  obtain ⟨l, hl⟩ : ∃ l, L 0 = l := ⟨_, rfl⟩
  rw [hl] at KV KL hl1 hl2 ⊢
  have KH : Hid (MatAt w a n L Z) := h
  clear h ok hl
  have H0 : Hid (MatI (w.alloc (.cells #[] 31)) w.heap.size (w.alloc (.cells #[] 31)).heap.size (some ⟨w.heap.size, 0, none⟩) 0 0 (fun _ => none) (fun _ => l) (fun _ => 0) (fun i j => ((P i j : Nat) : Int))) := litM w _ _ _ _
  have KB0 : Hid (Below w.heap.size w (w.alloc (.cells #[] 31))) := (Below.refl _ _).alloc (Nat.le_refl _) _
  go_enter Try.func56, Try.ntmps56
  go_wp2
  go_loopw [3, 4] (fun v i wr => ∃ k G cap A C, k ≤ n ∧ i = .int .i64 ((k : Nat) : Int) ∧ v = .slice (some ⟨G, 0, none⟩) k cap ∧ MatI wr w.heap.size wr.heap.size (some ⟨G, 0, none⟩) k cap A (fun _ => l) C (fun i j => ((P i j : Nat) : Int)) ∧ Below w.heap.size w wr) (fun _ i _ => n - (intOf i).toNat)
  case atStart => exact ⟨0, _, _, _, _, Nat.zero_le _, rfl, rfl, H0.out, KB0.out⟩
  case round =>
    obtain ⟨k, G, cap, A, C, hk, rfl, rfl, hM, hbel⟩ := hrel
    clear H0 KB0
    by_cases hlt : k < n
    · have hki : (k : Int) < (n : Int) := by omega
      have hsz := hbel.size
      obtain ⟨b3, off3, ai, ci, rfl, hc, hr⟩ := KH.out.below hbel k hlt
      rw [KL.out k hlt] at hc hr
      obtain ⟨b4, off4, rfl, hcell⟩ := hr.some (by omega)
      have hnews : ∀ j u, ((eI (P k) l).map (Value.int .i64))[j]? = some u → wr.cell? ((⟨b4, off4, none⟩ : Addr).add j) = some u := fun j u hu => by
        have hjl : j < l := by
          by_cases hh : j < l
          · exact hh
          · rw [List.getElem?_eq_none (by simp [eI_len]; omega)] at hu; cases hu
        have ea : (⟨b4, off4, none⟩ : Addr).add j = ⟨b4, off4 + j, none⟩ := by unfold Addr.add; split <;> simp_all
        rw [ea, hcell j hjl, zI_getD _ _ _ hjl, KV.out k j hlt hjl]
        simpa [eI, hjl] using hu
      have hba : Below wr.heap.size wr (wr.alloc (.cells #[] 3)) := (Below.refl _ _).alloc (Nat.le_refl _) _
      have hc2 := (hba.cell (p := ⟨b3, off3 + k, none⟩) (block_lt_of_cell hc)).trans hc
      have hcl := fun j u hu => block_lt_of_cell (hnews j u hu)
      have KW : Hid (∀ j u, ((eI (P k) l).map (Value.int .i64))[j]? = some u → (wr.alloc (.cells #[] 3)).cell? ((⟨b4, off4, none⟩ : Addr).add j) = some u) := fun j u hu => (hba.cell (p := (⟨b4, off4, none⟩ : Addr).add j) (hcl j u hu)).trans (hnews j u hu)
      have KM : Hid (MatI wr w.heap.size wr.heap.size (some ⟨G, 0, none⟩) k cap A (fun _ => l) C (fun i j => ((P i j : Nat) : Int))) := hM
      have KR : Hid (OwnR (wr.alloc (.cells #[] 3)) wr.heap.size wr.heap.size 0 0 (P k)) := lit0 wr (P k)
      have KBe : Hid (Below w.heap.size w wr) := hbel
      have hlen2 : ((eI (P k) l).map (Value.int .i64)).length = l * 1 := by simp [eI_len]
      have hGl := hM.olt.1
      obtain ⟨news, hnw⟩ : ∃ news, (eI (P k) l).map (Value.int .i64) = news := ⟨_, rfl⟩
      have KNW : Hid ((eI (P k) l).map (Value.int .i64) = news) := hnw
      have hone : ∀ u ∈ news, u.oneCell' = true := by rw [← hnw]; intro u hu; simp at hu; obtain ⟨y, _, rfl⟩ := hu; rfl
      have KONE : Hid (∀ u ∈ news, u.oneCell' = true) := hone
      rw [hnw] at KW hlen2
      clear hr hcell hnews hcl hM hba hnw hone hbel
      go_wp2_with (first | (guard_hyp KR; at_builtin; refine wpList_append_lies _ (by rfl) _ _ 31 (by rfl) wr.heap.size 3 i0 (.int .i64 0) 1 8 Try.underlying31 hi hz0 hz1 hz2 rfl (by decide) (.slice (some ⟨wr.heap.size, 0, none⟩) 0 0) 0 _ (by rfl) KR.out ⟨b4, off4, none⟩ l ci news (by rfl) hlen2 KW.out KONE.out (by omega) (by unfold maxLen; omega) (by omega) (by simp) (wr.heap.size + 1) (by simp) ?_; intro g2 cap3 w2 hown2 hgrow hat hltg; have KO2 : Hid (OwnR w2 wr.heap.size g2 l cap3 (P k)) := (by rw [Nat.zero_add] at hown2; rw [← KNW.out] at hown2; exact hown2); have hM2 : MatI w2 w.heap.size wr.heap.size (some ⟨G, 0, none⟩) k cap A (fun _ => l) C (fun i j => ((P i j : Nat) : Int)) := MatI.rowed _ KM.out (Nat.le_refl _) hgrow; have KB2 : Hid (Below w.heap.size w w2) := (KBe.out.alloc hsz _).grown (show World.grownBy _ w2 (some wr.heap.size) from hgrow) (by simp; omega) (fun j hj => by cases hj; exact hsz); have hsz2 : wr.heap.size ≤ w2.heap.size := (by have := hgrow.size; simp at this; omega); clear KR KW hown2 hgrow hat hltg KM KBe) | (guard_hyp hM2; at_builtin; refine wpList_append_lies _ (by rfl) _ _ 24 (by rfl) w.heap.size 31 i1 (.slice none 0 0) 1 24 Try.underlying24 hj hy0 hy1 hy2 rfl (by decide) (.slice (some ⟨G, 0, none⟩) k cap) k _ (by rfl) (World.ownsRow.alloc hM2.out _) ⟨w2.heap.size, 0, none⟩ 1 1 [.slice (some ⟨g2, 0, none⟩) l cap3] (by rfl) (by rfl) (World.news_of_block (cs := #[.slice (some ⟨g2, 0, none⟩) l cap3]) (t := 31) (fr := (0, 0)) (heap_alloc_new w2 _)) (by simp [Value.oneCell']) (by omega) (by unfold maxLen; omega) (by omega) (by simp; omega) (w2.heap.size + 1) (by simp) ?_; intro g4 cap4 w4 hown4 hgrow4 hat4 hltg4))
      obtain ⟨A', C', hP⟩ := MatI.pushed _ hM2 hsz KO2.out hgrow4 hown4
      have HP : Hid (MatI w4 w.heap.size w4.heap.size (some ⟨g4, 0, none⟩) (k + 1) cap4 A' (fun _ => l) C' (fun i j => ((P i j : Nat) : Int))) := hP
      have hb' : Below w.heap.size w w4 := (KB2.out.alloc (Nat.le_trans hsz hsz2) _).grown (show World.grownBy _ w4 (some G) from hgrow4) (by simp; omega) (fun j hj => by cases hj; exact hGl)
      clear hown4 hgrow4 hat4 hltg4 hM2 hP
      go_roundw
      case rel => exact ⟨k + 1, g4, cap4, A', C', by omega, by go_num, rfl, HP.out, hb'⟩
      case measure => simp [intOf] <;> omega
    · obtain rfl : k = n := by omega
      have KM : Hid _ := hM
      clear hM
      go_wp2
      go_ret
      exact ⟨G, cap, A, C, rfl, KM.out, hbel⟩
/-- The rank of what may be a matrix. -/
noncomputable def rankI (n : Nat) (L : Nat → Nat) (Z : Nat → Nat → Int) : Int := if okM n L Z = true then ((Gm.rk (bZ n L Z) n (L 0) : Nat) : Int) else -1
set_option maxHeartbeats 4000000 in
theorem sRank_any (a : Option Addr) (n ca : Nat) (L : Nat → Nat) (Z : Nat → Nat → Int) (w : World) (h : MatAt w a n L Z) (hL : ∀ i, i < n → L i ≤ 1048576) :
    Calls Try.prog 20 #[.slice a n ca] w fun e w' => e = .returned (.int .i64 (rankI n L Z)) ∧ Below w.heap.size w w' := by
  have KO : Hid _ := sMatOk_any a n ca L Z w h hL
  by_cases ok : OkM n L Z
  case neg =>
    have hR : rankI n L Z = -1 := by unfold rankI; rw [if_neg (by rw [okM_no ok]; simp)]
    rw [okM_no ok] at KO
    rw [hR]
    clear h hL ok hR
    go_enter Try.func20, Try.ntmps20
    go_wp2_with fail
    refine Calls.mono KO.out ?_
    rintro e w1 ⟨rfl, hb1⟩
    go_wp2
    go_ret
    exact ⟨rfl, hb1⟩
  have hR : rankI n L Z = ((Gm.rk (bZ n L Z) n (L 0) : Nat) : Int) := by unfold rankI; rw [if_pos (okM_yes ok)]
  rw [okM_yes ok] at KO
  rw [hR]
  obtain ⟨b1, off1, ai1, ci1, e1, hc1, _⟩ := h 0 (by have := ok.1; omega)
  subst e1
  rw [Nat.add_zero] at hc1
  have hlt1 := block_lt_of_cell hc1
  have hn0' : 0 < n := by have := ok.1; omega
  have KC : Hid (∀ W, Below w.heap.size w W → _) := fun W hW => sCopy_any (some ⟨b1, off1, none⟩) n ca L Z W (h.below hW) ok
  have KBY : Hid (Gm.Byt (bZ n L Z)) := bZ_byt n L Z
  have hn2 : n ≤ 16 := ok.2.1
  have hl1 : 1 ≤ L 0 := ok.2.2.1
  have hl2 : L 0 ≤ 16 := ok.2.2.2.1
  generalize bZ n L Z = P at KC KBY
  generalize L 0 = l at *
  clear h hL ok hR
  go_enter Try.func20, Try.ntmps20
  go_wp2_with fail
  refine Calls.mono KO.out ?_
  rintro e w1 ⟨rfl, hb1⟩
  have hc2 := (hb1.cell (p := ⟨b1, off1, none⟩) hlt1).trans hc1
  have hlt2 := block_lt_of_cell hc2
  have hK := KC.out w1.drew (below2 hb1 ⟨rfl, rfl, rfl, Nat.le_refl _, fun _ _ => rfl⟩)
  have KK : Hid _ := hK
  clear hK KC KO hc1
  go_wp2_with fail
  go_region_held3 (fun w' => w'.cell? ⟨b1, off1, none⟩ = some (.slice ai1 l ci1)) (go_keep) ((first | (go_at_call 56; refine Calls.mono KK.out ?_; rintro e w2 ⟨G, cap, A, C, rfl, hM, hb2'⟩; have hb2 := below_of_drew hb2'; clear hb2'; have hc3 := (hb2.cell (p := ⟨b1, off1, none⟩) hlt2).trans hc2; obtain ⟨g, hMg⟩ := MatI.g hM (by omega); have KMg : Hid _ := hMg; clear hM hMg) | (guard_hyp KMg; go_at_call 54; refine Calls.mono (sReduce_any _ _ G n cap l l g C P _ KMg.out KBY.out (Nat.le_refl _) (by omega) (by omega)) ?_; rintro e w3 ⟨rfl, _, hb3⟩; have hc4 := (hb3.cell (p := ⟨b1, off1, none⟩) (show b1 < w1.heap.size from hlt2)).trans hc3)))
  all_goals
    have hbb : Below w.heap.size w w3 := below2 hb1 ⟨hb3.os.trans hb2.os, hb3.tape.trans hb2.tape, hb3.output.trans hb2.output, Nat.le_trans hb2.size hb3.size, fun j hj => (hb3.block j (show j < w1.heap.size from hj)).trans (hb2.block j hj)⟩
    clear KMg
    go_wp2
    go_ret
    exact ⟨rfl, hbb⟩
end Go.Proofs.Ytojklpahobmleaa
