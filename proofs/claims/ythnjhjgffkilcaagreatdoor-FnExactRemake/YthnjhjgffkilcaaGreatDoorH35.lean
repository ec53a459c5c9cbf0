/- The model's inverse of a matrix. Conditions: at most 2^20 rows, at most 2^20 numbers a row. -/
import Derived.Test.YthnjhjgffkilcaaGreatDoorH34
import Derived.Test.YthnjhjgffkilcaaGreatDoorH27
import Derived.Test.YthnjhjgffkilcaaGreatDoorH29
import Derived.Test.YthnjhjgffkilcaaGreatDoorH32
namespace Go.Proofs.YthnjhjgffkilcaaGreatDoor
set_option maxRecDepth 2000
open Go.ChangeShapes Go.WideShapes Go.ChangeAt Go.RowKit

theorem eI_app {f : Nat → Nat} {n m : Nat} {h : Nat → Nat} (e : ∀ j, j < m → f (n + j) = h j) : (eI f n).map (Value.int .i64) ++ (eI h m).map (Value.int .i64) = (eI f (n + m)).map (Value.int .i64) := by
  unfold eI
  rw [← List.map_append]
  congr 1
  apply List.ext_getElem?
  intro i
  simp only [List.getElem?_append, List.length_map, List.length_range, List.getElem?_map]
  by_cases h1 : i < n
  · simp [h1, show i < n + m by omega]
  · by_cases h2 : i < n + m
    · simp [h1, h2, show i - n < m by omega]
      rw [← e (i - n) (by omega), show n + (i - n) = i by omega]
    · simp [h1, h2, show ¬ i - n < m by omega]
theorem news_eI {w : World} {b off n : Nat} {f : Nat → Nat} (h : ∀ j, j < n → w.cell? ⟨b, off + j, none⟩ = some (.int .i64 ((f j : Nat) : Int))) : ∀ j u, ((eI f n).map (Value.int .i64))[j]? = some u → w.cell? ((⟨b, off, none⟩ : Addr).add j) = some u := fun j u hu => by
  have hj : j < n := by
    by_cases hh : j < n
    · exact hh
    · rw [List.getElem?_eq_none (by simp [eI_len]; omega)] at hu; cases hu
  have ea : (⟨b, off, none⟩ : Addr).add j = ⟨b, off + j, none⟩ := by unfold Addr.add; split <;> simp_all
  rw [ea, h j hj]
  simpa [eI, hj] using hu
theorem one_eI (f : Nat → Nat) (n : Nat) : ∀ u ∈ (eI f n).map (Value.int .i64), u.oneCell' = true := by
  intro u hu
  simp at hu
  obtain ⟨y, _, rfl⟩ := hu
  rfl
set_option maxRecDepth 100000 in
set_option maxHeartbeats 8000000 in
theorem sInv_mat (a : Option Addr) (n ca : Nat) (L : Nat → Nat) (Z : Nat → Nat → Int) (w : World) (h : MatAt w a n L Z) (hL : ∀ i, i < n → L i ≤ 1048576) :
    Calls Tryz.prog 191 #[.slice a n ca] w fun e w' => ∃ v, e = .returned (.tuple #[v, .bool (ivOk n L Z)]) ∧ ResM w w' v (ivR n L Z) n (Gm.iv (bZ n L Z) n) ∧ Below w.heap.size w w' := by
  obtain ⟨i0, hi, hz0, hz1, hz2⟩ := info_parts Tryz.infoInt
  obtain ⟨i1, hj, hy0, hy1, hy2⟩ := info_parts Tryz.infoInts
  have KO : Hid _ := sMatOk_any a n ca L Z w h hL
  by_cases ok : OkM n L Z
  case neg =>
    rw [ivOk_no (fun hh => ok hh.1), ivR_no (fun hh => ok hh.1)]
    rw [okM_no ok] at KO
    clear h hL ok hi hz0 hz1 hz2 hj hy0 hy1 hy2
    go_enter Tryz.func191, Tryz.ntmps191
    go_wp2_with fail
    refine Calls.mono KO.out ?_
    rintro e w1 ⟨rfl, hb1⟩
    go_wp2
    go_ret2
    exact ⟨_, rfl, resLit0 _ _ hb1.size _ _, below2 hb1 ((Below.refl _ _).alloc (Nat.le_refl _) _)⟩
  rw [okM_yes ok] at KO
  obtain ⟨b1, off1, ai1, ci1, e1, hc1, _⟩ := h 0 (by have := ok.1; omega)
  subst e1
  rw [Nat.add_zero] at hc1
  have hlt1 := block_lt_of_cell hc1
  have hn0' : 0 < n := by have := ok.1; omega
  have KV : Hid (∀ i j, i < n → j < L 0 → Z i j = ((bZ n L Z i j : Nat) : Int)) := fun i j hi hj => by
    rw [bZ_eq ok hi hj]
    obtain ⟨X, hX, e⟩ := isB_nat ((ok.2.2.2.2 i hi).2 j hj)
    unfold cZ
    rw [e]
    simp
  have KL : Hid (∀ i, i < n → L i = L 0) := fun i hi => (ok.2.2.2.2 i hi).1
  have hn1 : 1 ≤ n := ok.1
  have hn2 : n ≤ 16 := ok.2.1
  have hl1 : 1 ≤ L 0 := ok.2.2.1
  have hl2 : L 0 ≤ 16 := ok.2.2.2.1
  have KBY : Hid (Gm.Byt (bZ n L Z)) := bZ_byt n L Z
  have KY : Hid (n = L 0 → Gm.rk (bZ n L Z) n n = n → ivOk n L Z = true ∧ ivR n L Z = n) := fun e1 e2 => ⟨ivOk_yes ⟨ok, e1, e2⟩, ivR_yes ⟨ok, e1, e2⟩⟩
  have KN : Hid (¬ (n = L 0 ∧ Gm.rk (bZ n L Z) n n = n) → ivOk n L Z = false ∧ ivR n L Z = 0) := fun hno => ⟨ivOk_no (fun hh => hno hh.2), ivR_no (fun hh => hno hh.2)⟩
  generalize ivOk n L Z = okf at KY KN
  generalize ivR n L Z = R at KY KN
  generalize bZ n L Z = P at KBY KY KN KV
  have KH : Hid (MatAt w (some ⟨b1, off1, none⟩) n L Z) := h
  obtain ⟨l, hl⟩ : ∃ l, L 0 = l := ⟨_, rfl⟩
  rw [hl] at KV KL hl1 hl2 KY KN hc1
  clear h hL ok hl
  by_cases hnl : n = l
  case neg =>
    obtain ⟨rfl, rfl⟩ := KN.out (fun hh => hnl hh.1)
    have hne : ((n : Int) != (l : Int)) = true := by simp; omega
    go_enter Tryz.func191, Tryz.ntmps191
    go_wp2_with fail
    refine Calls.mono KO.out ?_
    rintro e w1 ⟨rfl, hb1⟩
    have hc2 := (hb1.cell (p := ⟨b1, off1, none⟩) hlt1).trans hc1
    go_wp2
    go_ret2
    exact ⟨_, rfl, resLit0 _ _ hb1.size _ _, below2 hb1 ((Below.refl _ _).alloc (Nat.le_refl _) _)⟩
  subst hnl
  have hne : ((n : Int) != (n : Int)) = false := by simp
  go_enter Tryz.func191, Tryz.ntmps191
  go_wp2_with fail
  refine Calls.mono KO.out ?_
  rintro e w1 ⟨rfl, hb1⟩
  have hc2 := (hb1.cell (p := ⟨b1, off1, none⟩) hlt1).trans hc1
  have hs1 := hb1.size
  have KH1 : Hid (MatAt w1 (some ⟨b1, off1, none⟩) n L Z) := KH.out.below hb1
  clear KH KO hc1
  have KU0 : Hid _ := sUnit0_any n w1 (by omega)
  go_wp2_with fail
  refine Calls.mono KU0.out ?_
  rintro e w2 ⟨U, capU, AU, CU, rfl, hMU, hb2⟩
  have hs2 := hb2.size
  have KU : Hid (MatI w2 w1.heap.size w2.heap.size (some ⟨U, 0, none⟩) n capU AU (fun _ => n) CU (fun i j => ((Gm.dl i j : Nat) : Int))) := hMU
  have KH2 : Hid (MatAt w2 (some ⟨b1, off1, none⟩) n L Z) := KH1.out.below hb2
  have hUl := hMU.olt
  clear hMU KU0 KH1 hc2
  have H0 : Hid (MatI (w2.alloc (.cells #[] 43)) w2.heap.size (w2.alloc (.cells #[] 43)).heap.size (some ⟨w2.heap.size, 0, none⟩) 0 0 (fun _ => none) (fun _ => n + n) (fun _ => 0) (fun i j => ((Gm.aug P n i j : Nat) : Int))) := litM w2 _ _ _ _
  have KB0 : Hid (Below w2.heap.size w2 (w2.alloc (.cells #[] 43))) := (Below.refl _ _).alloc (Nat.le_refl _) _
  go_wp2
  go_loopw [6, 7] (fun v i wr => ∃ k G cap A C, k ≤ n ∧ i = .int .i64 ((k : Nat) : Int) ∧ v = .slice (some ⟨G, 0, none⟩) k cap ∧ MatI wr w2.heap.size wr.heap.size (some ⟨G, 0, none⟩) k cap A (fun _ => n + n) C (fun i j => ((Gm.aug P n i j : Nat) : Int)) ∧ Below w2.heap.size w2 wr) (fun _ i _ => n - (intOf i).toNat)
  case atStart => exact ⟨0, _, _, _, _, Nat.zero_le _, rfl, rfl, H0.out, KB0.out⟩
  case round =>
    obtain ⟨k, G, cap, A, C, hk, rfl, rfl, hM, hbel⟩ := hrel
    clear H0 KB0
    by_cases hlt : k < n
    · have hki : (k : Int) < (n : Int) := by omega
      have hsz := hbel.size
      obtain ⟨b3, off3, ai, ci, eb, hc, hr⟩ := KH2.out.below hbel k hlt
      cases eb
      rw [KL.out k hlt] at hc hr
      obtain ⟨b4, off4, rfl, hcell⟩ := hr.some (by omega)
      have hMU := KU.out.below hbel
      have hcu := hMU.hdr hlt
      obtain ⟨gu, hgu⟩ : ∃ gu, AU k = some ⟨gu, 0, none⟩ := by
        rcases own_shape (hMU.row k hlt) with ⟨_, h0, _⟩ | ⟨g, _, e, _⟩
        · omega
        · exact ⟨g, e⟩
      rw [hgu] at hcu
      have hun : ∀ j, j < n → wr.cell? ⟨gu, 0 + j, none⟩ = some (.int .i64 ((Gm.dl k j : Nat) : Int)) := fun j hj => by rw [Nat.zero_add]; exact hMU.elt hlt hgu hj
      have hnews1 := news_eI (f := P k) (fun j hj => by rw [hcell j hj, zI_getD _ _ _ hj, KV.out k j hlt hj])
      have hnews2 := news_eI (f := Gm.dl k) hun
      have hlU := block_lt_of_cell hcu
      have hlM := block_lt_of_cell hc
      have hba : Below wr.heap.size wr (wr.drew.alloc (.cells #[] 3)) := ((Below.refl _ _).drew).alloc (Nat.le_refl _) _
      have KN1 : Hid _ := news_below hnews1 hba
      have KN2 : Hid _ := hnews2
      have KR : Hid (OwnR (wr.drew.alloc (.cells #[] 3)) wr.heap.size wr.heap.size 0 0 (P k)) := lit0 wr.drew (P k)
      have KM : Hid (MatI wr w2.heap.size wr.heap.size (some ⟨G, 0, none⟩) k cap A (fun _ => n + n) C (fun i j => ((Gm.aug P n i j : Nat) : Int))) := hM
      have KBe : Hid (Below w2.heap.size w2 wr) := hbel
      have hlen1 : ((eI (P k) n).map (Value.int .i64)).length = n * 1 := by simp [eI_len]
      have hlen2 : ((eI (Gm.dl k) n).map (Value.int .i64)).length = n * 1 := by simp [eI_len]
      have hGl := hM.olt.1
      have KONE1 : Hid _ := one_eI (P k) n
      have KONE2 : Hid _ := one_eI (Gm.dl k) n
      obtain ⟨ck, hck⟩ : ∃ ck, CU k = ck := ⟨_, rfl⟩
      rw [hck] at hcu
      obtain ⟨x1, hx1⟩ : ∃ x1, (eI (P k) n).map (Value.int .i64) = x1 := ⟨_, rfl⟩
      obtain ⟨x2, hx2⟩ : ∃ x2, (eI (Gm.dl k) n).map (Value.int .i64) = x2 := ⟨_, rfl⟩
      have KX : Hid (x1 ++ x2 = (eI (Gm.aug P n k) (n + n)).map (Value.int .i64)) := by
        show _ = _
        rw [← hx1, ← hx2, eI_congr (f := P k) (g := Gm.aug P n k) (fun j hj => by unfold Gm.aug; rw [if_pos hj])]
        exact eI_app (fun j hj => by unfold Gm.aug; rw [if_neg (by omega), show n + j - n = j by omega])
      rw [hx1] at KN1 hlen1 KONE1
      rw [hx2] at KN2 hlen2 KONE2
      clear hr hcell hnews1 hnews2 hM hbel hMU hun hck hx1 hx2 hgu
      go_wp2_with fail
      go_region_held3 (fun w' => w'.cell? ⟨b1, off1 + k, none⟩ = some (.slice (some ⟨b4, off4, none⟩) n ci) ∧ w'.cell? ⟨U, k, none⟩ = some (.slice (some ⟨gu, 0, none⟩) n ck)) (go_keep) ((first | (guard_hyp KR; refine step_append_lies _ (by rfl) _ _ _ (by rfl) wr.heap.size 3 i0 _ 1 8 Tryz.underlying43 hi hz0 hz1 hz2 rfl (by omega) (.slice (some ⟨wr.heap.size, 0, none⟩) 0 0) 0 _ (by rfl) KR.out ⟨b4, off4, none⟩ n ci x1 (by rfl) hlen1 KN1.out KONE1.out (by omega) (by unfold maxLen; omega) (by omega) (by simp) (wr.heap.size + 1) (by simp) ?_; intro g5 cap5 w5 hown5 hgrow5 hat5 hltg5; have hg5 : (wr.drew.alloc (.cells #[] 3)).grownBy w5 (some wr.heap.size) := hgrow5; have hc5 := hg5.cell ((hba.cell (p := ⟨b1, off1 + k, none⟩) hlM).trans hc) (by simp; omega); have hu5 := hg5.cell ((hba.cell (p := ⟨U, k, none⟩) hlU).trans hcu) (by simp; omega); have KO5 : Hid (w5.ownsRow wr.heap.size 3 1 (.slice (some ⟨g5, 0, none⟩) (0 + n) cap5) (0 + n) x1) := hown5; have KN5 : Hid (∀ j u, x2[j]? = some u → w5.cell? ((⟨gu, 0, none⟩ : Addr).add j) = some u) := (fun j u hu => (by have h1 := KN2.out j u hu; have hlt' := block_lt_of_cell h1; exact hg5.cell (((hba.cell hlt').trans h1)) (by simp at hlt' ⊢; omega))); have hs5 : wr.heap.size + 1 ≤ w5.heap.size := (by have := hg5.size; simpa using this); have hg5l := (KO5.out.lt g5 rfl); clear KR hown5 hgrow5 hat5 hltg5) | (guard_hyp KO5; refine step_append_lies _ (by rfl) _ _ _ (by rfl) wr.heap.size 3 i0 _ 1 8 Tryz.underlying43 hi hz0 hz1 hz2 rfl (by omega) (.slice (some ⟨g5, 0, none⟩) (0 + n) cap5) (0 + n) _ (by rfl) KO5.out ⟨gu, 0, none⟩ n ck x2 (by rfl) hlen2 KN5.out KONE2.out (by omega) (by unfold maxLen; omega) (by omega) (by omega) w5.heap.size (by rfl) ?_; intro g6 cap6 w6 hown6 hgrow6 hat6 hltg6; have hg6 : w5.grownBy w6 (some g5) := hgrow6; have hc6 := hg6.cell hc5 (by simp; omega); have hu6 := hg6.cell hu5 (by simp; omega); have KO6 : Hid (OwnR w6 wr.heap.size g6 (n + n) cap6 (Gm.aug P n k)) := (by have hh := hown6; rw [KX.out, Nat.zero_add] at hh; exact hh); have hM6 : MatI w6 w2.heap.size wr.heap.size (some ⟨G, 0, none⟩) k cap A (fun _ => n + n) C (fun i j => ((Gm.aug P n i j : Nat) : Int)) := ((KM.out.below hba).keptE hg5 (Nat.le_refl _)).keptE hg6 hg5l.1; have hs6 : wr.heap.size ≤ w6.heap.size := (by have := hg6.size; omega); clear KO5 hown6 hgrow6 hat6 hltg6 KM) | (guard_hyp hM6; refine step_append_lies _ (by rfl) _ _ _ (by rfl) w2.heap.size 43 i1 _ 1 24 Tryz.underlying107 hj hy0 hy1 hy2 rfl (by omega) (.slice (some ⟨G, 0, none⟩) k cap) k _ (by rfl) (World.ownsRow.alloc hM6.out _) ⟨w6.heap.size, 0, none⟩ 1 1 [.slice (some ⟨g6, 0, none⟩) (n + n) cap6] (by rfl) (by rfl) (World.news_of_block (cs := #[.slice (some ⟨g6, 0, none⟩) (n + n) cap6]) (t := 43) (fr := (0, 0)) (heap_alloc_new w6 _)) (by simp [Value.oneCell']) (by omega) (by unfold maxLen; omega) (by omega) (by simp; omega) (w6.heap.size + 1) (by simp) ?_; intro g7 cap7 w7 hown7 hgrow7 hat7 hltg7; have hg7 : (w6.alloc (.cells #[.slice (some ⟨g6, 0, none⟩) (n + n) cap6] 43)).grownBy w7 (some G) := hgrow7; have hb7 : Below w6.heap.size w6 (w6.alloc (.cells #[.slice (some ⟨g6, 0, none⟩) (n + n) cap6] 43)) := (Below.refl _ _).alloc (Nat.le_refl _) _; have hc7 := hg7.cell ((hb7.cell (p := ⟨b1, off1 + k, none⟩) (block_lt_of_cell hc6)).trans hc6) (by simp; omega); have hu7 := hg7.cell ((hb7.cell (p := ⟨U, k, none⟩) (block_lt_of_cell hu6)).trans hu6) (by simp; omega); clear hgrow7)))
      all_goals
        have hbw6 : Below w2.heap.size w2 w6 := ((below2 KBe.out hba).grown hg5 (by simp; omega) (fun j hj => by cases hj; exact hsz)).grown hg6 (by omega) (fun j hj => by cases hj; omega)
        obtain ⟨A', C', hP⟩ := MatI.pushed _ hM6 hsz KO6.out hg7 hown7
        have HP : Hid (MatI w7 w2.heap.size w7.heap.size (some ⟨g7, 0, none⟩) (k + 1) cap7 A' (fun _ => n + n) C' (fun i j => ((Gm.aug P n i j : Nat) : Int))) := hP
        have hb' : Below w2.heap.size w2 w7 := (hbw6.alloc (by omega) _).grown hg7 (by simp; omega) (fun j hj => by cases hj; exact hGl)
        clear hown7 hg7 hat7 hltg7 hM6 hP hc7 hu7 hc6 hu6 hg6 hg5 hb7 hbw6 hba
        go_wp2
        go_roundw
        case rel => exact ⟨k + 1, g7, cap7, A', C', by omega, by go_num, rfl, HP.out, hb'⟩
        case measure => simp [intOf] <;> omega
    · obtain rfl : k = n := by omega
      have hki : ¬ (k : Int) < (k : Int) := by omega
      obtain ⟨g1, hMg⟩ := MatI.g hM (by omega)
      have hszb := hbel.size
      have KRD : Hid _ := sReduce_any w2.heap.size wr.heap.size G k cap (k + k) k g1 C (Gm.aug P k) wr hMg (Gm.aug_byt KBY.out k) (by omega) (by omega) (by omega)
      rw [Gm.rk_aug] at KRD
      have hrl := Gm.rk_r KBY.out k k
      have KIV : Hid (∀ i j, Gm.iv P k i j = (Gm.rd (Gm.aug P k) k k).1 i (k + j)) := fun _ _ => rfl
      clear hM hMg KU KH2
      generalize Gm.rk P k k = R0 at KRD hrl KY KN
      generalize (Gm.rd (Gm.aug P k) k k).1 = FF at KRD KIV
      by_cases hR : R0 = k
      case neg =>
        have hR0 : (R0 : Int) < (k : Int) := by omega
        obtain ⟨rfl, rfl⟩ := KN.out (fun hh => hR hh.2)
        go_wp2_with fail
        refine Calls.mono KRD.out ?_
        rintro e w3 ⟨rfl, _, hb3⟩
        have hs3 := hb3.size
        go_wp2
        go_ret2
        exact ⟨_, rfl, resLit0 _ _ (by omega) _ _, below2 (below2 (below2 hb1 hb2) (hbel.trans hb3)) ((Below.refl _ _).alloc (Nat.le_refl _) _)⟩
      have hR0 : ¬ (R0 : Int) < (k : Int) := by omega
      obtain ⟨rfl, ho2⟩ := KY.out (by trivial) hR
      have ho3 := ho2.symm
      clear ho2
      subst ho3
      go_wp2_with fail
      refine Calls.mono KRD.out ?_
      rintro e w3 ⟨rfl, ⟨g3, C3, hM3⟩, hb3⟩
      have hs3 := hb3.size
      have KB3 : Hid (Below w.heap.size w w3) := below2 (below2 hb1 hb2) (hbel.trans hb3)
      have KM3 : Hid (MatG w3 w2.heap.size w3.heap.size G k cap g3 C3 (k + k) FF) := hM3.tight
      have hGl := hM3.olt
      clear hM3 KRD hbel hb3 hb1 hb2
      have H0 : Hid (MatI (w3.alloc (.cells #[] 43)) w3.heap.size (w3.alloc (.cells #[] 43)).heap.size (some ⟨w3.heap.size, 0, none⟩) 0 0 (fun _ => none) (fun _ => k) (fun _ => 0) (fun i j => ((Gm.iv P k i j : Nat) : Int))) := litM w3 _ _ _ _
      have KB0 : Hid (Below w3.heap.size w3 (w3.alloc (.cells #[] 43))) := (Below.refl _ _).alloc (Nat.le_refl _) _
      go_wp2
      go_loopw [8, 9] (fun v i wr => ∃ q G cap A C, q ≤ k ∧ i = .int .i64 ((q : Nat) : Int) ∧ v = .slice (some ⟨G, 0, none⟩) q cap ∧ MatI wr w3.heap.size wr.heap.size (some ⟨G, 0, none⟩) q cap A (fun _ => k) C (fun i j => ((Gm.iv P k i j : Nat) : Int)) ∧ Below w3.heap.size w3 wr) (fun _ i _ => k - (intOf i).toNat)
      case atStart => exact ⟨0, _, _, _, _, Nat.zero_le _, rfl, rfl, H0.out, KB0.out⟩
      case round =>
        obtain ⟨q, G8, cap8, A8, C8, hq, rfl, rfl, hM8, hbel⟩ := hrel
        clear H0 KB0
        by_cases hlt : q < k
        · have hki : (q : Int) < (k : Int) := by omega
          have hsz := hbel.size
          have hMr := KM3.out.below hbel
          have hc := hMr.hdr hlt
          have hnews := news_eI (w := wr) (b := g3 q) (off := k) (f := Gm.iv P k q) (n := k) (fun j hj => by rw [hMr.elt hlt rfl (by omega), KIV.out])
          have hcap : k + k ≤ C3 q := by
            rcases own_shape (hMr.row q hlt) with ⟨h', _⟩ | ⟨g, _, e, _, _, hcc⟩
            · cases h'
            · exact hcc
          have hba : Below wr.heap.size wr (wr.alloc (.cells #[] 3)) := (Below.refl _ _).alloc (Nat.le_refl _) _
          have hc2 := (hba.cell (p := ⟨G, q, none⟩) (block_lt_of_cell hc)).trans hc
          have KW : Hid _ := news_below hnews hba
          have KM : Hid (MatI wr w3.heap.size wr.heap.size (some ⟨G8, 0, none⟩) q cap8 A8 (fun _ => k) C8 (fun i j => ((Gm.iv P k i j : Nat) : Int))) := hM8
          have KR : Hid (OwnR (wr.alloc (.cells #[] 3)) wr.heap.size wr.heap.size 0 0 (Gm.iv P k q)) := lit0 wr (Gm.iv P k q)
          have KBe : Hid (Below w3.heap.size w3 wr) := hbel
          have hlen2 : ((eI (Gm.iv P k q) k).map (Value.int .i64)).length = k * 1 := by simp [eI_len]
          have hGl8 := hM8.olt.1
          have KONE : Hid _ := one_eI (Gm.iv P k q) k
          obtain ⟨news, hnw⟩ : ∃ news, (eI (Gm.iv P k q) k).map (Value.int .i64) = news := ⟨_, rfl⟩
          have KNW : Hid ((eI (Gm.iv P k q) k).map (Value.int .i64) = news) := hnw
          rw [hnw] at KW hlen2 KONE
          obtain ⟨gq, hgq⟩ : ∃ gq, g3 q = gq := ⟨_, rfl⟩
          obtain ⟨cq, hcq⟩ : ∃ cq, C3 q = cq := ⟨_, rfl⟩
          rw [hgq] at hc2 KW
          rw [hcq] at hc2 hcap
          clear hnews hM8 hba hnw hbel hMr hc hgq hcq
          go_wp2_with (first | (guard_hyp KR; at_builtin; refine wpList_append_lies _ (by rfl) _ _ 43 (by rfl) wr.heap.size 3 i0 (.int .i64 0) 1 8 Tryz.underlying43 hi hz0 hz1 hz2 rfl (by decide) (.slice (some ⟨wr.heap.size, 0, none⟩) 0 0) 0 _ (by rfl) KR.out ⟨gq, k, none⟩ k (cq - k) news (by first | rfl | (simp [Act.eval, Act.put]; omega)) hlen2 KW.out KONE.out (by omega) (by unfold maxLen; omega) (by omega) (by simp) (wr.heap.size + 1) (by simp) ?_; intro g5 cap5 w5 hown5 hgrow5 hat5 hltg5; have KO2 : Hid (OwnR w5 wr.heap.size g5 k cap5 (Gm.iv P k q)) := (by rw [Nat.zero_add] at hown5; rw [← KNW.out] at hown5; exact hown5); have hM2 : MatI w5 w3.heap.size wr.heap.size (some ⟨G8, 0, none⟩) q cap8 A8 (fun _ => k) C8 (fun i j => ((Gm.iv P k i j : Nat) : Int)) := MatI.rowed _ KM.out (Nat.le_refl _) hgrow5; have KB2 : Hid (Below w3.heap.size w3 w5) := (KBe.out.alloc hsz _).grown (show World.grownBy _ w5 (some wr.heap.size) from hgrow5) (by simp; omega) (fun j hj => by cases hj; exact hsz); have hsz2 : wr.heap.size ≤ w5.heap.size := (by have := hgrow5.size; simp at this; omega); clear KR KW hown5 hgrow5 hat5 hltg5 KM KBe) | (guard_hyp hM2; at_builtin; refine wpList_append_lies _ (by rfl) _ _ 107 (by rfl) w3.heap.size 43 i1 (.slice none 0 0) 1 24 Tryz.underlying107 hj hy0 hy1 hy2 rfl (by decide) (.slice (some ⟨G8, 0, none⟩) q cap8) q _ (by rfl) (World.ownsRow.alloc hM2.out _) ⟨w5.heap.size, 0, none⟩ 1 1 [.slice (some ⟨g5, 0, none⟩) k cap5] (by rfl) (by rfl) (World.news_of_block (cs := #[.slice (some ⟨g5, 0, none⟩) k cap5]) (t := 43) (fr := (0, 0)) (heap_alloc_new w5 _)) (by simp [Value.oneCell']) (by omega) (by unfold maxLen; omega) (by omega) (by simp; omega) (w5.heap.size + 1) (by simp) ?_; intro g6 cap6 w6 hown6 hgrow6 hat6 hltg6))
          obtain ⟨A', C', hP⟩ := MatI.pushed _ hM2 hsz KO2.out hgrow6 hown6
          have HP : Hid (MatI w6 w3.heap.size w6.heap.size (some ⟨g6, 0, none⟩) (q + 1) cap6 A' (fun _ => k) C' (fun i j => ((Gm.iv P k i j : Nat) : Int))) := hP
          have hb' : Below w3.heap.size w3 w6 := (KB2.out.alloc (Nat.le_trans hsz hsz2) _).grown (show World.grownBy _ w6 (some G8) from hgrow6) (by simp; omega) (fun j hj => by cases hj; exact hGl8)
          clear hown6 hgrow6 hat6 hltg6 hM2 hP
          go_roundw
          case rel => exact ⟨q + 1, g6, cap6, A', C', by omega, by go_num, rfl, HP.out, hb'⟩
          case measure => simp [intOf] <;> omega
        · obtain rfl : q = k := by omega
          have KM : Hid _ := hM8
          clear hM8
          go_wp2
          go_ret2
          exact ⟨_, rfl, ResM.mk KM.out KB3.out.size, below2 KB3.out hbel⟩
end Go.Proofs.YthnjhjgffkilcaaGreatDoor
/- For every input: any k rows of a spread have an inverse and full rank, and the program's answers are the model's. No condition. -/
namespace Go.Proofs.YthnjhjgffkilcaaGreatDoor
set_option maxRecDepth 2000
open Go.ChangeShapes Go.WideShapes Go.ChangeAt Go.RowKit

/-- The rows of a spread at places that differ. -/
theorem spread_pick {n k : Nat} {zs : List Int} (h : Diff n zs) (hl : zs.length = k) (hk : 1 ≤ k) (hkn : k ≤ n) (hn : n ≤ 16) :
    pkOk n (fun _ => k) (fun i j => ((Gm.sprd k i j : Nat) : Int)) zs = true ∧ pkR n (fun _ => k) (fun i j => ((Gm.sprd k i j : Nat) : Int)) zs = k ∧
    InvOk k (fun _ => k) (fun i j => ((pkF (bZ n (fun _ => k) (fun i j => ((Gm.sprd k i j : Nat) : Int))) zs i j : Nat) : Int)) ∧
    (∀ i j, i < k → j < k → bZ k (fun _ => k) (fun i j => ((pkF (bZ n (fun _ => k) (fun i j => ((Gm.sprd k i j : Nat) : Int))) zs i j : Nat) : Int)) i j = Gm.sprd k ((zs.getD i 0).toNat) j) := by
  have ok1 : OkM n (fun _ => k) (fun i j => ((Gm.sprd k i j : Nat) : Int)) := okM_of (by omega) hn hk (by omega) (Gm.sprd_byt k)
  have pl : Places n zs := ⟨by omega, by omega, fun i hi => h.at hi⟩
  have h1 := pkOk_yes (zs := zs) ⟨ok1, pl⟩
  have hFb : Gm.Byt (pkF (bZ n (fun _ => k) (fun i j => ((Gm.sprd k i j : Nat) : Int))) zs) := fun i j => bZ_byt _ _ _ _ _
  have ok2 : OkM k (fun _ => k) (fun i j => ((pkF (bZ n (fun _ => k) (fun i j => ((Gm.sprd k i j : Nat) : Int))) zs i j : Nat) : Int)) := okM_of hk (by omega) hk (by omega) hFb
  have hb : ∀ i j, i < k → j < k → bZ k (fun _ => k) (fun i j => ((pkF (bZ n (fun _ => k) (fun i j => ((Gm.sprd k i j : Nat) : Int))) zs i j : Nat) : Int)) i j = Gm.sprd k ((zs.getD i 0).toNat) j := fun i j hi hj => by
    rw [bZ_at hi hj (hFb i j)]
    unfold pkF
    have := h.at (i := i) (by omega)
    exact bZ_at (by omega) hj (Gm.sprd_byt k _ _)
  refine ⟨h1, by unfold pkR; rw [if_pos h1]; exact hl, ⟨ok2, rfl, ?_⟩, hb⟩
  rw [rk_congr (bZ_byt _ _ _) (fun i j => Gm.sprd_byt k _ _) hb]
  exact pick_rk h hl (by omega) hkn
end Go.Proofs.YthnjhjgffkilcaaGreatDoor
/- Whether bodies are even, as the program asks it; whether places and bodies are k of n, as the model asks it. Conditions: at most 2^20 bodies and places. -/
namespace Go.Proofs.YthnjhjgffkilcaaGreatDoor
set_option maxRecDepth 2000
open Go.ChangeShapes Go.WideShapes Go.ChangeAt Go.RowKit

/-- So many bodies, all of one length that is not 0. -/
def Evn (nb : Nat) (S : Nat → ByteArray) (k : Int) : Prop := (nb : Int) = k ∧ ∀ i, i < nb → (S i).size ≠ 0 ∧ (S i).size = (S 0).size
noncomputable def evn (nb : Nat) (S : Nat → ByteArray) (k : Int) : Bool := @decide (Evn nb S k) (Classical.propDecidable _)
theorem evn_yes {nb : Nat} {S : Nat → ByteArray} {k : Int} (h : Evn nb S k) : evn nb S k = true := by unfold evn; exact @decide_eq_true _ (Classical.propDecidable _) h
theorem evn_no {nb : Nat} {S : Nat → ByteArray} {k : Int} (h : ¬ Evn nb S k) : evn nb S k = false := by unfold evn; exact @decide_eq_false _ (Classical.propDecidable _) h
/-- Places and bodies are k of n. -/
def Rgt (k n : Int) (zs : List Int) (nb : Nat) (S : Nat → ByteArray) : Prop :=
  sprOk k n = true ∧ (zs.length : Int) = k ∧ (nb : Int) = k ∧ (S 0).size ≠ 0 ∧ ∀ i, i < nb → (0 ≤ zs.getD i 0 ∧ zs.getD i 0 < n) ∧ (S i).size = (S 0).size ∧ ∀ j, j < i → zs.getD j 0 ≠ zs.getD i 0
noncomputable def rgt (k n : Int) (zs : List Int) (nb : Nat) (S : Nat → ByteArray) : Bool := @decide (Rgt k n zs nb S) (Classical.propDecidable _)
theorem rgt_yes {k n : Int} {zs : List Int} {nb : Nat} {S : Nat → ByteArray} (h : Rgt k n zs nb S) : rgt k n zs nb S = true := by unfold rgt; exact @decide_eq_true _ (Classical.propDecidable _) h
theorem rgt_no {k n : Int} {zs : List Int} {nb : Nat} {S : Nat → ByteArray} (h : ¬ Rgt k n zs nb S) : rgt k n zs nb S = false := by unfold rgt; exact @decide_eq_false _ (Classical.propDecidable _) h

set_option maxHeartbeats 1000000 in
theorem areEven_any (a : Option Addr) (nb c : Nat) (S : Nat → ByteArray) (k : Int) (w : World) (h : TxtAt w a nb S) (hn : nb ≤ 1048576) :
    Calls Tryz.prog 92 #[.slice a nb c, .int .i64 k] w fun e w' => e = .returned (.bool (evn nb S k)) ∧ w' = w := by
  by_cases hk : (nb : Int) = k
  case neg =>
    have HE : Hid (evn nb S k = false) := evn_no (fun h => hk h.1)
    have hk' : ((nb : Int) != k) = true := by simpa using hk
    clear hk h
    go_enter Tryz.func92, Tryz.ntmps92
    go_wp2
    go_ret
    exact ⟨ret_bool HE.out.symm, rfl⟩
  have hk' : ((nb : Int) != k) = false := by simpa using hk
  have KH : Hid (TxtAt w a nb S) := h
  have KK : Hid ((nb : Int) = k) := hk
  clear h hk
  go_enter Tryz.func92, Tryz.ntmps92
  go_wp2
  go_loop [13] (fun i => ∃ q : Nat, q ≤ nb ∧ i = .int .i64 (q : Int) ∧ Hid (∀ i, i < q → (S i).size ≠ 0 ∧ (S i).size = (S 0).size)) (fun i => nb - (intOf i).toNat)
  case atStart => exact ⟨0, Nat.zero_le _, rfl, fun i hi => absurd hi (by omega)⟩
  case round =>
    obtain ⟨q, hq, rfl, HG⟩ := hrel
    clear hk'
    by_cases hlt : q < nb
    · have hqi : (q : Int) < (nb : Int) := by omega
      have hn0 : (0 : Int) < (nb : Int) := by omega
      obtain ⟨b, off, rfl, hcs⟩ := KH.out.some (by omega)
      have hc := hcs q hlt
      have hc0 := hcs 0 (by omega)
      rw [Nat.add_zero] at hc0
      obtain ⟨s, hs⟩ : ∃ s, S q = s := ⟨_, rfl⟩
      obtain ⟨s0, hs0⟩ : ∃ s, S 0 = s := ⟨_, rfl⟩
      rw [hs] at hc
      rw [hs0] at hc0
      have KS : Hid (S q = s) := hs
      have KS0 : Hid (S 0 = s0) := hs0
      clear hs hs0 hcs
      by_cases h1 : s.size = 0
      · have h1' : ((s.size : Int) == 0) = true := by simp [h1]
        have HE : Hid (evn nb S k = false) := evn_no (fun h => by have := (h.2 q hlt).1; rw [KS.out] at this; omega)
        clear HG h1
        go_wp2
        go_ret
        exact ⟨ret_bool HE.out.symm, rfl⟩
      · have h1' : ((s.size : Int) == 0) = false := by rw [beq_eq_false_iff_ne]; omega
        by_cases h2 : s.size = s0.size
        · have h2' : ((s.size : Int) != (s0.size : Int)) = false := by simp [h2]
          have HG2 : Hid (∀ i, i < q + 1 → (S i).size ≠ 0 ∧ (S i).size = (S 0).size) := fun i hi => by
            by_cases e : i = q
            · subst e
              rw [KS.out, KS0.out]
              exact ⟨h1, h2⟩
            · exact HG.out i (by omega)
          clear HG h1 h2
          go_wp2
          go_round
          case rel => exact ⟨q + 1, by omega, by go_num, HG2.out⟩
          case measure => simp [intOf] <;> omega
        · have h2' : ((s.size : Int) != (s0.size : Int)) = true := by simp; omega
          have HE : Hid (evn nb S k = false) := evn_no (fun h => by have := (h.2 q hlt).2; rw [KS.out, KS0.out] at this; omega)
          clear HG h1 h2
          go_wp2
          go_ret
          exact ⟨ret_bool HE.out.symm, rfl⟩
    · obtain rfl : q = nb := by omega
      have HE : Hid (evn q S k = true) := evn_yes ⟨KK.out, HG.out⟩
      clear HG KH
      go_wp2
      go_ret
      exact ⟨ret_bool HE.out.symm, rfl⟩

set_option maxRecDepth 100000 in
set_option maxHeartbeats 4000000 in
theorem sRight_any (k n : Int) (pa : Option Addr) (np pc : Nat) (zs : List Int) (a : Option Addr) (nb c : Nat) (S : Nat → ByteArray) (w : World) (hz : IntsAt w pa np zs) (h : TxtAt w a nb S) :
    Calls Tryz.prog 138 #[.int .i64 k, .int .i64 n, .slice pa np pc, .slice a nb c] w fun e w' => e = .returned (.bool (rgt k n zs nb S)) ∧ Below w.heap.size w w' := by
  have hlen := hz.1
  have KLE : Hid (zs.length = np) := hlen
  have hS4 := fun w => s4Ok_any k n w
  by_cases hok : sprOk k n = true
  case neg =>
    have HE : Hid (rgt k n zs nb S = false) := rgt_no (fun h => hok h.1)
    have hok' : sprOk k n = false := by simpa using hok
    rw [hok'] at hS4
    clear hok hok' h hz hlen
    go_enter Tryz.func138, Tryz.ntmps138
    go_wp2_with (go_at_call 76; refine (hS4 _).mono ?_; rintro e w' ⟨rfl, hw⟩; obtain rfl := hw.symm)
    go_ret
    exact ⟨ret_bool HE.out.symm, Below.refl _ _⟩
  obtain ⟨q1, q2, q3⟩ := sprOk_parts hok
  have KOK : Hid (sprOk k n = true) := hok
  rw [hok] at hS4
  clear hok
  obtain ⟨K, rfl⟩ := Int.eq_ofNat_of_zero_le (show 0 ≤ k by omega)
  obtain ⟨M, rfl⟩ := Int.eq_ofNat_of_zero_le (show 0 ≤ n by omega)
  by_cases e1 : np = K
  case neg =>
    have HE : Hid (rgt (K : Int) (M : Int) zs nb S = false) := rgt_no (fun h => by have := h.2.1; omega)
    have e1' : ((np : Int) != (K : Int)) = true := by simp; omega
    clear h hz hlen e1
    go_enter Tryz.func138, Tryz.ntmps138
    go_wp2_with (go_at_call 76; refine (hS4 _).mono ?_; rintro e w' ⟨rfl, hw⟩; obtain rfl := hw.symm)
    go_ret
    exact ⟨ret_bool HE.out.symm, Below.refl _ _⟩
  have e1' : ((np : Int) != (K : Int)) = false := by simp; omega
  by_cases e2 : nb = K
  case neg =>
    have HE : Hid (rgt (K : Int) (M : Int) zs nb S = false) := rgt_no (fun h => by have := h.2.2.1; omega)
    have e2' : ((nb : Int) != (K : Int)) = true := by simp; omega
    clear h hz hlen e1 e2
    go_enter Tryz.func138, Tryz.ntmps138
    go_wp2_with (go_at_call 76; refine (hS4 _).mono ?_; rintro e w' ⟨rfl, hw⟩; obtain rfl := hw.symm)
    go_ret
    exact ⟨ret_bool HE.out.symm, Below.refl _ _⟩
  have e2' : ((nb : Int) != (K : Int)) = false := by simp; omega
  subst e1
  subst e2
  obtain ⟨b, off, rfl, hcs⟩ := h.some (by omega)
  obtain ⟨pb, poff, rfl, _⟩ := hz.2 0 (by omega)
  have hzs : ∀ i, i < nb → w.cell? ⟨pb, poff + i, none⟩ = some (.int .i64 (zs.getD i 0)) := fun i hi => by
    obtain ⟨b', off', e, hc⟩ := hz.2 i hi
    cases e
    exact hc
  have hc0 := hcs 0 (by omega)
  rw [Nat.add_zero] at hc0
  have hn0 : (0 : Int) < (nb : Int) := by omega
  have KC : Hid (∀ i, i < nb → w.cell? ⟨b, off + i, none⟩ = some (.string (S i))) := hcs
  have KZ : Hid (∀ i, i < nb → w.cell? ⟨pb, poff + i, none⟩ = some (.int .i64 (zs.getD i 0))) := hzs
  obtain ⟨s0, hs0⟩ : ∃ s, S 0 = s := ⟨_, rfl⟩
  rw [hs0] at hc0
  have KS0 : Hid (S 0 = s0) := hs0
  clear hs0 hcs hzs h hz hlen
  by_cases h1 : s0.size = 0
  case pos =>
    have h1' : ((s0.size : Int) == 0) = true := by simp [h1]
    have HE : Hid (rgt (nb : Int) (M : Int) zs nb S = false) := rgt_no (fun h => by have := h.2.2.2.1; rw [KS0.out] at this; omega)
    clear h1
    go_enter Tryz.func138, Tryz.ntmps138
    go_wp2_with (go_at_call 76; refine (hS4 _).mono ?_; rintro e w' ⟨rfl, hw⟩; obtain rfl := hw.symm)
    go_ret
    exact ⟨ret_bool HE.out.symm, Below.refl _ _⟩
  have h1' : ((s0.size : Int) == 0) = false := by rw [beq_eq_false_iff_ne]; omega
  have KH1 : Hid (s0.size ≠ 0) := h1
  obtain ⟨m1, hm1⟩ : ∃ m1, M - 1 = m1 := ⟨_, rfl⟩
  have hwm : IntKind.i64.wrap ((M : Int) - 1) = (m1 : Int) := by rw [IntKind.wrap_i64]; omega
  have KM1 : Hid ((M : Int) = (m1 : Int) + 1) := by show _ = _; omega
  clear h1 hm1
  go_enter Tryz.func138, Tryz.ntmps138
  go_wp2_with (go_at_call 76; refine (hS4 _).mono ?_; rintro e w' ⟨rfl, hw⟩; obtain rfl := hw.symm)
  clear h1' e1' e2' hS4
  go_loopw [9] (fun i wr => ∃ q : Nat, q ≤ nb ∧ i = .int .i64 (q : Int) ∧ Hid (∀ i, i < q → (0 ≤ zs.getD i 0 ∧ zs.getD i 0 < (M : Int)) ∧ (S i).size = (S 0).size ∧ ∀ j, j < i → zs.getD j 0 ≠ zs.getD i 0) ∧ Below w.heap.size w wr) (fun i _ => nb - (intOf i).toNat)
  case atStart => exact ⟨0, Nat.zero_le _, rfl, fun i hi => absurd hi (by omega), Below.refl _ _⟩
  case round =>
    obtain ⟨q, hq, rfl, HG, hbel⟩ := hrel
    by_cases hlt : q < nb
    · have hqi : (q : Int) < (nb : Int) := by omega
      have hcq := (hbel.cell (p := ⟨b, off + q, none⟩) (block_lt_of_cell (KC.out q hlt))).trans (KC.out q hlt)
      have hcz := (hbel.cell (p := ⟨pb, poff + q, none⟩) (block_lt_of_cell (KZ.out q hlt))).trans (KZ.out q hlt)
      have hc0r := (hbel.cell (p := ⟨b, off, none⟩) (block_lt_of_cell hc0)).trans hc0
      obtain ⟨s, hs⟩ : ∃ s, S q = s := ⟨_, rfl⟩
      obtain ⟨z, hz⟩ : ∃ z, zs.getD q 0 = z := ⟨_, rfl⟩
      rw [hs] at hcq
      rw [hz] at hcz
      have KS : Hid (S q = s) := hs
      have KZQ : Hid (zs.getD q 0 = z) := hz
      clear hs hz
      by_cases hin : 0 ≤ z ∧ z < (M : Int)
      case neg =>
        have hin' : inB z 0 (m1 : Int) = false := by have := KM1.out; unfold inB; simp; omega
        have HE : Hid (rgt (nb : Int) (M : Int) zs nb S = false) := rgt_no (fun h => by have := (h.2.2.2.2 q hlt).1; rw [KZQ.out] at this; exact hin this)
        clear hin HG
        go_wp2_with fail
        go_quiet ((go_at_call 77; exact Calls.quiet_of_same (sIn_any _ _ _ _)))
        go_wp2
        go_ret
        exact ⟨ret_bool HE.out.symm, below_drewN hbel _⟩
      have hin' : inB z 0 (m1 : Int) = true := by have := KM1.out; unfold inB; simp; omega
      have KIN : Hid (0 ≤ z ∧ z < (M : Int)) := hin
      clear hin
      by_cases h2 : s.size = s0.size
      case neg =>
        have h2' : ((s.size : Int) != (s0.size : Int)) = true := by simp; omega
        have HE : Hid (rgt (nb : Int) (M : Int) zs nb S = false) := rgt_no (fun h => by have := (h.2.2.2.2 q hlt).2.1; rw [KS.out, KS0.out] at this; omega)
        clear h2 HG
        go_wp2_with fail
        go_quiet ((go_at_call 77; exact Calls.quiet_of_same (sIn_any _ _ _ _)))
        go_wp2
        go_ret
        exact ⟨ret_bool HE.out.symm, below_drewN hbel _⟩
      have h2' : ((s.size : Int) != (s0.size : Int)) = false := by simp; omega
      have KH2 : Hid (s.size = s0.size) := h2
      clear h2
      go_wp2_with fail
      go_quiet ((go_at_call 77; exact Calls.quiet_of_same (sIn_any _ _ _ _)))
      go_wp2
      clear hcq hcz hc0r hin' h2'
      go_loopw [10] (fun i wr => ∃ p : Nat, p ≤ q ∧ i = .int .i64 (p : Int) ∧ Hid (∀ j, j < p → zs.getD j 0 ≠ zs.getD q 0) ∧ Below w.heap.size w wr) (fun i _ => q - (intOf i).toNat)
      case atStart => exact ⟨0, Nat.zero_le _, rfl, fun i hi => absurd hi (by omega), below_drewN hbel _⟩
      case round =>
        obtain ⟨p, hp, rfl, HP, hbel2⟩ := hrel
        by_cases hpq : p < q
        · have hpi : (p : Int) < (q : Int) := by omega
          have hpn : (p : Int) < (nb : Int) := by omega
          have hcz := (hbel2.cell (p := ⟨pb, poff + q, none⟩) (block_lt_of_cell (KZ.out q hlt))).trans (KZ.out q hlt)
          have hcp := (hbel2.cell (p := ⟨pb, poff + p, none⟩) (block_lt_of_cell (KZ.out p (by omega)))).trans (KZ.out p (by omega))
          obtain ⟨y, hy⟩ : ∃ y, zs.getD p 0 = y := ⟨_, rfl⟩
          rw [KZQ.out] at hcz
          rw [hy] at hcp
          have KY : Hid (zs.getD p 0 = y) := hy
          clear hy
          by_cases he : y = z
          · have he' : (y == z) = true := by simp [he]
            have HE : Hid (rgt (nb : Int) (M : Int) zs nb S = false) := rgt_no (fun h => by have := (h.2.2.2.2 q hlt).2.2 p hpq; rw [KZQ.out, KY.out] at this; exact this he)
            clear he HG HP
            go_wp2_with fail
            go_quiet (fail)
            go_wp2
            go_ret
            exact ⟨ret_bool HE.out.symm, below_drewN hbel2 _⟩
          · have he' : (y == z) = false := by simp [he]
            have HP2 : Hid (∀ j, j < p + 1 → zs.getD j 0 ≠ zs.getD q 0) := fun j hj => by
              by_cases e : j = p
              · subst e
                rw [KZQ.out, KY.out]
                exact he
              · exact HP.out j (by omega)
            clear he HP
            go_wp2_with fail
            go_quiet (fail)
            go_wp2
            go_roundw
            case rel => exact ⟨p + 1, by omega, by go_num, HP2.out, below_drewN hbel2 _⟩
            case measure => simp [intOf] <;> omega
        · obtain rfl : p = q := by omega
          have HG2 : Hid (∀ i, i < p + 1 → (0 ≤ zs.getD i 0 ∧ zs.getD i 0 < (M : Int)) ∧ (S i).size = (S 0).size ∧ ∀ j, j < i → zs.getD j 0 ≠ zs.getD i 0) := fun i hi => by
            by_cases e : i = p
            · subst e
              refine ⟨?_, ?_, HP.out⟩
              · rw [KZQ.out]; exact KIN.out
              · rw [KS.out, KS0.out]; exact KH2.out
            · exact HG.out i (by omega)
          clear HG HP
          go_wp2
          go_roundw
          case rel => exact ⟨p + 1, by omega, by go_num, HG2.out, hbel2⟩
          case measure => simp [intOf] <;> omega
    · obtain rfl : q = nb := by omega
      have HE : Hid (rgt (q : Int) (M : Int) zs q S = true) := rgt_yes ⟨KOK.out, by rw [KLE.out], rfl, by rw [KS0.out]; exact KH1.out, HG.out⟩
      clear HG
      go_wp2
      go_ret
      exact ⟨ret_bool HE.out.symm, hbel⟩
end Go.Proofs.YthnjhjgffkilcaaGreatDoor
