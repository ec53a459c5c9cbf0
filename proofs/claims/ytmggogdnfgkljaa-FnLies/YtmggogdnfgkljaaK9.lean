/- Whether bodies agree: the program and the model. Conditions: at most 2^20 bodies, each of at most 2^20 bytes. -/
import Derived.Test.YtmggogdnfgkljaaK8
namespace Go.Proofs.Ytmggogdnfgkljaa
open Go.ChangeShapes Go.WideShapes Go.ChangeAt Go.RowKit

/-- All bodies are those that go with the first k. -/
def Agr (k n : Int) (nb : Nat) (S : Nat → ByteArray) : Prop := sprOk k n = true ∧ Evn nb S n ∧ ∀ i, i < nb → bod k.toNat (Gm.sprd k.toNat) (fun i p => tat (S i) p) (S 0).size i = S i
noncomputable def agr (k n : Int) (nb : Nat) (S : Nat → ByteArray) : Bool := @decide (Agr k n nb S) (Classical.propDecidable _)
theorem agr_yes {k n : Int} {nb : Nat} {S : Nat → ByteArray} (h : Agr k n nb S) : agr k n nb S = true := by unfold agr; exact @decide_eq_true _ (Classical.propDecidable _) h
theorem agr_no {k n : Int} {nb : Nat} {S : Nat → ByteArray} (h : ¬ Agr k n nb S) : agr k n nb S = false := by unfold agr; exact @decide_eq_false _ (Classical.propDecidable _) h
theorem ba_eq {s u : ByteArray} (h : s = u) : (s.toList == u.toList) = true := by rw [h]; simp

set_option maxRecDepth 100000 in
set_option maxHeartbeats 4000000 in
theorem agree_any (k n : Int) (a : Option Addr) (nb c : Nat) (S : Nat → ByteArray) (w : World) (h : TxtAt w a nb S) (hc : nb ≤ c) (hcm : c ≤ maxLen) (hnb : nb ≤ 1048576) (hl : 0 < nb → (S 0).size ≤ 1048576) :
    Calls Try.prog 41 #[.int .i64 k, .int .i64 n, .slice a nb c] w fun e w' => e = .returned (.bool (agr k n nb S)) ∧ Below w.heap.size w w' := by
  unfold maxLen at hcm
  have KSP : Hid _ := spread_any k n w
  by_cases hok : sprOk k n = true
  case neg =>
    have HE : Hid (agr k n nb S = false) := agr_no (fun h => hok h.1)
    have hok' : sprOk k n = false := by simpa using hok
    rw [hok'] at KSP
    clear hok hok' h
    go_enter Try.func41, Try.ntmps41
    go_wp2_with fail
    refine Calls.mono KSP.out ?_
    rintro e w1 ⟨v, rfl, _, hb1⟩
    go_wp2
    go_ret
    exact ⟨ret_bool HE.out.symm, hb1⟩
  obtain ⟨q1, q2, q3⟩ := sprOk_parts hok
  obtain ⟨K, rfl⟩ := Int.eq_ofNat_of_zero_le (show 0 ≤ k by omega)
  obtain ⟨M, rfl⟩ := Int.eq_ofNat_of_zero_le (show 0 ≤ n by omega)
  have KOK : Hid (sprOk (K : Int) (M : Int) = true) := hok
  have hR : sprR (K : Int) (M : Int) = M := by unfold sprR; rw [if_pos hok]; simp
  rw [hok, hR, Int.toNat_natCast] at KSP
  have KH : Hid (TxtAt w a nb S) := h
  have hEv := fun w (h : TxtAt w a nb S) => areEven_any a nb c S (M : Int) w h hnb
  clear hR hok h
  by_cases hev : Evn nb S (M : Int)
  case neg =>
    have HE : Hid (agr (K : Int) (M : Int) nb S = false) := agr_no (fun h => hev h.2.1)
    rw [evn_no hev] at hEv
    clear hev
    go_enter Try.func41, Try.ntmps41
    go_wp2_with fail
    refine Calls.mono KSP.out ?_
    rintro e w1 ⟨v, rfl, _, hb1⟩
    have KH1 : Hid (TxtAt w1 a nb S) := KH.out.below hb1
    go_wp2_with (go_at_call 101; refine (hEv _ KH1.out).mono ?_; rintro e w' ⟨rfl, hw⟩; obtain rfl := hw.symm)
    go_ret
    exact ⟨ret_bool HE.out.symm, hb1⟩
  rw [evn_yes hev] at hEv
  have KEV : Hid (Evn nb S (M : Int)) := hev
  obtain rfl : nb = M := by have := hev.1; omega
  obtain ⟨b, off, rfl, hcs⟩ := KH.out.some (by omega)
  have KCS : Hid (∀ i, i < nb → w.cell? ⟨b, off + i, none⟩ = some (.string (S i))) := hcs
  obtain ⟨l, hll⟩ : ∃ l, (S 0).size = l := ⟨_, rfl⟩
  have hl1 : 1 ≤ l ∧ l ≤ 1048576 := by have := (hev.2 0 (by omega)).1; have := hl (by omega); omega
  have KSZ : Hid (∀ i, i < nb → (S i).size = l) := fun i hi => by rw [(hev.2 i hi).2, hll]
  have KLL : Hid ((S 0).size = l) := hll
  have hKc : (K : Int) ≤ (c : Int) := by omega
  have hc0 : (0 : Int) < (c : Int) := by omega
  have hK1 : 1 ≤ K := by omega
  have hKb : K ≤ nb := by omega
  clear hev hcs hll hl
  go_enter Try.func41, Try.ntmps41
  go_wp2_with fail
  refine Calls.mono KSP.out ?_
  rintro e w1 ⟨v, rfl, RM, hb1⟩
  obtain ⟨am, cm, rfl, MM⟩ := RM.at
  have KMM : Hid (MatAt w1 am nb (fun _ => K) (fun i j => ((Gm.sprd K i j : Nat) : Int))) := MM
  have KH1 : Hid (TxtAt w1 (some ⟨b, off, none⟩) nb S) := KH.out.below hb1
  clear MM RM KSP
  go_wp2_with (go_at_call 101; refine (hEv _ KH1.out).mono ?_; rintro e w' ⟨rfl, hw⟩; obtain rfl := hw.symm)
  clear hEv
  go_loopw [27] (fun i wr => ∃ q : Nat, q ≤ nb ∧ i = .int .i64 (q : Int) ∧ Hid (∀ i, i < q → bod K (Gm.sprd K) (fun i p => tat (S i) p) l i = S i) ∧ Below w1.heap.size w1 wr) (fun i _ => nb - (intOf i).toNat)
  case atStart => exact ⟨0, Nat.zero_le _, rfl, fun i hi => absurd hi (by omega), Below.refl _ _⟩
  case round =>
    obtain ⟨q, hq, rfl, HG, hbel⟩ := hrel
    by_cases hlt : q < nb
    · have hqi : (q : Int) < (nb : Int) := by omega
      obtain ⟨b1, off1, ai, ci, rfl, hc1, hr1⟩ := (KMM.out.below hbel).rowE hlt
      have hTT := KH1.out.below hbel
      obtain ⟨b', off', eb, hcq⟩ := hTT q hlt
      cases eb
      have KRS : Hid (∀ W, Below wr.heap.size wr W → Calls Try.prog 98 #[.slice ai K ci, .slice (some ⟨b, off, none⟩) K c] W fun e w' => ∃ G, e = .returned (.slice (some ⟨G, 0, none⟩) l l) ∧ (∀ p, p < l → w'.cell? ⟨G, p, none⟩ = some (.int .u8 ((rs (Gm.sprd K q) (fun i p => tat (S i) p) K p : Nat) : Int))) ∧ Below W.heap.size W w') := fun W hW => by
        have := rowSumS_any ai ci (Gm.sprd K q) (some ⟨b, off, none⟩) c K l S W (hr1.below hW) ((hTT.below hW).less hKb) (fun i hi => KSZ.out i (by omega)) ⟨hK1, by omega⟩ hl1 (fun i => Gm.sprd_byt K q i)
        refine Calls.mono this ?_
        rintro e w' ⟨he, hO, hb⟩
        exact ⟨_, he, fun p hp => hO.cell hp, hb⟩
      obtain ⟨s, hs⟩ : ∃ s, S q = s := ⟨_, rfl⟩
      rw [hs] at hcq
      have KS : Hid (S q = s) := hs
      have hl1c := block_lt_of_cell hc1
      have KBD : Hid (strOfNums (eI (rs (Gm.sprd K q) (fun i p => tat (S i) p) K) l) = bod K (Gm.sprd K) (fun i p => tat (S i) p) l q) := rfl
      have KB : Hid (Below w1.heap.size w1 wr) := hbel
      clear hr1 hTT hs hbel
      by_cases hE : bod K (Gm.sprd K) (fun i p => tat (S i) p) l q = s
      · have hbq : ((bod K (Gm.sprd K) (fun i p => tat (S i) p) l q).toList == s.toList) = true := ba_eq hE
        have HG2 : Hid (∀ i, i < q + 1 → bod K (Gm.sprd K) (fun i p => tat (S i) p) l i = S i) := fun i hi => by
          by_cases e : i = q
          · subst e
            rw [KS.out]
            exact hE
          · exact HG.out i (by omega)
        clear HG hE
        generalize bod K (Gm.sprd K) (fun i p => tat (S i) p) l q = sv at hbq KBD
        go_wp2_with fail
        go_region_with ((go_at_call 98; refine Calls.mono (KRS.out _ ⟨rfl, rfl, rfl, Nat.le_refl _, fun _ _ => rfl⟩) ?_; rintro e w5 ⟨G, rfl, hO5, hb5'⟩; have hb5 := below_of_drew hb5'; clear hb5'; have h51 := (hb5.cell (p := ⟨b1, off1 + q, none⟩) hl1c).trans hc1; have hcv := run_convert_bytes_arg (P := Try.prog) w5 22 5 Try.underlying22 Try.underlying5 G 0 l l (eI (rs (Gm.sprd K q) (fun i p => tat (S i) p) K) l) (eI_len _ _) (fun i hi => by rw [Nat.zero_add, hO5 i hi, eI_getD _ _ _ hi]) 9 Try.underlying9; rw [KBD.out] at hcv; clear hO5))
        all_goals
          have HB : Hid (Below w1.heap.size w1 w5) := below2 KB.out hb5
          clear hb5 h51 hcv KB KRS
          go_wp2
          go_roundw
          case rel => exact ⟨q + 1, by omega, by go_num, HG2.out, HB.out⟩
          case measure => simp [intOf] <;> omega
      · have hbq : ((bod K (Gm.sprd K) (fun i p => tat (S i) p) l q).toList == s.toList) = false := ba_ne hE
        have HE : Hid (agr (K : Int) (nb : Int) nb S = false) := agr_no (fun h => hE (by
          have := h.2.2 q hlt
          rw [KLL.out, KS.out, Int.toNat_natCast] at this
          exact this))
        clear HG hE
        generalize bod K (Gm.sprd K) (fun i p => tat (S i) p) l q = sv at hbq KBD
        go_wp2_with fail
        go_region_with ((go_at_call 98; refine Calls.mono (KRS.out _ ⟨rfl, rfl, rfl, Nat.le_refl _, fun _ _ => rfl⟩) ?_; rintro e w5 ⟨G, rfl, hO5, hb5'⟩; have hb5 := below_of_drew hb5'; clear hb5'; have h51 := (hb5.cell (p := ⟨b1, off1 + q, none⟩) hl1c).trans hc1; have hcv := run_convert_bytes_arg (P := Try.prog) w5 22 5 Try.underlying22 Try.underlying5 G 0 l l (eI (rs (Gm.sprd K q) (fun i p => tat (S i) p) K) l) (eI_len _ _) (fun i hi => by rw [Nat.zero_add, hO5 i hi, eI_getD _ _ _ hi]) 9 Try.underlying9; rw [KBD.out] at hcv; clear hO5))
        all_goals
          have HB : Hid (Below w.heap.size w w5) := below2 (below2 hb1 KB.out) hb5
          clear hb5 h51 hcv KB KRS
          go_wp2
          go_ret
          exact ⟨ret_bool HE.out.symm, HB.out⟩
    · obtain rfl : q = nb := by omega
      have HE : Hid (agr (K : Int) (q : Int) q S = true) := agr_yes ⟨KOK.out, KEV.out, by rw [KLL.out, Int.toNat_natCast]; exact HG.out⟩
      clear HG
      go_wp2
      go_ret
      exact ⟨ret_bool HE.out.symm, below2 hb1 hbel⟩
end Go.Proofs.Ytmggogdnfgkljaa

/- Whether bodies agree, as the model asks it. Conditions: at most 2^20 bodies, each of at most 2^20 bytes. -/
namespace Go.Proofs.Ytmggogdnfgkljaa
open Go.ChangeShapes Go.WideShapes Go.ChangeAt Go.RowKit

theorem eI_snocI (f : Nat → Nat) (k : Nat) : (eI f (k + 1)).map (Value.int .i64) = (eI f k).map (Value.int .i64) ++ [.int .i64 ((f k : Nat) : Int)] := by
  unfold eI
  rw [List.range_succ, List.map_append, List.map_append]
  rfl
/-- The first k places lead back by the unit. -/
theorem first_bd {K M : Nat} {S : Nat → ByteArray} (h : Rgt (K : Int) (M : Int) (eI (fun i => i) K) K S) (i : Nat) : bdS (K : Int) (M : Int) (eI (fun i => i) K) S i = bod K (Gm.sprd K) (fun i p => tat (S i) p) (S 0).size i := by
  obtain ⟨q1, q2, q3⟩ := sprOk_parts h.1
  obtain ⟨_, _, io, hbz⟩ := spread_pick h.diff (eI_len _ _) (show 1 ≤ K by omega) (show K ≤ M by omega) (by omega)
  have hbk : ∀ t j, t < K → j < K → bkM M K (eI (fun i => i) K) t j = Gm.dl t j := fun t j ht hj =>
    iv_dl (bZ_byt _ _ _) (fun a b ha hb => by
      have := hbz a b ha hb
      rw [eI_getD _ _ _ ha, Int.toNat_natCast] at this
      refine Eq.trans this ?_
      unfold Gm.sprd
      rw [if_pos ha]) io.2.2 ht hj
  unfold bdS bdM
  rw [Int.toNat_natCast, Int.toNat_natCast]
  refine txt_congr (fun p _ => ?_)
  rw [Gm.mp_assoc]
  refine Gm.mp_congr (fun _ _ => rfl) (fun t ht => ?_)
  rw [Gm.mp_congr (A' := Gm.dl) (B' := fun i p => tat (S i) p) (fun u hu => hbk t u ht hu) (fun _ _ => rfl)]
  exact Gm.mp_dl ht (tat_lt _ _)
theorem agr_rgt {K M : Nat} {S : Nat → ByteArray} (h : Agr (K : Int) (M : Int) M S) : Rgt (K : Int) (M : Int) (eI (fun i => i) K) K S := by
  obtain ⟨h1, h2, _⟩ := h
  obtain ⟨q1, q2, q3⟩ := sprOk_parts h1
  refine ⟨h1, by rw [eI_len], rfl, (h2.2 0 (by omega)).1, fun i hi => ⟨?_, (h2.2 i (by omega)).2, fun j hj => ?_⟩⟩
  · rw [eI_getD _ _ _ hi]; omega
  · rw [eI_getD _ _ _ hi, eI_getD _ _ _ (by omega)]; omega
theorem rgt_agr {K M : Nat} {S : Nat → ByteArray} (h : Rgt (K : Int) (M : Int) (eI (fun i => i) K) K S) (hD : ∀ i, i < M → bdS (K : Int) (M : Int) (eI (fun i => i) K) S i = S i) : Agr (K : Int) (M : Int) M S := by
  have hsz : ∀ i, i < M → (S i).size = (S 0).size := fun i hi => by
    have e := congrArg ByteArray.size (hD i hi)
    rw [first_bd h, bod_size] at e
    exact e.symm
  refine ⟨h.1, ⟨rfl, fun i hi => ⟨by rw [hsz i hi]; exact h.2.2.2.1, hsz i hi⟩⟩, fun i hi => ?_⟩
  rw [Int.toNat_natCast, ← first_bd h]
  exact hD i hi
theorem agr_all {K M : Nat} {S : Nat → ByteArray} (h : Agr (K : Int) (M : Int) M S) {i : Nat} (hi : i < M) : bdS (K : Int) (M : Int) (eI (fun i => i) K) S i = S i := by
  have := h.2.2 i hi
  rw [Int.toNat_natCast] at this
  rw [first_bd (agr_rgt h)]
  exact this

set_option maxRecDepth 100000 in
set_option maxHeartbeats 4000000 in
theorem sAgree_any (k n : Int) (a : Option Addr) (nb c : Nat) (S : Nat → ByteArray) (w : World) (h : TxtAt w a nb S) (hc : nb ≤ c) (hcm : c ≤ maxLen) (hl : 0 < nb → (S 0).size ≤ 1048576) :
    Calls Try.prog 46 #[.int .i64 k, .int .i64 n, .slice a nb c] w fun e w' => e = .returned (.bool (agr k n nb S)) ∧ Below w.heap.size w w' := by
  unfold maxLen at hcm
  obtain ⟨i0, hi, hz0, hz1, hz2⟩ := info_parts Try.infoInt
  have hS4 := fun w => s4Ok_any k n w
  by_cases hok : sprOk k n = true
  case neg =>
    have HE : Hid (agr k n nb S = false) := agr_no (fun h => hok h.1)
    have hok' : sprOk k n = false := by simpa using hok
    rw [hok'] at hS4
    clear hok hok' h hi hz0 hz1 hz2
    go_enter Try.func46, Try.ntmps46
    go_wp2_with (go_at_call 95; refine (hS4 _).mono ?_; rintro e w' ⟨rfl, hw⟩; obtain rfl := hw.symm)
    go_ret
    exact ⟨ret_bool HE.out.symm, Below.refl _ _⟩
  obtain ⟨q1, q2, q3⟩ := sprOk_parts hok
  rw [hok] at hS4
  obtain ⟨K, rfl⟩ := Int.eq_ofNat_of_zero_le (show 0 ≤ k by omega)
  obtain ⟨M, rfl⟩ := Int.eq_ofNat_of_zero_le (show 0 ≤ n by omega)
  clear hok
  by_cases e2 : nb = M
  case neg =>
    have HE : Hid (agr (K : Int) (M : Int) nb S = false) := agr_no (fun h => by have := h.2.1.1; omega)
    have e2' : ((nb : Int) != (M : Int)) = true := by simp; omega
    clear h e2 hi hz0 hz1 hz2
    go_enter Try.func46, Try.ntmps46
    go_wp2_with (go_at_call 95; refine (hS4 _).mono ?_; rintro e w' ⟨rfl, hw⟩; obtain rfl := hw.symm)
    go_ret
    exact ⟨ret_bool HE.out.symm, Below.refl _ _⟩
  subst e2
  have e2' : ((nb : Int) != (nb : Int)) = false := by simp
  obtain ⟨b, off, rfl, _⟩ := h.some (by omega)
  have KH : Hid (TxtAt w (some ⟨b, off, none⟩) nb S) := h
  have hKc : (K : Int) ≤ (c : Int) := by omega
  have hc0 : (0 : Int) < (c : Int) := by omega
  have hK1 : 1 ≤ K := by omega
  have hKb : K ≤ nb := by omega
  have hK16 : K ≤ 16 := by omega
  have K0 : Hid ((w.alloc (.cells #[] 3)).ownsRow w.heap.size 3 1 (.slice (some ⟨w.heap.size, 0, none⟩) 0 0) 0 ((eI (fun i => i) 0).map (Value.int .i64))) := World.ownsRow_lit w #[] 0 (Nat.le_refl _) (by unfold maxLen; omega) rfl
  have KBO : Hid (∀ W G cc, IntsAt W (some ⟨G, 0, none⟩) K (eI (fun i => i) K) → TxtAt W (some ⟨b, off, none⟩) nb S → Calls Try.prog 44 #[.int .i64 (K : Int), .int .i64 (nb : Int), .slice (some ⟨G, 0, none⟩) K cc, .slice (some ⟨b, off, none⟩) K c] W fun e w' => ∃ v t, e = .returned (.tuple #[v, .bool t]) ∧ (if t = true then Rgt (K : Int) (nb : Int) (eI (fun i => i) K) K S ∧ ∃ x y, v = .slice x nb y ∧ TxtAt w' x nb (bdS (K : Int) (nb : Int) (eI (fun i => i) K) S) else ¬ Agr (K : Int) (nb : Int) nb S) ∧ Below W.heap.size W w') := fun W G cc hz ht => by
    have := sBodies_any (K : Int) (nb : Int) (some ⟨G, 0, none⟩) K cc (eI (fun i => i) K) (some ⟨b, off, none⟩) K c S W hz (ht.less hKb) (fun _ => hl (by omega))
    refine Calls.mono this ?_
    rintro e w' ⟨v, he, hR, hb⟩
    refine ⟨v, _, he, ?_, hb⟩
    by_cases hr : Rgt (K : Int) (nb : Int) (eI (fun i => i) K) K S
    · rw [rgt_yes hr, if_pos rfl]
      rw [show bdR (K : Int) (nb : Int) (eI (fun i => i) K) K S = nb from by unfold bdR; rw [rgt_yes hr]; rfl] at hR
      obtain ⟨x, y, rfl, hO⟩ := hR
      exact ⟨hr, x, y, rfl, hO.at⟩
    · rw [rgt_no hr, if_neg (by simp)]
      exact fun h => hr (agr_rgt h)
  clear h hl
  go_enter Try.func46, Try.ntmps46
  go_wp2_with (go_at_call 95; refine (hS4 _).mono ?_; rintro e w' ⟨rfl, hw⟩; obtain rfl := hw.symm)
  clear hS4 e2'
  go_loopw [7, 8] (fun v i wr => ∃ q G cc : Nat, q ≤ K ∧ i = .int .i64 (q : Int) ∧ v = .slice (some ⟨G, 0, none⟩) q cc ∧ wr.ownsRow w.heap.size 3 1 (.slice (some ⟨G, 0, none⟩) q cc) q ((eI (fun i => i) q).map (Value.int .i64)) ∧ Below w.heap.size w wr) (fun _ i _ => K - (intOf i).toNat)
  case atStart => exact ⟨0, _, _, Nat.zero_le _, rfl, rfl, K0.out, (Below.refl _ _).alloc (Nat.le_refl _) _⟩
  case round =>
    obtain ⟨q, G, cc, hq, rfl, rfl, hown, hbel⟩ := hrel
    clear K0
    by_cases hlt : q < K
    · have hqi : (q : Int) < (K : Int) := by omega
      have hsz := hbel.size
      have hGl := (World.ownsRow.lt hown _ rfl).1
      go_wp2_with (at_builtin; refine wpList_append_lies _ (by rfl) _ _ 31 (by rfl) w.heap.size 3 i0 (.int .i64 0) 1 8 Try.underlying31 hi hz0 hz1 hz2 rfl (by decide) (.slice (some ⟨G, 0, none⟩) q cc) q _ (by rfl) (World.ownsRow.alloc hown _) ⟨wr.heap.size, 0, none⟩ 1 1 [.int .i64 (q : Int)] (by rfl) (by rfl) (World.news_of_block (cs := #[.int .i64 (q : Int)]) (t := 3) (fr := (0, 0)) (heap_alloc_new wr _)) (by simp [Value.oneCell']) (by omega) (by unfold maxLen; omega) (by omega) (by simp; omega) (wr.heap.size + 1) (by simp) ?_; intro g2 cap3 w2 hown2 hgrow hat hltg)
      have HO : Hid (w2.ownsRow w.heap.size 3 1 (.slice (some ⟨g2, 0, none⟩) (q + 1) cap3) (q + 1) ((eI (fun i => i) (q + 1)).map (Value.int .i64))) := by
        show World.ownsRow _ _ _ _ _ _ _
        rw [eI_snocI]
        exact hown2
      have hb' : Below w.heap.size w w2 := (hbel.alloc hsz _).grown (show World.grownBy _ w2 (some G) from hgrow) (by simp; omega) (fun j hj => by cases hj; exact hGl)
      clear hown2 hgrow hat hltg hown
      go_roundw
      case rel => exact ⟨q + 1, g2, cap3, by omega, by go_num, rfl, HO.out, hb'⟩
      case measure => simp [intOf] <;> omega
    · obtain rfl : q = K := by omega
      have KZ : Hid (IntsAt wr (some ⟨G, 0, none⟩) q (eI (fun i => i) q)) := ⟨eI_len _ _, fun i hi => ⟨G, 0, rfl, by rw [Nat.zero_add, World.ownsRow.cellAt hown i (by omega)]; simp [List.getD, eI, hi]⟩⟩
      have KHr : Hid (TxtAt wr (some ⟨b, off, none⟩) nb S) := KH.out.below hbel
      clear hown hi hz0 hz1 hz2
      go_wp2_with fail
      refine Calls.mono (KBO.out _ _ _ KZ.out KHr.out) ?_
      rintro e w3 ⟨v3, t3, rfl, hT, hb3⟩
      have KT : Hid (if t3 = true then Rgt (q : Int) (nb : Int) (eI (fun i => i) q) q S ∧ ∃ x y, v3 = .slice x nb y ∧ TxtAt w3 x nb (bdS (q : Int) (nb : Int) (eI (fun i => i) q) S) else ¬ Agr (q : Int) (nb : Int) nb S) := hT
      have KHs : Hid (TxtAt w3 (some ⟨b, off, none⟩) nb S) := KHr.out.below hb3
      have hb13 := below2 hbel hb3
      clear hT KBO KZ KHr KH
      go_wp2
      go_loopw [10, 11] (fun v i wr => ∃ (p : Nat) (t : Bool), p ≤ nb ∧ v = .bool t ∧ i = .int .i64 (p : Int) ∧ Hid (if t = true then t3 = true ∧ ∀ i, i < p → bdS (q : Int) (nb : Int) (eI (fun i => i) q) S i = S i else ¬ Agr (q : Int) (nb : Int) nb S) ∧ Below w3.heap.size w3 wr) (fun _ i _ => nb - (intOf i).toNat)
      case atStart =>
        refine ⟨0, t3, Nat.zero_le _, rfl, rfl, ?_, Below.refl _ _⟩
        show ite _ _ _
        cases t3 with
        | true => exact ⟨rfl, fun i hi => absurd hi (by omega)⟩
        | false => exact KT.out
      case round =>
        obtain ⟨p, t, hp, rfl, rfl, HG, hbel2⟩ := hrel
        by_cases hpn : p < nb
        · have hpi : (p : Int) < (nb : Int) := by omega
          cases t with
          | false =>
            have HE : Hid (agr (q : Int) (nb : Int) nb S = false) := agr_no (by have := HG.out; simpa using this)
            clear HG
            go_wp2
            go_ret
            exact ⟨ret_bool HE.out.symm, below2 hb13 hbel2⟩
          | true =>
            obtain ⟨h3, hG⟩ : t3 = true ∧ ∀ i, i < p → bdS (q : Int) (nb : Int) (eI (fun i => i) q) S i = S i := by have := HG.out; simpa using this
            subst h3
            obtain ⟨hr, x, y, rfl, hX⟩ : Rgt (q : Int) (nb : Int) (eI (fun i => i) q) q S ∧ ∃ x y, v3 = .slice x nb y ∧ TxtAt w3 x nb (bdS (q : Int) (nb : Int) (eI (fun i => i) q) S) := by have := KT.out; simpa using this
            obtain ⟨bx, ox, rfl, hcx⟩ := hX.below hbel2 p hpn
            obtain ⟨b', off', eb, hcq⟩ := KHs.out.below hbel2 p hpn
            cases eb
            have KHG : Hid (∀ i, i < p → bdS (q : Int) (nb : Int) (eI (fun i => i) q) S i = S i) := hG
            obtain ⟨s, hs⟩ : ∃ s, S p = s := ⟨_, rfl⟩
            obtain ⟨u, hu⟩ : ∃ u, bdS (q : Int) (nb : Int) (eI (fun i => i) q) S p = u := ⟨_, rfl⟩
            rw [hs] at hcq
            rw [hu] at hcx
            have KS : Hid (S p = s) := hs
            have KU : Hid (bdS (q : Int) (nb : Int) (eI (fun i => i) q) S p = u) := hu
            clear hX HG hG hs hu hr KT
            by_cases hE : u = s
            · have hbq : (u.toList == s.toList) = true := ba_eq hE
              have HG2 : Hid (∀ i, i < p + 1 → bdS (q : Int) (nb : Int) (eI (fun i => i) q) S i = S i) := fun i hi => by
                by_cases e : i = p
                · subst e
                  rw [KS.out, KU.out]
                  exact hE
                · exact KHG.out i (by omega)
              clear hE KHG
              go_wp2_with fail
              go_quiet (fail)
              go_wp2
              go_roundw
              case rel => exact ⟨p + 1, true, by omega, rfl, by go_num, ⟨trivial, HG2.out⟩, below_drewN hbel2 _⟩
              case measure => simp [intOf] <;> omega
            · have hbq : (u.toList == s.toList) = false := ba_ne hE
              have HN : Hid (¬ Agr (q : Int) (nb : Int) nb S) := fun h => hE (by
                have := agr_all h hpn
                rw [KS.out, KU.out] at this
                exact this)
              clear hE KHG
              go_wp2_with fail
              go_quiet (fail)
              go_wp2
              go_roundw
              case rel => exact ⟨p + 1, false, by omega, rfl, by go_num, HN.out, below_drewN hbel2 _⟩
              case measure => simp [intOf] <;> omega
        · obtain rfl : p = nb := by omega
          have HE : Hid (agr (q : Int) (p : Int) p S = t) := by
            have hG := HG.out
            show _ = _
            cases t with
            | false => exact agr_no (by simpa using hG)
            | true =>
              obtain ⟨h3, hG2⟩ : t3 = true ∧ ∀ i, i < p → bdS (q : Int) (p : Int) (eI (fun i => i) q) S i = S i := by simpa using hG
              subst h3
              have hr : Rgt (q : Int) (p : Int) (eI (fun i => i) q) q S := by have := KT.out; simp at this; exact this.1
              exact agr_yes (rgt_agr hr hG2)
          clear HG KT
          go_wp2
          go_ret
          exact ⟨ret_bool HE.out.symm, below2 hb13 hbel2⟩
end Go.Proofs.Ytmggogdnfgkljaa
