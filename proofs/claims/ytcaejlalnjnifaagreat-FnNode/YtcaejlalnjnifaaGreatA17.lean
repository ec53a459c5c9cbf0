import Derived.Test.YtcaejlalnjnifaaGreatA13
import Derived.Lib.BufferWrite
import Derived.Laws.CopyOwn
import Derived.Test.YtcaejlalnjnifaaGreatA9
set_option maxHeartbeats 8000000
set_option maxRecDepth 2000
open Go.ChangeShapes Go.WideShapes Go.ChangeAt Go.RowKit
namespace Go.Proofs.YtcaejlalnjnifaaGreat
theorem OwnB.heap {w : World} {B g n : Nat} {f : Nat → Nat} (h : OwnB w B g n n f) : w.heap[g]? = some (.cells ((eI f n).map (Value.int .u8)).toArray 5 (0, 0)) ∧ B ≤ g ∧ n ≤ maxLen := by
 rcases h.2 with ⟨e, _⟩ | ⟨g', cap, cur, e, hB, hg, hn, hm, hs, ht⟩
 ·cases e
 ·cases e
  have e2 : cur.toList.take (n * 1) = cur.toList := List.take_of_length_le (by rw [Array.length_toList, hs]; exact Nat.le_refl _)
  rw [e2] at ht
  refine ⟨?_, hB, hm⟩
  rw [hg, ← ht]
theorem OwnB.of {w : World} {B g n : Nat} {f : Nat → Nat} (h : w.heap[g]? = some (.cells ((eI f n).map (Value.int .u8)).toArray 5 (0, 0))) (hB : B ≤ g) (hm : n ≤ maxLen) : OwnB w B g n n f :=
 ⟨by simp [eI_len], .inr ⟨g, n, _, rfl, hB, h, Nat.le_refl _, hm, by simp [eI_len], by rw [List.take_of_length_le (by simp [eI_len])]⟩⟩
theorem MatAt.rowE {w : World} {a : Option Addr} {r n : Nat} {F : Nat → Nat → Nat} (h : MatAt w a r (fun _ => n) (fun i j => ((F i j : Nat) : Int))) {i : Nat} (hi : i < r) : ∃ b off ai ci, a = some ⟨b, off, none⟩ ∧ w.cell? ⟨b, off + i, none⟩ = some (.slice ai n ci) ∧ IntsAt w ai n (eI (F i) n) := h i hi
def encOk (s : ByteArray) (k n : Int) : Bool := decide (s.size ≤ 2000) && sprOk k n
def encR (s : ByteArray) (k n : Int) : Nat := if encOk s k n = true then n.toNat else 0
def encS (s : ByteArray) (k : Nat) : Nat → ByteArray := bod k (Gm.sprd k) (enc s k) (blen s.size k)
theorem sprOk_parts {k n : Int} (h : sprOk k n = true) : 1 ≤ k ∧ k ≤ n ∧ n ≤ 16 := by
 have : (1 ≤ n ∧ n ≤ 16) ∧ 1 ≤ k ∧ k ≤ n := by simpa [sprOk, side] using h
 omega
theorem s4Ok_any (k n : Int) (w : World) : Calls Tryz.prog 155 #[.int .i64 k, .int .i64 n] w fun e w' => e = .returned (.bool (sprOk k n)) ∧ w' = w := by
 have HE : Hid (sprOk k n = (inB n 1 16 && inB k 1 n)) := by show _ = _; unfold sprOk side inB; rfl
 cases h1 : inB n 1 16 with
 | false =>
  have HF : Hid (sprOk k n = false) := by show _ = _; rw [HE.out, h1]; rfl
  go_enter Tryz.func155, Tryz.ntmps155
  go_wp2_with (go_at_call 43; refine (sIn_any _ _ _ _).mono ?_; rintro e w' ⟨rfl, hw⟩; obtain rfl := hw.symm)
  go_ret
  exact ⟨ret_bool HF.out.symm, rfl⟩
 | true =>
  have HF : Hid (sprOk k n = inB k 1 n) := by show _ = _; rw [HE.out, h1]; rfl
  generalize inB k 1 n = b at HF
  obtain ⟨b, hb⟩ : ∃ b, inB k 1 n = b := ⟨_, rfl⟩
  go_enter Tryz.func155, Tryz.ntmps155
  go_wp2_with (go_at_call 43; refine (sIn_any _ _ _ _).mono ?_; rintro e w' ⟨rfl, hw⟩; obtain rfl := hw.symm)
  go_ret
  exact ⟨ret_bool (by rw [HE.out, h1]; simp [hb]), rfl⟩
theorem scale_first {s : ByteArray} {R : Nat → Nat} {T : Nat → Nat → Nat} {l : Nat} (hs : s.size = l) (hR : R 0 < 256) (hT : ∀ p, p < l → tat s p = T 0 p) : scaleS s ((R 0 : Nat) : Int) = txt (rs R T 1) l := by
 refine txt_is (by rw [scaleS_size (isB_ofNat hR), hs]) (fun p hp => ?_)
 rw [tat_scale s hR, hT p hp]
 unfold rs
 rw [Gm.sm_s]
 show _ = 0 ^^^ _
 rw [Nat.zero_xor, Gp.m_comm, ← hT p hp, Gp.m_nat (tat_lt _ _) hR]
theorem add_next {s : ByteArray} {R : Nat → Nat} {T : Nat → Nat → Nat} {l k : Nat} (hs : s.size = l) (hR : R k < 256) (hT : ∀ p, p < l → tat s p = T k p) : addS (txt (rs R T k) l) (scaleS s ((R k : Nat) : Int)) = txt (rs R T (k + 1)) l := by
 have hz : (scaleS s ((R k : Nat) : Int)).size = l := by rw [scaleS_size (isB_ofNat hR), hs]
 have he : (txt (rs R T k) l).size = (scaleS s ((R k : Nat) : Int)).size := by rw [txt_size, hz]
 refine txt_is (by rw [addS_size he, txt_size]) (fun p hp => ?_)
 rw [tat_add he, tat_txt hp (rs_lt _ _ _ _), tat_scale s hR, hT p hp]
 unfold rs
 rw [Gm.sm_s, ← hT p hp, Gp.m_comm (R k), Gp.m_nat (tat_lt _ _) hR]
set_option maxRecDepth 100000 in
theorem sRows_any (ma : Option Addr) (mc r : Nat) (F : Nat → Nat → Nat) (a : Option Addr) (cp n l : Nat) (S : Nat → ByteArray) (w : World) (hm : MatAt w ma r (fun _ => n) (fun i j => ((F i j : Nat) : Int))) (h : TxtAt w a n S) (hS : ∀ i, i < n → (S i).size = l) (hr : r ≤ 1048576) (hn : 1 ≤ n ∧ n ≤ 16) (hl : l ≤ 1048576) (hF : Gm.Byt F) :
  Calls Tryz.prog 163 #[.slice ma r mc, .slice a n cp] w fun e w' => ∃ G c, e = .returned (.slice (some ⟨G, 0, none⟩) r c) ∧ OwnT w' w.heap.size (some ⟨G, 0, none⟩) r c (bod n F (fun i p => tat (S i) p) l) ∧ Below w.heap.size w w' := by
 obtain ⟨i0, hi, hz0, hz1, hz2⟩ := info_parts Tryz.infoStr
 obtain ⟨hn1, hn16⟩ := hn
 have KH : Hid (TxtAt w a n S) := h
 have KM : Hid (MatAt w ma r (fun _ => n) (fun i j => ((F i j : Nat) : Int))) := hm
 have K0 : Hid (OwnT (w.alloc (.cells #[] 9)) w.heap.size (some ⟨w.heap.size, 0, none⟩) 0 0 (bod n F (fun i p => tat (S i) p) l)) := litT w _
 have hn0' : 0 < n := by omega
 obtain ⟨b0, off0, rfl, hc0⟩ := h 0 hn0'
 rw [Nat.add_zero] at hc0
 have hsz0 := hS 0 hn0'
 clear h hm
 go_enter Tryz.func163, Tryz.ntmps163
 go_wp2
 go_loopw [5, 6] (fun v i wr => ∃ k G c : Nat, k ≤ r ∧ i = .int .i64 (k : Int) ∧ v = .slice (some ⟨G, 0, none⟩) k c ∧ OwnT wr w.heap.size (some ⟨G, 0, none⟩) k c (bod n F (fun i p => tat (S i) p) l) ∧ Below w.heap.size w wr) (fun _ i _ => r - (intOf i).toNat)
 case atStart => exact ⟨0, _, _, Nat.zero_le _, rfl, rfl, K0.out, (Below.refl _ _).alloc (Nat.le_refl _) _⟩
 case round =>
  obtain ⟨k, G, c, hk, rfl, rfl, hown, hbel⟩ := hrel
  clear K0
  by_cases hlt : k < r
  ·have hki : (k : Int) < (r : Int) := by omega
   obtain ⟨b1, off1, ai, ci, rfl, hc1w, hr1w⟩ := KM.out.rowE hlt
   obtain ⟨b2, off2, rfl, hrz⟩ := hr1w.some hn0'
   have hc1 := (hbel.cell (p := ⟨b1, off1 + k, none⟩) (block_lt_of_cell hc1w)).trans hc1w
   have hz0w := hrz 0 hn0'
   rw [Nat.add_zero, eI_getD _ _ _ hn0'] at hz0w
   have hz0r := (hbel.cell (p := ⟨b2, off2, none⟩) (block_lt_of_cell hz0w)).trans hz0w
   have hc0r := (hbel.cell (p := ⟨b0, off0, none⟩) (block_lt_of_cell hc0)).trans hc0
   have KZ : Hid (∀ t, t < n → w.cell? ⟨b2, off2 + t, none⟩ = some (.int .i64 ((F k t : Nat) : Int))) := fun t ht => by rw [hrz t ht, eI_getD _ _ _ ht]
   have HF : Hid (scaleS (S 0) ((F k 0 : Nat) : Int) = txt (rs (F k) (fun i p => tat (S i) p) 1) l) := scale_first (R := F k) (T := fun i p => tat (S i) p) hsz0 (hF k 0) (fun _ _ => rfl)
   have KSC : Hid (∀ w, Calls Tryz.prog 187 #[.string (S 0), .int .i64 ((F k 0 : Nat) : Int)] w fun e w' => e = .returned (.string (txt (rs (F k) (fun i p => tat (S i) p) 1) l)) ∧ Below w.heap.size w w') := fun w => by rw [← HF.out]; exact sScale_any (S 0) _ w (by omega)
   have hl0 := block_lt_of_cell hc0r
   have hl1 := block_lt_of_cell hc1
   have hl2 := block_lt_of_cell hz0r
   have KO : Hid (OwnT wr w.heap.size (some ⟨G, 0, none⟩) k c (bod n F (fun i p => tat (S i) p) l)) := hown
   have KB : Hid (Below w.heap.size w wr) := hbel
   have KC1 : Hid (w.cell? ⟨b1, off1 + k, none⟩ = some (.slice (some ⟨b2, off2, none⟩) n ci)) := hc1w
   obtain ⟨s0, hs0⟩ : ∃ s0, S 0 = s0 := ⟨_, rfl⟩
   obtain ⟨x0, hx0⟩ : ∃ x0, F k 0 = x0 := ⟨_, rfl⟩
   rw [hs0] at hc0r KSC
   rw [hx0] at hz0r KSC
   clear hr1w hrz hz0w hown hbel HF hs0 hx0 hc1w
   go_wp2_with fail
   go_region_held3 (fun w' => w'.cell? ⟨b0, off0, none⟩ = some (.string s0) ∧ w'.cell? ⟨b1, off1 + k, none⟩ = some (.slice (some ⟨b2, off2, none⟩) n ci) ∧ w'.cell? ⟨b2, off2, none⟩ = some (.int .i64 (x0 : Int))) (go_keep) ((go_at_call 187; refine Calls.mono (KSC.out _) ?_; rintro e w5 ⟨rfl, hb5'⟩; have hb5 := below_of_drew hb5'; clear hb5'; have h50 := (hb5.cell (p := ⟨b0, off0, none⟩) hl0).trans hc0r; have h51 := (hb5.cell (p := ⟨b1, off1 + k, none⟩) hl1).trans hc1; have h52 := (hb5.cell (p := ⟨b2, off2, none⟩) hl2).trans hz0r))
   all_goals
    have KO5 : Hid (OwnT w5 w.heap.size (some ⟨G, 0, none⟩) k c (bod n F (fun i p => tat (S i) p) l)) := OwnT.below KO.out hb5
    have KB5 : Hid (Below w.heap.size w w5) := below2 KB.out hb5
    clear h50 h51 h52 hc0r hc1 hz0r KO KB hb5 KSC
    go_wp2
    go_loopw [7, 8] (fun v i wr => ∃ q : Nat, 1 ≤ q ∧ q ≤ n ∧ i = .int .i64 (q : Int) ∧ v = .string (txt (rs (F k) (fun i p => tat (S i) p) q) l) ∧ OwnT wr w.heap.size (some ⟨G, 0, none⟩) k c (bod n F (fun i p => tat (S i) p) l) ∧ Below w.heap.size w wr) (fun _ i _ => n - (intOf i).toNat)
    case atStart => exact ⟨1, Nat.le_refl _, hn1, rfl, rfl, KO5.out, KB5.out⟩
    case round =>
     obtain ⟨q, hq1, hq, rfl, rfl, hown, hbel⟩ := hrel
     clear KO5 KB5
     by_cases hqn : q < n
     ·have hqi : (q : Int) < (n : Int) := by omega
      obtain ⟨b3, off3, eb, hctw⟩ := KH.out q hqn
      cases eb
      have hct := (hbel.cell (p := ⟨b0, off0 + q, none⟩) (block_lt_of_cell hctw)).trans hctw
      have hc1 := (hbel.cell (p := ⟨b1, off1 + k, none⟩) (block_lt_of_cell KC1.out)).trans KC1.out
      have hzq := (hbel.cell (p := ⟨b2, off2 + q, none⟩) (block_lt_of_cell (KZ.out q hqn))).trans (KZ.out q hqn)
      have HA : Hid (addS (txt (rs (F k) (fun i p => tat (S i) p) q) l) (scaleS (S q) ((F k q : Nat) : Int)) = txt (rs (F k) (fun i p => tat (S i) p) (q + 1)) l) := add_next (R := F k) (T := fun i p => tat (S i) p) (hS q hqn) (hF k q) (fun _ _ => rfl)
      have hszq := hS q hqn
      have KSC : Hid (∀ w, Calls Tryz.prog 187 #[.string (S q), .int .i64 ((F k q : Nat) : Int)] w fun e w' => e = .returned (.string (scaleS (S q) ((F k q : Nat) : Int))) ∧ Below w.heap.size w w') := fun w => sScale_any (S q) _ w (by omega)
      have KAD : Hid (∀ w, Calls Tryz.prog 188 #[.string (txt (rs (F k) (fun i p => tat (S i) p) q) l), .string (scaleS (S q) ((F k q : Nat) : Int))] w fun e w' => e = .returned (.string (txt (rs (F k) (fun i p => tat (S i) p) (q + 1)) l)) ∧ Below w.heap.size w w') := fun w => by rw [← HA.out]; exact sAddT_any _ _ w (by rw [txt_size]; exact hl)
      have hl0 := block_lt_of_cell hct
      have hl1 := block_lt_of_cell hc1
      have hl2 := block_lt_of_cell hzq
      have KO : Hid (OwnT wr w.heap.size (some ⟨G, 0, none⟩) k c (bod n F (fun i p => tat (S i) p) l)) := hown
      have KB : Hid (Below w.heap.size w wr) := hbel
      generalize scaleS (S q) ((F k q : Nat) : Int) = sq at KSC KAD
      obtain ⟨tq, htq⟩ : ∃ tq, S q = tq := ⟨_, rfl⟩
      obtain ⟨xq, hxq⟩ : ∃ xq, F k q = xq := ⟨_, rfl⟩
      obtain ⟨cur, hcur⟩ : ∃ cur, txt (rs (F k) (fun i p => tat (S i) p) q) l = cur := ⟨_, rfl⟩
      obtain ⟨nxt, hnxt⟩ : ∃ nxt, txt (rs (F k) (fun i p => tat (S i) p) (q + 1)) l = nxt := ⟨_, rfl⟩
      have KNX : Hid (txt (rs (F k) (fun i p => tat (S i) p) (q + 1)) l = nxt) := hnxt
      rw [htq] at hct KSC
      rw [hxq] at hzq KSC
      rw [hcur, hnxt] at KAD
      rw [hcur]
      clear hown hbel HA htq hxq hnxt hctw hszq hcur
      go_wp2_with fail
      go_region_held3 (fun w' => w'.cell? ⟨b0, off0 + q, none⟩ = some (.string tq) ∧ w'.cell? ⟨b1, off1 + k, none⟩ = some (.slice (some ⟨b2, off2, none⟩) n ci) ∧ w'.cell? ⟨b2, off2 + q, none⟩ = some (.int .i64 (xq : Int))) (go_keep) ((first | (go_at_call 187; refine Calls.mono (KSC.out _) ?_; rintro e w5 ⟨rfl, hb5'⟩; have hb5 := below_of_drew hb5'; clear hb5'; have h50 := (hb5.cell (p := ⟨b0, off0 + q, none⟩) hl0).trans hct; have h51 := (hb5.cell (p := ⟨b1, off1 + k, none⟩) hl1).trans hc1; have h52 := (hb5.cell (p := ⟨b2, off2 + q, none⟩) hl2).trans hzq) | (guard_hyp hb5; go_at_call 188; refine Calls.mono (KAD.out _) ?_; rintro e w6 ⟨rfl, hb6⟩; have h60 := (hb6.cell (p := ⟨b0, off0 + q, none⟩) (block_lt_of_cell h50)).trans h50; have h61 := (hb6.cell (p := ⟨b1, off1 + k, none⟩) (block_lt_of_cell h51)).trans h51; have h62 := (hb6.cell (p := ⟨b2, off2 + q, none⟩) (block_lt_of_cell h52)).trans h52)))
      all_goals
       have HO : Hid (OwnT w6 w.heap.size (some ⟨G, 0, none⟩) k c (bod n F (fun i p => tat (S i) p) l)) := OwnT.below (OwnT.below KO.out hb5) hb6
       have HB : Hid (Below w.heap.size w w6) := below2 (below2 KB.out hb5) hb6
       clear h50 h51 h52 h60 h61 h62 hct hc1 hzq KO KB hb5 hb6 KSC KAD
       go_wp2
       go_roundw
       case rel => exact ⟨q + 1, by omega, by omega, by go_num, by rw [KNX.out], HO.out, HB.out⟩
       case measure => simp [intOf] <;> omega
     ·obtain rfl : q = n := by omega
      have hqi : ¬ (q : Int) < (q : Int) := by omega
      have hsz := hbel.size
      have hGl := (World.ownsRow.lt hown _ rfl).1
      obtain ⟨sv, hsv⟩ : ∃ sv, txt (rs (F k) (fun i p => tat (S i) p) q) l = sv := ⟨_, rfl⟩
      have KSV : Hid (sv = bod q F (fun i p => tat (S i) p) l k) := hsv.symm
      rw [hsv]
      clear hsv
      go_wp2_with (at_builtin; refine wpList_append_lies _ (by rfl) _ _ 27 (by rfl) w.heap.size 9 i0 (.string ByteArray.empty) 1 16 Tryz.underlying27 hi hz0 hz1 hz2 rfl (by decide) (.slice (some ⟨G, 0, none⟩) k c) k _ (by rfl) (World.ownsRow.alloc hown _) ⟨wr.heap.size, 0, none⟩ 1 1 [.string sv] (by rfl) (by rfl) (World.news_of_block (cs := #[.string sv]) (t := 9) (fr := (0, 0)) (heap_alloc_new wr _)) (by simp [Value.oneCell']) (by omega) (by unfold maxLen; omega) (by omega) (by simp; omega) (wr.heap.size + 1) (by simp) ?_; intro g2 cap3 w2 hown2 hgrow hat hltg)
      have HO : Hid (OwnT w2 w.heap.size (some ⟨g2, 0, none⟩) (k + 1) cap3 (bod q F (fun i p => tat (S i) p) l)) := by
       show OwnT _ _ _ _ _ _
       unfold OwnT
       rw [sL_snoc, ← KSV.out]
       exact hown2
      have hb' : Below w.heap.size w w2 := (hbel.alloc hsz _).grown (show World.grownBy _ w2 (some G) from hgrow) (by simp; omega) (fun j hj => by cases hj; exact hGl)
      clear hown2 hgrow hat hltg hown
      go_roundw
      case rel => exact ⟨k + 1, g2, cap3, by omega, by go_num, rfl, HO.out, hb'⟩
      case measure => simp [intOf] <;> omega
  ·obtain rfl : k = r := by omega
   have HO : Hid _ := hown
   clear hown
   go_wp2
   go_ret
   exact ⟨G, c, rfl, HO.out, hbel⟩
theorem encS_size (s : ByteArray) (k i : Nat) : (encS s k i).size = blen s.size k := txt_size _ _
end Go.Proofs.YtcaejlalnjnifaaGreat
