import Derived.Test.YtaenoiffamgcfaaGreatDoorM14
import Derived.Test.YtaenoiffamgcfaaGreatDoorM9
import Derived.Test.YtaenoiffamgcfaaGreatDoorM8
import Derived.Laws.IdiomStrings
set_option maxHeartbeats 8000000
set_option maxRecDepth 2000
open Go.ChangeShapes Go.WideShapes Go.ChangeAt Go.RowKit
namespace Go.Proofs.YtaenoiffamgcfaaGreatDoor
theorem s4Ok_any (k n : Int) (w : World) : Calls Tryz.prog 62 #[.int .i64 k, .int .i64 n] w fun e w' => e = .returned (.bool (sprOk k n)) ∧ w' = w := by
 have HE : Hid (sprOk k n = (inB n 1 16 && inB k 1 n)) := by show _ = _; unfold sprOk side inB; rfl
 cases h1 : inB n 1 16 with
 | false =>
  have HF : Hid (sprOk k n = false) := by show _ = _; rw [HE.out, h1]; rfl
  go_enter Tryz.func62, Tryz.ntmps62
  go_wp2_with (go_at_call 63; refine (sIn_any _ _ _ _).mono ?_; rintro e w' ⟨rfl, hw⟩; obtain rfl := hw.symm)
  go_ret
  exact ⟨ret_bool HF.out.symm, rfl⟩
 | true =>
  have HF : Hid (sprOk k n = inB k 1 n) := by show _ = _; rw [HE.out, h1]; rfl
  generalize inB k 1 n = b at HF
  obtain ⟨b, hb⟩ : ∃ b, inB k 1 n = b := ⟨_, rfl⟩
  go_enter Tryz.func62, Tryz.ntmps62
  go_wp2_with (go_at_call 63; refine (sIn_any _ _ _ _).mono ?_; rintro e w' ⟨rfl, hw⟩; obtain rfl := hw.symm)
  go_ret
  exact ⟨ret_bool (by rw [HE.out, h1]; simp [hb]), rfl⟩
theorem scale_first {s : ByteArray} {R : Nat → Nat} {T : Nat → Nat → Nat} {l : Nat} (hs : s.size = l) (hR : R 0 < 256) (hT : ∀ p, p < l → tat s p = T 0 p) : scaleS s ((R 0 : Nat) : Int) = txt (rs R T 1) l := by
 refine txt_is (by rw [scaleS_size (isB_ofNat hR), hs]) (fun p hp => ?_)
 rw [tat_scale s hR, hT p hp]
 unfold rs
 rw [Gm.sm_s]
 show _ = 0 ^^^ _
 rw [Nat.zero_xor, Gp.m_comm, ← hT p hp, Gp.m_nat (tat_lt _ _) hR]
theorem add_next {s : ByteArray} {R : Nat → Nat} {T : Nat → Nat → Nat} {l k : Nat} (hs : s.size = l) (hR : R k < 256) (hT : ∀ p, p < l → tat s p = T k p) : addS (txt (rs R T k) l) (scaleS s ((R k : Nat) : Int)) = txt (rs R T (k + 1)) l := by
 have hz : (scaleS s ((R k : Nat) : Int)).size = l := by rw [scaleS_size (isB_ofNat hR), hs]
 have he : (txt (rs R T k) l).size = (scaleS s ((R k : Nat) : Int)).size := by rw [txt_size, hz]
 refine txt_is (by rw [addS_size he, txt_size]) (fun p hp => ?_)
 rw [tat_add he, tat_txt hp (rs_lt _ _ _ _), tat_scale s hR, hT p hp]
 unfold rs
 rw [Gm.sm_s, ← hT p hp, Gp.m_comm (R k), Gp.m_nat (tat_lt _ _) hR]
set_option maxRecDepth 100000 in
theorem sRows_any (ma : Option Addr) (mc r : Nat) (F : Nat → Nat → Nat) (a : Option Addr) (cp n l : Nat) (S : Nat → ByteArray) (w : World) (hm : MatAt w ma r (fun _ => n) (fun i j => ((F i j : Nat) : Int))) (h : TxtAt w a n S) (hS : ∀ i, i < n → (S i).size = l) (hr : r ≤ 1048576) (hn : 1 ≤ n ∧ n ≤ 16) (hl : l ≤ 1048576) (hF : Gm.Byt F) :
  Calls Tryz.prog 109 #[.slice ma r mc, .slice a n cp] w fun e w' => ∃ G c, e = .returned (.slice (some ⟨G, 0, none⟩) r c) ∧ OwnT w' w.heap.size (some ⟨G, 0, none⟩) r c (bod n F (fun i p => tat (S i) p) l) ∧ Below w.heap.size w w' := by
 obtain ⟨i0, hi, hz0, hz1, hz2⟩ := info_parts Tryz.infoStr
 obtain ⟨hn1, hn16⟩ := hn
 have KH : Hid (TxtAt w a n S) := h
 have KM : Hid (MatAt w ma r (fun _ => n) (fun i j => ((F i j : Nat) : Int))) := hm
 have K0 : Hid (OwnT (w.alloc (.cells #[] 9)) w.heap.size (some ⟨w.heap.size, 0, none⟩) 0 0 (bod n F (fun i p => tat (S i) p) l)) := litT w _
 have hn0' : 0 < n := by omega
 obtain ⟨b0, off0, rfl, hc0⟩ := h 0 hn0'
 rw [Nat.add_zero] at hc0
 have hsz0 := hS 0 hn0'
 clear h hm
 go_enter Tryz.func109, Tryz.ntmps109
 go_wp2
 go_loopw [5, 6] (fun v i wr => ∃ k G c : Nat, k ≤ r ∧ i = .int .i64 (k : Int) ∧ v = .slice (some ⟨G, 0, none⟩) k c ∧ OwnT wr w.heap.size (some ⟨G, 0, none⟩) k c (bod n F (fun i p => tat (S i) p) l) ∧ Below w.heap.size w wr) (fun _ i _ => r - (intOf i).toNat)
 case atStart => exact ⟨0, _, _, Nat.zero_le _, rfl, rfl, K0.out, (Below.refl _ _).alloc (Nat.le_refl _) _⟩
 case round =>
  obtain ⟨k, G, c, hk, rfl, rfl, hown, hbel⟩ := hrel
  clear K0
  by_cases hlt : k < r
  ·have hki : (k : Int) < (r : Int) := by omega
   obtain ⟨b1, off1, ai, ci, rfl, hc1w, hr1w⟩ := KM.out.rowE hlt
   obtain ⟨b2, off2, rfl, hrz⟩ := hr1w.some hn0'
   have hc1 := (hbel.cell (p := ⟨b1, off1 + k, none⟩) (block_lt_of_cell hc1w)).trans hc1w
   have hz0w := hrz 0 hn0'
   rw [Nat.add_zero, eI_getD _ _ _ hn0'] at hz0w
   have hz0r := (hbel.cell (p := ⟨b2, off2, none⟩) (block_lt_of_cell hz0w)).trans hz0w
   have hc0r := (hbel.cell (p := ⟨b0, off0, none⟩) (block_lt_of_cell hc0)).trans hc0
   have KZ : Hid (∀ t, t < n → w.cell? ⟨b2, off2 + t, none⟩ = some (.int .i64 ((F k t : Nat) : Int))) := fun t ht => by rw [hrz t ht, eI_getD _ _ _ ht]
   have HF : Hid (scaleS (S 0) ((F k 0 : Nat) : Int) = txt (rs (F k) (fun i p => tat (S i) p) 1) l) := scale_first (R := F k) (T := fun i p => tat (S i) p) hsz0 (hF k 0) (fun _ _ => rfl)
   have KSC : Hid (∀ w, Calls Tryz.prog 130 #[.string (S 0), .int .i64 ((F k 0 : Nat) : Int)] w fun e w' => e = .returned (.string (txt (rs (F k) (fun i p => tat (S i) p) 1) l)) ∧ Below w.heap.size w w') := fun w => by rw [← HF.out]; exact sScale_any (S 0) _ w (by omega)
   have hl0 := block_lt_of_cell hc0r
   have hl1 := block_lt_of_cell hc1
   have hl2 := block_lt_of_cell hz0r
   have KO : Hid (OwnT wr w.heap.size (some ⟨G, 0, none⟩) k c (bod n F (fun i p => tat (S i) p) l)) := hown
   have KB : Hid (Below w.heap.size w wr) := hbel
   have KC1 : Hid (w.cell? ⟨b1, off1 + k, none⟩ = some (.slice (some ⟨b2, off2, none⟩) n ci)) := hc1w
   obtain ⟨s0, hs0⟩ : ∃ s0, S 0 = s0 := ⟨_, rfl⟩
   obtain ⟨x0, hx0⟩ : ∃ x0, F k 0 = x0 := ⟨_, rfl⟩
   rw [hs0] at hc0r KSC
   rw [hx0] at hz0r KSC
   clear hr1w hrz hz0w hown hbel HF hs0 hx0 hc1w
   go_wp2_with fail
   go_region_held3 (fun w' => w'.cell? ⟨b0, off0, none⟩ = some (.string s0) ∧ w'.cell? ⟨b1, off1 + k, none⟩ = some (.slice (some ⟨b2, off2, none⟩) n ci) ∧ w'.cell? ⟨b2, off2, none⟩ = some (.int .i64 (x0 : Int))) (go_keep) ((go_at_call 130; refine Calls.mono (KSC.out _) ?_; rintro e w5 ⟨rfl, hb5'⟩; have hb5 := below_of_drew hb5'; clear hb5'; have h50 := (hb5.cell (p := ⟨b0, off0, none⟩) hl0).trans hc0r; have h51 := (hb5.cell (p := ⟨b1, off1 + k, none⟩) hl1).trans hc1; have h52 := (hb5.cell (p := ⟨b2, off2, none⟩) hl2).trans hz0r))
   all_goals
    have KO5 : Hid (OwnT w5 w.heap.size (some ⟨G, 0, none⟩) k c (bod n F (fun i p => tat (S i) p) l)) := OwnT.below KO.out hb5
    have KB5 : Hid (Below w.heap.size w w5) := below2 KB.out hb5
    clear h50 h51 h52 hc0r hc1 hz0r KO KB hb5 KSC
    go_wp2
    go_loopw [7, 8] (fun v i wr => ∃ q : Nat, 1 ≤ q ∧ q ≤ n ∧ i = .int .i64 (q : Int) ∧ v = .string (txt (rs (F k) (fun i p => tat (S i) p) q) l) ∧ OwnT wr w.heap.size (some ⟨G, 0, none⟩) k c (bod n F (fun i p => tat (S i) p) l) ∧ Below w.heap.size w wr) (fun _ i _ => n - (intOf i).toNat)
    case atStart => exact ⟨1, Nat.le_refl _, hn1, rfl, rfl, KO5.out, KB5.out⟩
    case round =>
     obtain ⟨q, hq1, hq, rfl, rfl, hown, hbel⟩ := hrel
     clear KO5 KB5
     by_cases hqn : q < n
     ·have hqi : (q : Int) < (n : Int) := by omega
      obtain ⟨b3, off3, eb, hctw⟩ := KH.out q hqn
      cases eb
      have hct := (hbel.cell (p := ⟨b0, off0 + q, none⟩) (block_lt_of_cell hctw)).trans hctw
      have hc1 := (hbel.cell (p := ⟨b1, off1 + k, none⟩) (block_lt_of_cell KC1.out)).trans KC1.out
      have hzq := (hbel.cell (p := ⟨b2, off2 + q, none⟩) (block_lt_of_cell (KZ.out q hqn))).trans (KZ.out q hqn)
      have HA : Hid (addS (txt (rs (F k) (fun i p => tat (S i) p) q) l) (scaleS (S q) ((F k q : Nat) : Int)) = txt (rs (F k) (fun i p => tat (S i) p) (q + 1)) l) := add_next (R := F k) (T := fun i p => tat (S i) p) (hS q hqn) (hF k q) (fun _ _ => rfl)
      have hszq := hS q hqn
      have KSC : Hid (∀ w, Calls Tryz.prog 130 #[.string (S q), .int .i64 ((F k q : Nat) : Int)] w fun e w' => e = .returned (.string (scaleS (S q) ((F k q : Nat) : Int))) ∧ Below w.heap.size w w') := fun w => sScale_any (S q) _ w (by omega)
      have KAD : Hid (∀ w, Calls Tryz.prog 131 #[.string (txt (rs (F k) (fun i p => tat (S i) p) q) l), .string (scaleS (S q) ((F k q : Nat) : Int))] w fun e w' => e = .returned (.string (txt (rs (F k) (fun i p => tat (S i) p) (q + 1)) l)) ∧ Below w.heap.size w w') := fun w => by rw [← HA.out]; exact sAddT_any _ _ w (by rw [txt_size]; exact hl)
      have hl0 := block_lt_of_cell hct
      have hl1 := block_lt_of_cell hc1
      have hl2 := block_lt_of_cell hzq
      have KO : Hid (OwnT wr w.heap.size (some ⟨G, 0, none⟩) k c (bod n F (fun i p => tat (S i) p) l)) := hown
      have KB : Hid (Below w.heap.size w wr) := hbel
      generalize scaleS (S q) ((F k q : Nat) : Int) = sq at KSC KAD
      obtain ⟨tq, htq⟩ : ∃ tq, S q = tq := ⟨_, rfl⟩
      obtain ⟨xq, hxq⟩ : ∃ xq, F k q = xq := ⟨_, rfl⟩
      obtain ⟨cur, hcur⟩ : ∃ cur, txt (rs (F k) (fun i p => tat (S i) p) q) l = cur := ⟨_, rfl⟩
      obtain ⟨nxt, hnxt⟩ : ∃ nxt, txt (rs (F k) (fun i p => tat (S i) p) (q + 1)) l = nxt := ⟨_, rfl⟩
      have KNX : Hid (txt (rs (F k) (fun i p => tat (S i) p) (q + 1)) l = nxt) := hnxt
      rw [htq] at hct KSC
      rw [hxq] at hzq KSC
      rw [hcur, hnxt] at KAD
      rw [hcur]
      clear hown hbel HA htq hxq hnxt hctw hszq hcur
      go_wp2_with fail
      go_region_held3 (fun w' => w'.cell? ⟨b0, off0 + q, none⟩ = some (.string tq) ∧ w'.cell? ⟨b1, off1 + k, none⟩ = some (.slice (some ⟨b2, off2, none⟩) n ci) ∧ w'.cell? ⟨b2, off2 + q, none⟩ = some (.int .i64 (xq : Int))) (go_keep) ((first | (go_at_call 130; refine Calls.mono (KSC.out _) ?_; rintro e w5 ⟨rfl, hb5'⟩; have hb5 := below_of_drew hb5'; clear hb5'; have h50 := (hb5.cell (p := ⟨b0, off0 + q, none⟩) hl0).trans hct; have h51 := (hb5.cell (p := ⟨b1, off1 + k, none⟩) hl1).trans hc1; have h52 := (hb5.cell (p := ⟨b2, off2 + q, none⟩) hl2).trans hzq) | (guard_hyp hb5; go_at_call 131; refine Calls.mono (KAD.out _) ?_; rintro e w6 ⟨rfl, hb6⟩; have h60 := (hb6.cell (p := ⟨b0, off0 + q, none⟩) (block_lt_of_cell h50)).trans h50; have h61 := (hb6.cell (p := ⟨b1, off1 + k, none⟩) (block_lt_of_cell h51)).trans h51; have h62 := (hb6.cell (p := ⟨b2, off2 + q, none⟩) (block_lt_of_cell h52)).trans h52)))
      all_goals
       have HO : Hid (OwnT w6 w.heap.size (some ⟨G, 0, none⟩) k c (bod n F (fun i p => tat (S i) p) l)) := OwnT.below (OwnT.below KO.out hb5) hb6
       have HB : Hid (Below w.heap.size w w6) := below2 (below2 KB.out hb5) hb6
       clear h50 h51 h52 h60 h61 h62 hct hc1 hzq KO KB hb5 hb6 KSC KAD
       go_wp2
       go_roundw
       case rel => exact ⟨q + 1, by omega, by omega, by go_num, by rw [KNX.out], HO.out, HB.out⟩
       case measure => simp [intOf] <;> omega
     ·obtain rfl : q = n := by omega
      have hqi : ¬ (q : Int) < (q : Int) := by omega
      have hsz := hbel.size
      have hGl := (World.ownsRow.lt hown _ rfl).1
      obtain ⟨sv, hsv⟩ : ∃ sv, txt (rs (F k) (fun i p => tat (S i) p) q) l = sv := ⟨_, rfl⟩
      have KSV : Hid (sv = bod q F (fun i p => tat (S i) p) l k) := hsv.symm
      rw [hsv]
      clear hsv
      go_wp2_with (at_builtin; refine wpList_append_lies _ (by rfl) _ _ 30 (by rfl) w.heap.size 9 i0 (.string ByteArray.empty) 1 16 Tryz.underlying30 hi hz0 hz1 hz2 rfl (by decide) (.slice (some ⟨G, 0, none⟩) k c) k _ (by rfl) (World.ownsRow.alloc hown _) ⟨wr.heap.size, 0, none⟩ 1 1 [.string sv] (by rfl) (by rfl) (World.news_of_block (cs := #[.string sv]) (t := 9) (fr := (0, 0)) (heap_alloc_new wr _)) (by simp [Value.oneCell']) (by omega) (by unfold maxLen; omega) (by omega) (by simp; omega) (wr.heap.size + 1) (by simp) ?_; intro g2 cap3 w2 hown2 hgrow hat hltg)
      have HO : Hid (OwnT w2 w.heap.size (some ⟨g2, 0, none⟩) (k + 1) cap3 (bod q F (fun i p => tat (S i) p) l)) := by
       show OwnT _ _ _ _ _ _
       unfold OwnT
       rw [sL_snoc, ← KSV.out]
       exact hown2
      have hb' : Below w.heap.size w w2 := (hbel.alloc hsz _).grown (show World.grownBy _ w2 (some G) from hgrow) (by simp; omega) (fun j hj => by cases hj; exact hGl)
      clear hown2 hgrow hat hltg hown
      go_roundw
      case rel => exact ⟨k + 1, g2, cap3, by omega, by go_num, rfl, HO.out, hb'⟩
      case measure => simp [intOf] <;> omega
  ·obtain rfl : k = r := by omega
   have HO : Hid _ := hown
   clear hown
   go_wp2
   go_ret
   exact ⟨G, c, rfl, HO.out, hbel⟩
theorem eI_snocB (f : Nat → Nat) (k : Nat) : (eI f (k + 1)).map (Value.int .u8) = (eI f k).map (Value.int .u8) ++ [.int .u8 ((f k : Nat) : Int)] := by
 rw [eI_snoc, List.map_append]
 rfl
theorem frm_head (s : ByteArray) (n x y : Nat) (hn : s.size = n) (hx : n / 256 = x) (hy : n % 256 = y) : [Value.int .u8 (x : Int), Value.int .u8 (y : Int)] ++ (eI (tat s) n).map (Value.int .u8) = (eI (frm s) (2 + n)).map (Value.int .u8) := by
 apply List.ext_getElem?
 intro i
 by_cases h : i < 2 + n
 ·rw [List.getElem?_map, eI_get _ _ _ h]
  match i, h with
  | 0, _ => simp [frm, hn, hx]
  | 1, _ => simp [frm, hn, hy]
  | j + 2, h =>
   have hj : j < n := by omega
   rw [List.getElem?_append_right (by simp)]
   simp [eI, hj, frm]
 ·rw [List.getElem?_eq_none (by simp [eI_len]; omega), List.getElem?_eq_none (by simp [eI_len]; omega)]
theorem news_bytes {w : World} (s : ByteArray) (cap : Nat) (fr : Nat × Nat) : ∀ j u, ((eI (tat s) s.size).map (Value.int .u8))[j]? = some u → (w.alloc (.cells (bytesRow s cap) 5 fr)).cell? ((⟨w.heap.size, 0, none⟩ : Addr).add j) = some u := fun j u hu => by
 have hj : j < s.size := by
  by_cases hh : j < s.size
  ·exact hh
  ·rw [List.getElem?_eq_none (by simp [eI_len]; omega)] at hu; cases hu
 have ea : (⟨w.heap.size, 0, none⟩ : Addr).add j = ⟨w.heap.size, j, none⟩ := by unfold Addr.add; split <;> simp_all
 rw [ea, World.cell?_alloc_mark, bytesRow_at s cap j hj, ← hu]
 rw [List.getElem?_map, eI_get _ _ _ hj]
 have : tat s j = s.data[j].toNat := tat_in s j hj
 simp [this]
theorem one_u8 (f : Nat → Nat) (n : Nat) : ∀ u ∈ (eI f n).map (Value.int .u8), u.oneCell' = true := by
 intro u hu
 simp at hu
 obtain ⟨y, _, rfl⟩ := hu
 rfl
set_option maxRecDepth 100000 in
theorem sEncode_any (s : ByteArray) (k n : Int) (w : World) (hs : s.size ≤ 1048576) :
  Calls Tryz.prog 76 #[.string s, .int .i64 k, .int .i64 n] w fun e w' => ∃ v, e = .returned (.tuple #[v, .bool (encOk s k n)]) ∧ ResT w w' v (encR s k n) (encS s k.toNat) ∧ Below w.heap.size w w' := by
 obtain ⟨i0, hi, hz0, hz1, hz2⟩ := info_parts Tryz.infoByte
 obtain ⟨i1, hj, hy0, hy1, hy2⟩ := info_parts Tryz.infoStr
 obtain ⟨sz, hsz⟩ : ∃ sz, s.size = sz := ⟨_, rfl⟩
 by_cases hs2 : sz ≤ 2000
 case neg =>
  have he : encOk s k n = false := by unfold encOk; simp; omega
  have hr : encR s k n = 0 := by unfold encR; rw [if_neg (by rw [he]; simp)]
  rw [he, hr]
  have h1 : (sz : Int) > 2000 := by omega
  clear he hr
  go_enter Tryz.func76, Tryz.ntmps76
  go_wp2
  go_ret2
  exact ⟨_, rfl, ⟨_, _, rfl, litT _ _⟩, (Below.refl _ _).alloc (Nat.le_refl _) _⟩
 have hs2i : ¬ (sz : Int) > 2000 := by omega
 by_cases hok : sprOk k n = true
 case neg =>
  have hok' : sprOk k n = false := by simpa using hok
  have he : encOk s k n = false := by unfold encOk; rw [hok']; simp
  have hr : encR s k n = 0 := by unfold encR; rw [if_neg (by rw [he]; simp)]
  rw [he, hr]
  clear he hr hok
  go_enter Tryz.func76, Tryz.ntmps76
  go_wp2_with (go_at_call 62; refine (s4Ok_any _ _ _).mono ?_; rintro e w' ⟨rfl, hw⟩; obtain rfl := hw.symm)
  go_ret2
  exact ⟨_, rfl, ⟨_, _, rfl, litT _ _⟩, (Below.refl _ _).alloc (Nat.le_refl _) _⟩
 obtain ⟨h1, h2, h3⟩ := sprOk_parts hok
 obtain ⟨K, rfl⟩ := Int.eq_ofNat_of_zero_le (show 0 ≤ k by omega)
 obtain ⟨M, rfl⟩ := Int.eq_ofNat_of_zero_le (show 0 ≤ n by omega)
 have hR : sprR (K : Int) (M : Int) = M := by unfold sprR; rw [if_pos hok]; simp
 have KSP : Hid (∀ w, Calls Tryz.prog 108 #[.int .i64 (K : Int), .int .i64 (M : Int)] w fun e w' => ∃ v, e = .returned (.tuple #[v, .bool true]) ∧ ResM w w' v M K (Gm.sprd K) ∧ Below w.heap.size w w') := fun w => by
  have := sSpread_any (K : Int) (M : Int) w
  rw [hok, hR, Int.toNat_natCast] at this
  exact this
 have he : encOk s (K : Int) (M : Int) = true := by unfold encOk; rw [hok]; simp; omega
 have hr : encR s (K : Int) (M : Int) = M := by unfold encR; rw [if_pos he]; simp
 rw [he, hr, Int.toNat_natCast]
 have hK1 : 1 ≤ K := by omega
 have hK16 : K ≤ 16 := by omega
 have hB := fun w => sBodyLen_any (sz : Int) (K : Int) w
 rw [blI_yes hs2 hK1 hK16] at hB
 have hbg := blen_ge (s := sz) hK1
 have hbp := blen_pos (s := sz) hK1
 have hble := blen_le (s := sz) hK1
 have KEN : Hid (encS s K = bod K (Gm.sprd K) (pcs (frm s) (blen sz K)) (blen sz K)) := by show _ = _; unfold encS; rw [hsz]; unfold enc; rw [hsz]
 obtain ⟨l, hl⟩ : ∃ l, blen sz K = l := ⟨_, rfl⟩
 rw [hl] at hB hbg hbp hble KEN
 obtain ⟨NN, hNN⟩ : ∃ NN, K * l = NN := ⟨_, rfl⟩
 have hNb : NN ≤ 100000 := by rw [← hNN]; exact Nat.le_trans (Nat.mul_le_mul hK16 hble) (by omega)
 rw [hNN] at hbg
 have hm : (K : Int) * (l : Int) = (NN : Int) := by rw [← hNN, Int.natCast_mul]
 have hwm : IntKind.i64.wrap ((K : Int) * (l : Int)) = (NN : Int) := by rw [hm, IntKind.wrap_i64]; omega
 have KNN : Hid (NN = K * l) := hNN.symm
 have hFl : ∀ q, frm s q < 256 := fun q => frm_lt (by omega) _
 obtain ⟨x, hx⟩ : ∃ x, sz / 256 = x := ⟨_, rfl⟩
 obtain ⟨y, hy⟩ : ∃ y, sz % 256 = y := ⟨_, rfl⟩
 have KHD : Hid ([Value.int .u8 (x : Int), Value.int .u8 (y : Int)] ++ (eI (tat s) sz).map (Value.int .u8) = (eI (frm s) (2 + sz)).map (Value.int .u8)) := frm_head s sz x y hsz hx hy
 have e1 : IntKind.u8.wrap ((sz : Int) / 256) = (x : Int) := by rw [IntKind.wrap_u8]; omega
 have e2 : IntKind.u8.wrap ((sz : Int) % 256) = (y : Int) := by rw [IntKind.wrap_u8]; omega
 have e3 : Int.tdiv (sz : Int) 256 = (sz : Int) / 256 := by rw [Int.tdiv_eq_ediv_of_nonneg (by omega)]
 have e4 : Int.tmod (sz : Int) 256 = (sz : Int) % 256 := by rw [Int.tmod_eq_emod_of_nonneg (by omega)]
 have hcvt := fun w s => run_bytes_of_string (P := Tryz.prog) w 9 22 5 s Tryz.underlying9 Tryz.underlying22 Tryz.underlying5
 have KNB : Hid (∀ (cap : Nat) (fr : Nat × Nat) (j : Nat) (u : Value), ((eI (tat s) sz).map (Value.int .u8))[j]? = some u → (((w.alloc (.cells #[.int .u8 (x : Int), .int .u8 (y : Int)] 5)).alloc (.cells (bytesRow s cap) 5 fr)).drew).cell? ((⟨w.heap.size + 1, 0, none⟩ : Addr).add j) = some u) := fun cap fr j u hu => by
  have h1 := news_bytes (w := w.alloc (.cells #[.int .u8 (x : Int), .int .u8 (y : Int)] 5)) s cap fr j u (by rw [hsz]; exact hu)
  have e : (w.alloc (.cells #[.int .u8 (x : Int), .int .u8 (y : Int)] 5)).heap.size = w.heap.size + 1 := by simp
  rw [e] at h1
  exact h1
 have KO1 : Hid ((w.alloc (.cells #[.int .u8 (x : Int), .int .u8 (y : Int)] 5)).ownsRow w.heap.size 5 1 (.slice (some ⟨w.heap.size, 0, none⟩) 2 2) 2 [Value.int .u8 (x : Int), Value.int .u8 (y : Int)]) := World.ownsRow_lit w #[.int .u8 (x : Int), .int .u8 (y : Int)] 2 (Nat.le_refl _) (by unfold maxLen; omega) rfl
 have hlen : ((eI (tat s) sz).map (Value.int .u8)).length = sz * 1 := by simp [eI_len]
 have KONE : Hid _ := one_u8 (tat s) sz
 clear he hr hl hNN hR hm hx hy
 go_enter Tryz.func76, Tryz.ntmps76
 go_wp2_with (first | (go_at_call 62; refine (s4Ok_any _ _ _).mono ?_; rintro e w' ⟨rfl, hw⟩; obtain rfl := hw.symm; clear hw) | (go_at_call 107; refine (hB _).mono ?_; rintro e w' ⟨rfl, hw⟩; obtain rfl := hw.symm; clear hw) | (at_builtin; (refine wpList_append_all _ (by rfl) _ _ 22 (by rfl) w.heap.size 5 i0 (.int .u8 0) 1 1 Tryz.underlying22 hi hz0 hz1 hz2 rfl (by decide) w.heap.size 2 2 _ (by rfl) ((World.ownsRow.alloc KO1.out _).drew) ⟨w.heap.size + 1, 0, none⟩ sz _ ((eI (tat s) sz).map (Value.int .u8)) (by rfl) hlen (KNB.out _ _) KONE.out (by unfold maxLen; omega) (by omega) (by simp; omega) ?_); intro g3 cap3 w3 hown3 hgrow3))
 have hb3 : Below w.heap.size w w3 := ((((Below.refl w.heap.size w).alloc (Nat.le_refl _) (.cells #[.int .u8 (x : Int), .int .u8 (y : Int)] 5)).alloc (by simp) _).drew).grown hgrow3 (by simp; omega) (fun j hj => by cases hj; exact Nat.le_refl _)
 have K3 : Hid (OwnB w3 w.heap.size g3 (2 + sz) cap3 (frm s)) := by
  show OwnB _ _ _ _ _ _
  unfold OwnB
  rw [← KHD.out]
  exact hown3
 have KB3 : Hid (Below w.heap.size w w3) := hb3
 clear hown3 hgrow3 hb3 KNB KO1 KONE hlen e1 e2 e3 e4 KHD hcvt hB
 go_loopw [9] (fun v wr => ∃ m g c : Nat, 2 + sz ≤ m ∧ m ≤ NN ∧ v = .slice (some ⟨g, 0, none⟩) m c ∧ OwnB wr w.heap.size g m c (frm s) ∧ Below w.heap.size w wr) (fun v _ => NN - lenV v)
 case atStart => exact ⟨2 + sz, g3, cap3, Nat.le_refl _, by omega, rfl, K3.out, KB3.out⟩
 case round =>
  obtain ⟨m, g, c, hm1, hm2, rfl, hown, hbel⟩ := hrel
  clear K3 KB3
  by_cases hlt : m < NN
  ·have hmi : (m : Int) < (NN : Int) := by omega
   have hsz1 := hbel.size
   have hgl := hown.lt.1
   have KF0 : Hid (frm s m = 0) := frm_out (by omega)
   go_wp2_with (at_builtin; refine wpList_append_lies _ (by rfl) _ _ 22 (by rfl) w.heap.size 5 i0 (.int .u8 0) 1 1 Tryz.underlying22 hi hz0 hz1 hz2 rfl (by decide) (.slice (some ⟨g, 0, none⟩) m c) m _ (by rfl) (World.ownsRow.alloc hown _) ⟨wr.heap.size, 0, none⟩ 1 1 [.int .u8 0] (by rfl) (by rfl) (World.news_of_block (cs := #[.int .u8 0]) (t := 5) (fr := (0, 0)) (heap_alloc_new wr _)) (by simp [Value.oneCell']) (by omega) (by unfold maxLen; omega) (by omega) (by simp; omega) (wr.heap.size + 1) (by simp) ?_; intro g4 cap4 w4 hown4 hgrow4 hat4 hltg4)
   have HO : Hid (OwnB w4 w.heap.size g4 (m + 1) cap4 (frm s)) := by
    show OwnB _ _ _ _ _ _
    unfold OwnB
    rw [eI_snocB, KF0.out]
    exact hown4
   have hb' : Below w.heap.size w w4 := (hbel.alloc hsz1 _).grown (show World.grownBy _ w4 (some g) from hgrow4) (by simp; omega) (fun j hj => by cases hj; exact hgl)
   clear hown4 hgrow4 hat4 hltg4 hown
   go_roundw
   case rel => exact ⟨m + 1, g4, cap4, by omega, by omega, rfl, HO.out, hb'⟩
   case measure => simp [lenV] <;> omega
  ·obtain rfl : NN = m := by omega
   have hmi : ¬ (NN : Int) < (NN : Int) := by omega
   have KA : Hid (∀ q, q < NN → wr.cell? ⟨g, q, none⟩ = some (.int .u8 ((frm s q : Nat) : Int))) := fun q hq => hown.cell hq
   have hcap : NN ≤ c := owns_cap hown
   have hszr := hbel.size
   have KBr : Hid (Below w.heap.size w wr) := hbel
   obtain ⟨wA, hwA⟩ : ∃ wA, wr = wA := ⟨_, rfl⟩
   rw [hwA] at KA KBr hszr
   have K0 : Hid (OwnT (wA.alloc (.cells #[] 9)) wA.heap.size (some ⟨wA.heap.size, 0, none⟩) 0 0 (fun j => txt (pcs (frm s) l j) l)) := litT wA _
   clear hown hbel
   go_wp2
   clear hwA
   go_loopw [10, 11] (fun v i wr => ∃ j a G c2 : Nat, j ≤ K ∧ Hid (a = j * l) ∧ i = .int .i64 (j : Int) ∧ v = .slice (some ⟨G, 0, none⟩) j c2 ∧ OwnT wr wA.heap.size (some ⟨G, 0, none⟩) j c2 (fun j => txt (pcs (frm s) l j) l) ∧ Below wA.heap.size wA wr) (fun _ i _ => K - (intOf i).toNat)
   case atStart => exact ⟨0, 0, _, _, Nat.zero_le _, by show 0 = 0 * l; omega, rfl, rfl, K0.out, (Below.refl _ _).alloc (Nat.le_refl _) _⟩
   case round =>
    obtain ⟨j, a, G, c2, hjK, HA, rfl, rfl, hown, hbel⟩ := hrel
    clear K0
    by_cases hjl : j < K
    ·have hji : (j : Int) < (K : Int) := by omega
     have hsz1 := hbel.size
     have hgl := (World.ownsRow.lt hown _ rfl).1
     have hal : a + l ≤ NN := by
      rw [HA.out, KNN.out]
      have : (j + 1) * l ≤ K * l := Nat.mul_le_mul_right _ hjl
      rw [Nat.succ_mul] at this
      omega
     have hj1 : (j : Int) * (l : Int) = (a : Int) := by rw [HA.out, Int.natCast_mul]
     have hj2 : ((j : Int) + 1) * (l : Int) = (a : Int) + (l : Int) := by rw [Int.add_mul, hj1, Int.one_mul]
     have hw1 : IntKind.i64.wrap ((j : Int) * (l : Int)) = (a : Int) := by rw [hj1, IntKind.wrap_i64]; omega
     have hw2 : IntKind.i64.wrap (((j : Int) + 1) * (l : Int)) = (a : Int) + (l : Int) := by rw [hj2, IntKind.wrap_i64]; omega
     have h1' : (0 : Int) ≤ (a : Int) := by omega
     have h2' : (a : Int) ≤ (a : Int) + (l : Int) := by omega
     have h3' : (a : Int) + (l : Int) ≤ (c : Int) := by omega
     have h4' : a + l - a = l := by omega
     have h5' : ¬ (c = a) := by omega
     have hcell : ∀ p, p < l → wr.cell? ⟨g, a + p, none⟩ = some (.int .u8 ((eI (pcs (frm s) l j) l).getD p 0)) := fun p hp => by
      have h0 := KA.out (a + p) (by omega)
      rw [(hbel.cell (p := ⟨g, a + p, none⟩) (block_lt_of_cell h0)).trans h0, eI_getD _ _ _ hp]
      unfold pcs
      rw [HA.out]
     have hcv := run_convert_bytes_arg (P := Tryz.prog) wr 22 5 Tryz.underlying22 Tryz.underlying5 g a l (c - a) (eI (pcs (frm s) l j) l) (eI_len _ _) hcell 9 Tryz.underlying9
     rw [show strOfNums (eI (pcs (frm s) l j) l) = txt (pcs (frm s) l j) l from rfl] at hcv
     obtain ⟨sv, hsv⟩ : ∃ sv, txt (pcs (frm s) l j) l = sv := ⟨_, rfl⟩
     rw [hsv] at hcv
     have KSV : Hid (txt (pcs (frm s) l j) l = sv) := hsv
     have HA2 : Hid (a + l = (j + 1) * l) := by show _ = _; rw [HA.out, Nat.succ_mul]
     clear hcell hsv hj1 hj2
     go_wp2_with (at_builtin; refine wpList_append_lies _ (by rfl) _ _ 30 (by rfl) wA.heap.size 9 i1 (.string ByteArray.empty) 1 16 Tryz.underlying30 hj hy0 hy1 hy2 rfl (by decide) (.slice (some ⟨G, 0, none⟩) j c2) j _ (by rfl) (World.ownsRow.alloc hown _) ⟨wr.heap.size, 0, none⟩ 1 1 [.string sv] (by rfl) (by rfl) (World.news_of_block (cs := #[.string sv]) (t := 9) (fr := (0, 0)) (heap_alloc_new wr _)) (by simp [Value.oneCell']) (by omega) (by unfold maxLen; omega) (by omega) (by simp; omega) (wr.heap.size + 1) (by simp) ?_; intro g2 cap2 w2 hown2 hgrow hat hltg)
     have HO : Hid (OwnT w2 wA.heap.size (some ⟨g2, 0, none⟩) (j + 1) cap2 (fun j => txt (pcs (frm s) l j) l)) := by
      show OwnT _ _ _ _ _ _
      unfold OwnT
      rw [sL_snoc, KSV.out]
      exact hown2
     have hb' : Below wA.heap.size wA w2 := (hbel.alloc hsz1 _).grown (show World.grownBy _ w2 (some G) from hgrow) (by simp; omega) (fun j hj => by cases hj; exact hgl)
     clear hown2 hgrow hat hltg hown
     go_roundw
     case rel => exact ⟨j + 1, a + l, g2, cap2, by omega, HA2, by go_num, rfl, HO.out, hb'⟩
     case measure => simp [intOf] <;> omega
    ·obtain rfl : K = j := by omega
     have hji : ¬ (K : Int) < (K : Int) := by omega
     have KT : Hid (TxtAt wr (some ⟨G, 0, none⟩) K (fun j => txt (pcs (frm s) l j) l)) := OwnT.at hown
     have hsz1 := hbel.size
     clear hown
     go_wp2_with fail
     refine Calls.mono (KSP.out _) ?_
     rintro e w5 ⟨v, rfl, hRM, hb5⟩
     obtain ⟨am, cm, Am, Cm, rfl, hMM⟩ := hRM
     have KMA : Hid (MatAt w5 am M (fun _ => K) (fun i j => ((Gm.sprd K i j : Nat) : Int))) := hMM.at
     have KT5 : Hid (TxtAt w5 (some ⟨G, 0, none⟩) K (fun j => txt (pcs (frm s) l j) l)) := KT.out.below hb5
     have hs5 := hb5.size
     clear hMM KT
     go_wp2_with fail
     refine Calls.mono (sRows_any am cm M (Gm.sprd K) (some ⟨G, 0, none⟩) c2 K l (fun j => txt (pcs (frm s) l j) l) w5 KMA.out KT5.out (fun _ _ => txt_size _ _) (by omega) ⟨hK1, hK16⟩ (by omega) (Gm.sprd_byt K)) ?_
     rintro e w6 ⟨G6, c6, rfl, hO6, hb6⟩
     have HO : Hid (ResT w w6 (.slice (some ⟨G6, 0, none⟩) M c6) M (encS s K)) := ⟨_, _, rfl, by
      rw [KEN.out]
      exact OwnT.congr (OwnT.base hO6 (by omega)) (fun i _ => bod_congr (fun _ _ => rfl) (fun t p _ hp => tat_txt hp (hFl _)))⟩
     clear hO6 KMA KT5
     go_wp2
     go_ret2
     exact ⟨_, rfl, HO.out, below2 (below2 (below2 KBr.out hbel) hb5) hb6⟩
end Go.Proofs.YtaenoiffamgcfaaGreatDoor
