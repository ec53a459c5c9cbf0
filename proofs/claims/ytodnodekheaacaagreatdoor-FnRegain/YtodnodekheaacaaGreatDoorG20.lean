import Derived.Test.YtodnodekheaacaaGreatDoorG16
import Derived.Test.YtodnodekheaacaaGreatDoorG14
import Derived.Test.YtodnodekheaacaaGreatDoorG15
set_option maxHeartbeats 8000000
set_option maxRecDepth 2000
open Go.ChangeShapes Go.WideShapes Go.ChangeAt Go.RowKit
namespace Go.Proofs.YtodnodekheaacaaGreatDoor
theorem side_inB (n : Int) : inB n 1 16 = side n := rfl
theorem invM {x : Nat} (h : x < 256) (h0 : x ≠ 0) : invI (x : Int) = ((Gf.inv x : Nat) : Int) := by
 unfold invI
 rw [if_pos (by omega)]
 simp
theorem sSpread_any (k n : Int) (w : World) : Calls Tryz.prog 85 #[.int .i64 k, .int .i64 n] w fun e w' => ∃ v, e = .returned (.tuple #[v, .bool (sprOk k n)]) ∧ ResM w w' v (sprR k n) k.toNat (Gm.sprd k.toNat) ∧ Below w.heap.size w w' := by
 obtain ⟨i0, hi, hz0, hz1, hz2⟩ := info_parts Tryz.infoInt
 obtain ⟨i1, hj, hy0, hy1, hy2⟩ := info_parts Tryz.infoInts
 have hin := side_inB n
 by_cases h1 : side n = true
 case neg =>
  have h1' : side n = false := by simpa using h1
  have hok : sprOk k n = false := by unfold sprOk; simp [h1']
  have hN : sprR k n = 0 := by unfold sprR; rw [if_neg (by rw [hok]; simp)]
  rw [hN, hok]
  rw [h1'] at hin
  clear hok hN hi hz0 hz1 hz2 hj hy0 hy1 hy2
  go_enter Tryz.func85, Tryz.ntmps85
  go_wp2_with (go_at_call 41; refine (sIn_any _ _ _ _).mono ?_; rintro e w' ⟨rfl, hw⟩; obtain rfl := hw.symm)
  go_ret2
  exact ⟨_, rfl, resLit0 _ _ (Nat.le_refl _) _ _, (Below.refl _ _).alloc (Nat.le_refl _) _⟩
 rw [h1] at hin
 by_cases h2 : 1 ≤ k ∧ k ≤ n
 case neg =>
  have hok : sprOk k n = false := by unfold sprOk; simp [h2]
  have hN : sprR k n = 0 := by unfold sprR; rw [if_neg (by rw [hok]; simp)]
  have hin2 : inB k 1 n = false := by unfold inB; simpa using h2
  rw [hN, hok]
  clear hok hN h2 hi hz0 hz1 hz2 hj hy0 hy1 hy2
  go_enter Tryz.func85, Tryz.ntmps85
  go_wp2_with (go_at_call 41; refine (sIn_any _ _ _ _).mono ?_; rintro e w' ⟨rfl, hw⟩; obtain rfl := hw.symm)
  go_ret2
  exact ⟨_, rfl, resLit0 _ _ (Nat.le_refl _) _ _, (Below.refl _ _).alloc (Nat.le_refl _) _⟩
 have hr : 1 ≤ n ∧ n ≤ 16 := by simpa [side] using h1
 have hin2 : inB k 1 n = true := by unfold inB; simpa using h2
 have hok : sprOk k n = true := by unfold sprOk; rw [h1]; simp; omega
 obtain ⟨N, rfl⟩ : ∃ N : Nat, n = (N : Int) := ⟨n.toNat, by omega⟩
 obtain ⟨K, rfl⟩ : ∃ K : Nat, k = (K : Int) := ⟨k.toNat, by omega⟩
 have hN : sprR (K : Int) (N : Int) = N := by unfold sprR; rw [if_pos hok]; simp
 rw [hN, hok, Int.toNat_natCast]
 have hK1 : 1 ≤ K := by omega
 have hKN : K ≤ N := by omega
 have hN16 : N ≤ 16 := by omega
 clear hN hok hr h1 h2
 have KU : Hid _ := sUnit0_any K w (by omega)
 go_enter Tryz.func85, Tryz.ntmps85
 go_wp2_with (go_at_call 41; refine (sIn_any _ _ _ _).mono ?_; rintro e w' ⟨rfl, hw⟩; obtain rfl := hw.symm)
 refine Calls.mono KU.out ?_
 rintro e w1 ⟨G1, cap1, A1, C1, rfl, hM1, hb1⟩
 have H0 : Hid (MatI w1 w.heap.size w1.heap.size (some ⟨G1, 0, none⟩) K cap1 A1 (fun _ => K) C1 (fun i j => ((Gm.sprd K i j : Nat) : Int))) := hM1.congr (fun i hi => ⟨rfl, rfl, rfl, fun j _ => by unfold Gm.sprd; rw [if_pos hi]⟩)
 clear hM1 KU hin hin2
 go_wp2
 go_loopw [6, 7] (fun v i wr => ∃ k G cap A C, K ≤ k ∧ k ≤ N ∧ i = .int .i64 ((k : Nat) : Int) ∧ v = .slice (some ⟨G, 0, none⟩) k cap ∧ MatI wr w.heap.size wr.heap.size (some ⟨G, 0, none⟩) k cap A (fun _ => K) C (fun i j => ((Gm.sprd K i j : Nat) : Int)) ∧ Below w.heap.size w wr) (fun _ i _ => N - (intOf i).toNat)
 case atStart => exact ⟨K, G1, cap1, A1, C1, Nat.le_refl _, hKN, rfl, rfl, H0.out, hb1⟩
 case round =>
  obtain ⟨k, G, cap, A, C, hk0, hk, rfl, rfl, hM, hbel⟩ := hrel
  clear H0
  by_cases hlt : k < N
  ·have hki : (k : Int) < (N : Int) := by omega
   have hsz0 := hbel.size
   have KR : Hid (OwnR (wr.alloc (.cells #[] 3)) wr.heap.size wr.heap.size 0 0 (Gm.sprd K k)) := lit0 wr (Gm.sprd K k)
   have KM : Hid (MatI (wr.alloc (.cells #[] 3)) w.heap.size wr.heap.size (some ⟨G, 0, none⟩) k cap A (fun _ => K) C (fun i j => ((Gm.sprd K i j : Nat) : Int))) := hM.below ((Below.refl _ _).alloc (Nat.le_refl _) _)
   have KB : Hid (Below w.heap.size w (wr.alloc (.cells #[] 3))) := hbel.alloc hsz0 _
   have hGl := hM.olt.1
   clear hM hbel
   obtain ⟨b0, hb0⟩ : ∃ b0, wr.heap.size = b0 := ⟨_, rfl⟩
   rw [hb0] at KR KM hsz0
   go_wp2
   clear hb0
   go_loopw [8, 9] (fun v i wr => ∃ q gr capr, q ≤ K ∧ i = .int .i64 ((q : Nat) : Int) ∧ v = .slice (some ⟨gr, 0, none⟩) q capr ∧ OwnR wr b0 gr q capr (Gm.sprd K k) ∧ MatI wr w.heap.size b0 (some ⟨G, 0, none⟩) k cap A (fun _ => K) C (fun i j => ((Gm.sprd K i j : Nat) : Int)) ∧ Below w.heap.size w wr) (fun _ i _ => K - (intOf i).toNat)
   case atStart => exact ⟨0, _, _, Nat.zero_le _, rfl, rfl, KR.out, KM.out, KB.out⟩
   case round =>
    obtain ⟨q, gr, capr, hq, rfl, rfl, hown, hM, hbel⟩ := hrel
    clear KR KM KB
    have hgr := hown.lt.1
    have hsz := hbel.size
    have hglt := hown.lt.2
    by_cases hqn : q < K
    ·have hqi : (q : Int) < (K : Int) := by omega
     have hxr := xor_i64 k q (by omega) (by omega)
     have hx0 : k ^^^ q ≠ 0 := fun e => by have := Gp.xor_eq e; omega
     have hxl : k ^^^ q < 256 := Gf.xor_lt (by omega) (by omega)
     have HV : Hid (Gm.sprd K k q = Gf.inv (k ^^^ q)) := by show _ = _; unfold Gm.sprd; rw [if_neg (by omega)]
     have hiv := invM hxl hx0
     have hS := fun w => sInv_any ((k ^^^ q : Nat) : Int) w
     rw [hiv] at hS
     generalize Gf.inv (k ^^^ q) = V at HV hS
     clear hiv hx0
     go_wp2_with (first | (go_at_call 119; refine (hS _).mono ?_; rintro e w' ⟨rfl, hw⟩; obtain rfl := hw.symm) | (at_builtin; refine wpList_append_lies _ (by rfl) _ _ 25 (by rfl) b0 3 i0 (.int .i64 0) 1 8 Tryz.underlying25 hi hz0 hz1 hz2 rfl (by decide) (.slice (some ⟨gr, 0, none⟩) q capr) q _ (by rfl) (World.ownsRow.alloc hown _) ⟨wr.heap.size, 0, none⟩ 1 1 [.int .i64 (V : Int)] (by rfl) (by rfl) (World.news_of_block (cs := #[.int .i64 (V : Int)]) (t := 3) (fr := (0, 0)) (heap_alloc_new wr _)) (by simp [Value.oneCell']) (by omega) (by unfold maxLen; omega) (by omega) (by simp; omega) (wr.heap.size + 1) (by simp) ?_; intro g2 cap3 w2 hown2 hgrow hat hltg))
     have HO : Hid (OwnR w2 b0 g2 (q + 1) cap3 (Gm.sprd K k)) := OwnR.snoc (by rw [HV.out]; exact hown2)
     have HM : Hid (MatI w2 w.heap.size b0 (some ⟨G, 0, none⟩) k cap A (fun _ => K) C (fun i j => ((Gm.sprd K i j : Nat) : Int))) := MatI.rowed _ hM hgr hgrow
     have hb' : Below w.heap.size w w2 := (hbel.alloc hsz _).grown (show World.grownBy _ w2 (some gr) from hgrow) (by simp; omega) (fun j hj => by cases hj; omega)
     clear hown2 hgrow hat hltg hown hM
     go_roundw
     case rel => exact ⟨q + 1, g2, cap3, by omega, by go_num, rfl, HO.out, HM.out, hb'⟩
     case measure => simp [intOf] <;> omega
    ·obtain rfl : K = q := by omega
     have hqi : ¬ (K : Int) < (K : Int) := by omega
     go_wp2_with (at_builtin; refine wpList_append_lies _ (by rfl) _ _ 64 (by rfl) w.heap.size 25 i1 (.slice none 0 0) 1 24 Tryz.underlying64 hj hy0 hy1 hy2 rfl (by decide) (.slice (some ⟨G, 0, none⟩) k cap) k _ (by rfl) (World.ownsRow.alloc hM.out _) ⟨wr.heap.size, 0, none⟩ 1 1 [.slice (some ⟨gr, 0, none⟩) K capr] (by rfl) (by rfl) (World.news_of_block (cs := #[.slice (some ⟨gr, 0, none⟩) K capr]) (t := 25) (fr := (0, 0)) (heap_alloc_new wr _)) (by simp [Value.oneCell']) (by omega) (by unfold maxLen; omega) (by omega) (by simp; omega) (wr.heap.size + 1) (by simp) ?_; intro g2 cap3 w2 hown2 hgrow hat hltg)
     obtain ⟨A', C', hP⟩ := MatI.pushed _ hM hsz0 hown hgrow hown2
     have HP : Hid (MatI w2 w.heap.size w2.heap.size (some ⟨g2, 0, none⟩) (k + 1) cap3 A' (fun _ => K) C' (fun i j => ((Gm.sprd K i j : Nat) : Int))) := hP
     have hb' : Below w.heap.size w w2 := (hbel.alloc hsz _).grown (show World.grownBy _ w2 (some G) from hgrow) (by simp; omega) (fun j hj => by cases hj; exact hGl)
     clear hown2 hgrow hat hltg hown hM hP
     go_roundw
     case rel => exact ⟨k + 1, g2, cap3, A', C', by omega, by omega, by go_num, rfl, HP.out, hb'⟩
     case measure => simp [intOf] <;> omega
  ·obtain rfl : k = N := by omega
   have KM : Hid _ := hM
   clear hM
   go_wp2
   go_ret2
   exact ⟨_, rfl, ResM.mk KM.out (Nat.le_refl _), hbel⟩
theorem sPick_any (a : Option Addr) (n ca : Nat) (L : Nat → Nat) (Z : Nat → Nat → Int) (ra : Option Addr) (nr rc : Nat) (zs : List Int) (w : World) (h : MatAt w a n L Z) (hz : IntsAt w ra nr zs) (hL : ∀ i, i < n → L i ≤ 1048576) (hnr : nr ≤ 1048576) :
  Calls Tryz.prog 100 #[.slice a n ca, .slice ra nr rc] w fun e w' => ∃ v, e = .returned (.tuple #[v, .bool (pkOk n L Z zs)]) ∧ ResM w w' v (pkR n L Z zs) (L 0) (pkF (bZ n L Z) zs) ∧ Below w.heap.size w w' := by
 obtain ⟨i0, hi, hz0, hz1, hz2⟩ := info_parts Tryz.infoInt
 obtain ⟨i1, hj, hy0, hy1, hy2⟩ := info_parts Tryz.infoInts
 have hlen := hz.1
 have KO : Hid _ := sMatOk_any a n ca L Z w h hL
 by_cases ok : OkM n L Z
 case neg =>
  have hO := pkOk_no (Z := Z) (L := L) (n := n) (zs := zs) (fun hh => ok hh.1)
  have hR : pkR n L Z zs = 0 := by unfold pkR; rw [if_neg (by rw [hO]; simp)]
  rw [okM_no ok] at KO
  rw [hO, hR]
  clear hO hR ok h hz hL hi hz0 hz1 hz2 hj hy0 hy1 hy2
  go_enter Tryz.func100, Tryz.ntmps100
  go_wp2_with fail
  refine Calls.mono KO.out ?_
  rintro e w1 ⟨rfl, hb1⟩
  go_wp2
  go_ret2
  exact ⟨_, rfl, resLit0 _ _ hb1.size _ _, below2 hb1 ((Below.refl _ _).alloc (Nat.le_refl _) _)⟩
 rw [okM_yes ok] at KO
 by_cases hs : 1 ≤ nr ∧ nr ≤ 16
 case neg =>
  have hO := pkOk_no (Z := Z) (L := L) (n := n) (zs := zs) (fun hh => hs ⟨by have := hh.2.1; omega, by have := hh.2.2.1; omega⟩)
  have hR : pkR n L Z zs = 0 := by unfold pkR; rw [if_neg (by rw [hO]; simp)]
  have hin : inB (nr : Int) 1 16 = false := by unfold inB; simp; omega
  rw [hO, hR]
  clear hO hR ok h hz hL hi hz0 hz1 hz2 hj hy0 hy1 hy2 hs
  go_enter Tryz.func100, Tryz.ntmps100
  go_wp2_with fail
  refine Calls.mono KO.out ?_
  rintro e w1 ⟨rfl, hb1⟩
  go_wp2_with (go_at_call 41; refine (sIn_any _ _ _ _).mono ?_; rintro e w' ⟨rfl, hw⟩; obtain rfl := hw.symm)
  go_ret2
  exact ⟨_, rfl, resLit0 _ _ hb1.size _ _, below2 hb1 ((Below.refl _ _).alloc (Nat.le_refl _) _)⟩
 have hin : inB (nr : Int) 1 16 = true := by unfold inB; simp; omega
 have KV : Hid (∀ i j, i < n → j < L 0 → Z i j = ((bZ n L Z i j : Nat) : Int)) := fun i j hi hj => by
  rw [bZ_eq ok hi hj]
  obtain ⟨X, hX, e⟩ := isB_nat ((ok.2.2.2.2 i hi).2 j hj)
  unfold cZ
  rw [e]
  simp
 have KL : Hid (∀ i, i < n → L i = L 0) := fun i hi => (ok.2.2.2.2 i hi).1
 have hn1 : 1 ≤ n := ok.1
 have hn2 : n ≤ 16 := ok.2.1
 have hl1 : 1 ≤ L 0 := ok.2.2.1
 have hl2 : L 0 ≤ 16 := ok.2.2.2.1
 have KY : Hid ((∀ i, i < nr → 0 ≤ zs.getD i 0 ∧ zs.getD i 0 < (n : Int)) → pkOk n L Z zs = true ∧ pkR n L Z zs = nr) := fun hp => by
  have h1 := pkOk_yes (zs := zs) ⟨ok, by omega, by omega, fun i hi => hp i (by omega)⟩
  exact ⟨h1, by unfold pkR; rw [if_pos h1]; exact hlen⟩
 have KN : Hid (∀ i, i < nr → ¬ (0 ≤ zs.getD i 0 ∧ zs.getD i 0 < (n : Int)) → pkOk n L Z zs = false ∧ pkR n L Z zs = 0) := fun i hi hp => by
  have h1 := pkOk_no (Z := Z) (L := L) (n := n) (zs := zs) (fun hh => hp (hh.2.2.2 i (by omega)))
  exact ⟨h1, by unfold pkR; rw [if_neg (by rw [h1]; simp)]⟩
 generalize pkOk n L Z zs = okf at KY KN
 generalize pkR n L Z zs = R at KY KN
 generalize bZ n L Z = B at KV
 obtain ⟨l, hl⟩ : ∃ l, L 0 = l := ⟨_, rfl⟩
 rw [hl] at KV KL hl1 hl2 ⊢
 obtain ⟨P, hP⟩ : ∃ P, pkF B zs = P := ⟨_, rfl⟩
 have KP : Hid (∀ i j, P i j = B (zs.getD i 0).toNat j) := fun i j => by rw [← hP]; rfl
 rw [hP]
 have KH : Hid (MatAt w a n L Z) := h
 have KZ : Hid (IntsAt w ra nr zs) := hz
 clear h hz hL ok hl hP hs
 go_enter Tryz.func100, Tryz.ntmps100
 go_wp2_with fail
 refine Calls.mono KO.out ?_
 rintro e w1 ⟨rfl, hb1⟩
 go_wp2_with (go_at_call 41; refine (sIn_any _ _ _ _).mono ?_; rintro e w' ⟨rfl, hw⟩; obtain rfl := hw.symm)
 have hsz1 := hb1.size
 have H0 : Hid (MatI (w1.alloc (.cells #[] 25)) w1.heap.size (w1.alloc (.cells #[] 25)).heap.size (some ⟨w1.heap.size, 0, none⟩) 0 0 (fun _ => none) (fun _ => l) (fun _ => 0) (fun i j => ((P i j : Nat) : Int))) := litM w1 _ _ _ _
 have KB0 : Hid (Below w1.heap.size w1 (w1.alloc (.cells #[] 25))) := (Below.refl _ _).alloc (Nat.le_refl _) _
 have KH1 : Hid (MatAt w1 a n L Z) := KH.out.below hb1
 have KZ1 : Hid (IntsAt w1 ra nr zs) := KZ.out.below hb1
 clear KH KZ KO hin
 go_loopw [6, 7] (fun v i wr => ∃ k G cap A C, k ≤ nr ∧ i = .int .i64 ((k : Nat) : Int) ∧ v = .slice (some ⟨G, 0, none⟩) k cap ∧ Hid (∀ i, i < k → 0 ≤ zs.getD i 0 ∧ zs.getD i 0 < (n : Int)) ∧ MatI wr w1.heap.size wr.heap.size (some ⟨G, 0, none⟩) k cap A (fun _ => l) C (fun i j => ((P i j : Nat) : Int)) ∧ Below w1.heap.size w1 wr) (fun _ i _ => nr - (intOf i).toNat)
 case atStart => exact ⟨0, _, _, _, _, Nat.zero_le _, rfl, rfl, fun i hi => absurd hi (Nat.not_lt_zero _), H0.out, KB0.out⟩
 case round =>
  obtain ⟨k, G, cap, A, C, hk, rfl, rfl, HPl, hM, hbel⟩ := hrel
  clear H0 KB0
  by_cases hlt : k < nr
  ·have hki : (k : Int) < (nr : Int) := by omega
   have hsz := hbel.size
   obtain ⟨b2, off2, rfl, hcz⟩ := (KZ1.out.below hbel).2 k hlt
   by_cases hx : 0 ≤ zs.getD k 0 ∧ zs.getD k 0 < (n : Int)
   ·obtain ⟨x, hxe⟩ : ∃ x : Nat, zs.getD k 0 = (x : Int) := ⟨(zs.getD k 0).toNat, by omega⟩
    have HPl2 : Hid (∀ i, i < k + 1 → 0 ≤ zs.getD i 0 ∧ zs.getD i 0 < (n : Int)) := fun i hi => by
     by_cases e : i = k
     ·subst e; exact hx
     ·exact HPl.out i (by omega)
    have HPx : Hid (∀ j, P k j = B x j) := fun j => by rw [KP.out, hxe]; simp
    rw [hxe] at hcz hx
    have hxn : x < n := by omega
    have hxi : (x : Int) < (n : Int) := by omega
    have hwr : IntKind.i64.wrap ((n : Int) - 1) = (n : Int) - 1 := by rw [IntKind.wrap_i64]; omega
    have hin2 : inB (x : Int) 0 ((n : Int) - 1) = true := by unfold inB; simp; omega
    obtain ⟨b3, off3, ai, ci, rfl, hc, hr⟩ := KH1.out.below hbel x hxn
    rw [KL.out x hxn] at hc hr
    obtain ⟨b4, off4, rfl, hcell⟩ := hr.some (by omega)
    have hnews : ∀ j u, ((eI (P k) l).map (Value.int .i64))[j]? = some u → wr.cell? ((⟨b4, off4, none⟩ : Addr).add j) = some u := fun j u hu => by
     have hjl : j < l := by
      by_cases hh : j < l
      ·exact hh
      ·rw [List.getElem?_eq_none (by simp [eI_len]; omega)] at hu; cases hu
     have ea : (⟨b4, off4, none⟩ : Addr).add j = ⟨b4, off4 + j, none⟩ := by unfold Addr.add; split <;> simp_all
     rw [ea, hcell j hjl, zI_getD _ _ _ hjl, KV.out x j hxn hjl, ← HPx.out j]
     simpa [eI, hjl] using hu
    have hba : Below wr.heap.size wr (wr.alloc (.cells #[] 3)) := (Below.refl _ _).alloc (Nat.le_refl _) _
    have hcz2 := (hba.cell (p := ⟨b2, off2 + k, none⟩) (block_lt_of_cell hcz)).trans hcz
    have hc2 := (hba.cell (p := ⟨b3, off3 + x, none⟩) (block_lt_of_cell hc)).trans hc
    have hcl := fun j u hu => block_lt_of_cell (hnews j u hu)
    have KW : Hid (∀ j u, ((eI (P k) l).map (Value.int .i64))[j]? = some u → (wr.alloc (.cells #[] 3)).cell? ((⟨b4, off4, none⟩ : Addr).add j) = some u) := fun j u hu => (hba.cell (p := (⟨b4, off4, none⟩ : Addr).add j) (hcl j u hu)).trans (hnews j u hu)
    have KM : Hid (MatI wr w1.heap.size wr.heap.size (some ⟨G, 0, none⟩) k cap A (fun _ => l) C (fun i j => ((P i j : Nat) : Int))) := hM
    have KR : Hid (OwnR (wr.alloc (.cells #[] 3)) wr.heap.size wr.heap.size 0 0 (P k)) := lit0 wr (P k)
    have KBe : Hid (Below w1.heap.size w1 wr) := hbel
    have hlen2 : ((eI (P k) l).map (Value.int .i64)).length = l * 1 := by simp [eI_len]
    have hGl := hM.olt.1
    obtain ⟨news, hnw⟩ : ∃ news, (eI (P k) l).map (Value.int .i64) = news := ⟨_, rfl⟩
    have KNW : Hid ((eI (P k) l).map (Value.int .i64) = news) := hnw
    have hone : ∀ u ∈ news, u.oneCell' = true := by rw [← hnw]; intro u hu; simp at hu; obtain ⟨y, _, rfl⟩ := hu; rfl
    have KONE : Hid (∀ u ∈ news, u.oneCell' = true) := hone
    rw [hnw] at KW hlen2
    clear hr hcell hnews hcl hM hba hnw hone hbel
    go_wp2_with (first | (go_at_call 41; refine (sIn_any _ _ _ _).mono ?_; rintro e w' ⟨rfl, hw⟩; obtain rfl := hw.symm; clear hw) | (guard_hyp KR; at_builtin; refine wpList_append_lies _ (by rfl) _ _ 25 (by rfl) wr.heap.size 3 i0 (.int .i64 0) 1 8 Tryz.underlying25 hi hz0 hz1 hz2 rfl (by decide) (.slice (some ⟨wr.heap.size, 0, none⟩) 0 0) 0 _ (by rfl) KR.out ⟨b4, off4, none⟩ l ci news (by rfl) hlen2 KW.out KONE.out (by omega) (by unfold maxLen; omega) (by omega) (by simp) (wr.heap.size + 1) (by simp) ?_; intro g2 cap3 w2 hown2 hgrow hat hltg; have KO2 : Hid (OwnR w2 wr.heap.size g2 l cap3 (P k)) := (by rw [Nat.zero_add] at hown2; rw [← KNW.out] at hown2; exact hown2); have hM2 : MatI w2 w1.heap.size wr.heap.size (some ⟨G, 0, none⟩) k cap A (fun _ => l) C (fun i j => ((P i j : Nat) : Int)) := MatI.rowed _ KM.out (Nat.le_refl _) hgrow; have KB2 : Hid (Below w1.heap.size w1 w2) := (KBe.out.alloc hsz _).grown (show World.grownBy _ w2 (some wr.heap.size) from hgrow) (by simp; omega) (fun j hj => by cases hj; exact hsz); have hsz2 : wr.heap.size ≤ w2.heap.size := (by have := hgrow.size; simp at this; omega); clear KR KW hown2 hgrow hat hltg KM KBe) | (guard_hyp hM2; at_builtin; refine wpList_append_lies _ (by rfl) _ _ 64 (by rfl) w1.heap.size 25 i1 (.slice none 0 0) 1 24 Tryz.underlying64 hj hy0 hy1 hy2 rfl (by decide) (.slice (some ⟨G, 0, none⟩) k cap) k _ (by rfl) (World.ownsRow.alloc hM2.out _) ⟨w2.heap.size, 0, none⟩ 1 1 [.slice (some ⟨g2, 0, none⟩) l cap3] (by rfl) (by rfl) (World.news_of_block (cs := #[.slice (some ⟨g2, 0, none⟩) l cap3]) (t := 25) (fr := (0, 0)) (heap_alloc_new w2 _)) (by simp [Value.oneCell']) (by omega) (by unfold maxLen; omega) (by omega) (by simp; omega) (w2.heap.size + 1) (by simp) ?_; intro g4 cap4 w4 hown4 hgrow4 hat4 hltg4))
    obtain ⟨A', C', hP⟩ := MatI.pushed _ hM2 hsz KO2.out hgrow4 hown4
    have HP : Hid (MatI w4 w1.heap.size w4.heap.size (some ⟨g4, 0, none⟩) (k + 1) cap4 A' (fun _ => l) C' (fun i j => ((P i j : Nat) : Int))) := hP
    have hb' : Below w1.heap.size w1 w4 := (KB2.out.alloc (Nat.le_trans hsz hsz2) _).grown (show World.grownBy _ w4 (some G) from hgrow4) (by simp; omega) (fun j hj => by cases hj; exact hGl)
    clear hown4 hgrow4 hat4 hltg4 hM2 hP
    go_roundw
    case rel => exact ⟨k + 1, g4, cap4, A', C', by omega, by go_num, rfl, HPl2, HP.out, hb'⟩
    case measure => simp [intOf] <;> omega
   ·have HN := KN.out k hlt hx
    obtain ⟨rfl, rfl⟩ := HN
    have hwr : IntKind.i64.wrap ((n : Int) - 1) = (n : Int) - 1 := by rw [IntKind.wrap_i64]; omega
    generalize zs.getD k 0 = x at hcz hx
    have hin2 : inB x 0 ((n : Int) - 1) = false := by unfold inB; simp; omega
    clear hM hx
    go_wp2_with (go_at_call 41; refine (sIn_any _ _ _ _).mono ?_; rintro e w' ⟨rfl, hw⟩; obtain rfl := hw.symm)
    go_ret2
    exact ⟨_, rfl, resLit0 _ _ (Nat.le_trans hsz1 hsz) _ _, below2 (below2 hb1 hbel) ((Below.refl _ _).alloc (Nat.le_refl _) _)⟩
  ·obtain rfl : k = nr := by omega
   obtain ⟨rfl, rfl⟩ := KY.out HPl.out
   have KM : Hid _ := hM
   clear hM
   go_wp2
   go_ret2
   exact ⟨_, rfl, ResM.mk KM.out hsz1, below2 hb1 hbel⟩
theorem MatI.g {w : World} {B E : Nat} {a : Option Addr} {n cap : Nat} {A : Nat → Option Addr} {W : Nat} {C : Nat → Nat} {F : Nat → Nat → Nat} (h : MatI w B E a n cap A (fun _ => W) C (fun i j => ((F i j : Nat) : Int))) (hW : 0 < W) : ∃ g : Nat → Nat, MatI w B E a n cap (fun i => some ⟨g i, 0, none⟩) (fun _ => W) C (fun i j => ((F i j : Nat) : Int)) := by
 have hx : ∀ i, i < n → ∃ g, A i = some ⟨g, 0, none⟩ := fun i hi => by
  rcases own_shape (h.row i hi) with ⟨_, h0, _⟩ | ⟨g, _, e, _⟩
  ·omega
  ·exact ⟨g, e⟩
 refine ⟨fun i => if hi : i < n then Classical.choose (hx i hi) else 0, h.congr (fun i hi => ⟨?_, rfl, rfl, fun _ _ => rfl⟩)⟩
 simp only [hi, dif_pos]
 exact Classical.choose_spec (hx i hi)
end Go.Proofs.YtodnodekheaacaaGreatDoor
