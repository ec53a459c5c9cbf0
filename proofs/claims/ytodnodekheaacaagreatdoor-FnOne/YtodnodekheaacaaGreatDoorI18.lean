import Derived.Test.YtodnodekheaacaaGreatDoorI12
import Derived.Test.YtodnodekheaacaaGreatDoorI14
import Derived.Deep.RegionLaw
set_option maxHeartbeats 8000000
set_option maxRecDepth 2000
open Go.ChangeShapes Go.WideShapes Go.ChangeAt Go.RowKit
namespace Go.Proofs.YtodnodekheaacaaGreatDoor
theorem one_ints (xs : List Int) : ∀ u ∈ xs.map (Value.int .i64), u.oneCell' = true := by
 intro u hu
 simp at hu
 obtain ⟨y, _, rfl⟩ := hu
 rfl
def lenV : Value → Nat
 | .slice _ n _ => n
 | _ => 0
theorem side_inB (n : Int) : inB n 1 16 = side n := rfl
theorem invM {x : Nat} (h : x < 256) (h0 : x ≠ 0) : invI (x : Int) = ((Gf.inv x : Nat) : Int) := by
 unfold invI
 rw [if_pos (by omega)]
 simp
theorem sSpread_any (k n : Int) (w : World) : Calls Tryz.prog 85 #[.int .i64 k, .int .i64 n] w fun e w' => ∃ v, e = .returned (.tuple #[v, .bool (sprOk k n)]) ∧ ResM w w' v (sprR k n) k.toNat (Gm.sprd k.toNat) ∧ Below w.heap.size w w' := by
 obtain ⟨i0, hi, hz0, hz1, hz2⟩ := info_parts Tryz.infoInt
 obtain ⟨i1, hj, hy0, hy1, hy2⟩ := info_parts Tryz.infoInts
 have hin := side_inB n
 by_cases h1 : side n = true
 case neg =>
  have h1' : side n = false := by simpa using h1
  have hok : sprOk k n = false := by unfold sprOk; simp [h1']
  have hN : sprR k n = 0 := by unfold sprR; rw [if_neg (by rw [hok]; simp)]
  rw [hN, hok]
  rw [h1'] at hin
  clear hok hN hi hz0 hz1 hz2 hj hy0 hy1 hy2
  go_enter Tryz.func85, Tryz.ntmps85
  go_wp2_with (go_at_call 41; refine (sIn_any _ _ _ _).mono ?_; rintro e w' ⟨rfl, hw⟩; obtain rfl := hw.symm)
  go_ret2
  exact ⟨_, rfl, resLit0 _ _ (Nat.le_refl _) _ _, (Below.refl _ _).alloc (Nat.le_refl _) _⟩
 rw [h1] at hin
 by_cases h2 : 1 ≤ k ∧ k ≤ n
 case neg =>
  have hok : sprOk k n = false := by unfold sprOk; simp [h2]
  have hN : sprR k n = 0 := by unfold sprR; rw [if_neg (by rw [hok]; simp)]
  have hin2 : inB k 1 n = false := by unfold inB; simpa using h2
  rw [hN, hok]
  clear hok hN h2 hi hz0 hz1 hz2 hj hy0 hy1 hy2
  go_enter Tryz.func85, Tryz.ntmps85
  go_wp2_with (go_at_call 41; refine (sIn_any _ _ _ _).mono ?_; rintro e w' ⟨rfl, hw⟩; obtain rfl := hw.symm)
  go_ret2
  exact ⟨_, rfl, resLit0 _ _ (Nat.le_refl _) _ _, (Below.refl _ _).alloc (Nat.le_refl _) _⟩
 have hr : 1 ≤ n ∧ n ≤ 16 := by simpa [side] using h1
 have hin2 : inB k 1 n = true := by unfold inB; simpa using h2
 have hok : sprOk k n = true := by unfold sprOk; rw [h1]; simp; omega
 obtain ⟨N, rfl⟩ : ∃ N : Nat, n = (N : Int) := ⟨n.toNat, by omega⟩
 obtain ⟨K, rfl⟩ : ∃ K : Nat, k = (K : Int) := ⟨k.toNat, by omega⟩
 have hN : sprR (K : Int) (N : Int) = N := by unfold sprR; rw [if_pos hok]; simp
 rw [hN, hok, Int.toNat_natCast]
 have hK1 : 1 ≤ K := by omega
 have hKN : K ≤ N := by omega
 have hN16 : N ≤ 16 := by omega
 clear hN hok hr h1 h2
 have KU : Hid _ := sUnit0_any K w (by omega)
 go_enter Tryz.func85, Tryz.ntmps85
 go_wp2_with (go_at_call 41; refine (sIn_any _ _ _ _).mono ?_; rintro e w' ⟨rfl, hw⟩; obtain rfl := hw.symm)
 refine Calls.mono KU.out ?_
 rintro e w1 ⟨G1, cap1, A1, C1, rfl, hM1, hb1⟩
 have H0 : Hid (MatI w1 w.heap.size w1.heap.size (some ⟨G1, 0, none⟩) K cap1 A1 (fun _ => K) C1 (fun i j => ((Gm.sprd K i j : Nat) : Int))) := hM1.congr (fun i hi => ⟨rfl, rfl, rfl, fun j _ => by unfold Gm.sprd; rw [if_pos hi]⟩)
 clear hM1 KU hin hin2
 go_wp2
 go_loopw [6, 7] (fun v i wr => ∃ k G cap A C, K ≤ k ∧ k ≤ N ∧ i = .int .i64 ((k : Nat) : Int) ∧ v = .slice (some ⟨G, 0, none⟩) k cap ∧ MatI wr w.heap.size wr.heap.size (some ⟨G, 0, none⟩) k cap A (fun _ => K) C (fun i j => ((Gm.sprd K i j : Nat) : Int)) ∧ Below w.heap.size w wr) (fun _ i _ => N - (intOf i).toNat)
 case atStart => exact ⟨K, G1, cap1, A1, C1, Nat.le_refl _, hKN, rfl, rfl, H0.out, hb1⟩
 case round =>
  obtain ⟨k, G, cap, A, C, hk0, hk, rfl, rfl, hM, hbel⟩ := hrel
  clear H0
  by_cases hlt : k < N
  ·have hki : (k : Int) < (N : Int) := by omega
   have hsz0 := hbel.size
   have KR : Hid (OwnR (wr.alloc (.cells #[] 3)) wr.heap.size wr.heap.size 0 0 (Gm.sprd K k)) := lit0 wr (Gm.sprd K k)
   have KM : Hid (MatI (wr.alloc (.cells #[] 3)) w.heap.size wr.heap.size (some ⟨G, 0, none⟩) k cap A (fun _ => K) C (fun i j => ((Gm.sprd K i j : Nat) : Int))) := hM.below ((Below.refl _ _).alloc (Nat.le_refl _) _)
   have KB : Hid (Below w.heap.size w (wr.alloc (.cells #[] 3))) := hbel.alloc hsz0 _
   have hGl := hM.olt.1
   clear hM hbel
   obtain ⟨b0, hb0⟩ : ∃ b0, wr.heap.size = b0 := ⟨_, rfl⟩
   rw [hb0] at KR KM hsz0
   go_wp2
   clear hb0
   go_loopw [8, 9] (fun v i wr => ∃ q gr capr, q ≤ K ∧ i = .int .i64 ((q : Nat) : Int) ∧ v = .slice (some ⟨gr, 0, none⟩) q capr ∧ OwnR wr b0 gr q capr (Gm.sprd K k) ∧ MatI wr w.heap.size b0 (some ⟨G, 0, none⟩) k cap A (fun _ => K) C (fun i j => ((Gm.sprd K i j : Nat) : Int)) ∧ Below w.heap.size w wr) (fun _ i _ => K - (intOf i).toNat)
   case atStart => exact ⟨0, _, _, Nat.zero_le _, rfl, rfl, KR.out, KM.out, KB.out⟩
   case round =>
    obtain ⟨q, gr, capr, hq, rfl, rfl, hown, hM, hbel⟩ := hrel
    clear KR KM KB
    have hgr := hown.lt.1
    have hsz := hbel.size
    have hglt := hown.lt.2
    by_cases hqn : q < K
    ·have hqi : (q : Int) < (K : Int) := by omega
     have hxr := xor_i64 k q (by omega) (by omega)
     have hx0 : k ^^^ q ≠ 0 := fun e => by have := Gp.xor_eq e; omega
     have hxl : k ^^^ q < 256 := Gf.xor_lt (by omega) (by omega)
     have HV : Hid (Gm.sprd K k q = Gf.inv (k ^^^ q)) := by show _ = _; unfold Gm.sprd; rw [if_neg (by omega)]
     have hiv := invM hxl hx0
     have hS := fun w => sInv_any ((k ^^^ q : Nat) : Int) w
     rw [hiv] at hS
     generalize Gf.inv (k ^^^ q) = V at HV hS
     clear hiv hx0
     go_wp2_with (first | (go_at_call 119; refine (hS _).mono ?_; rintro e w' ⟨rfl, hw⟩; obtain rfl := hw.symm) | (at_builtin; refine wpList_append_lies _ (by rfl) _ _ 25 (by rfl) b0 3 i0 (.int .i64 0) 1 8 Tryz.underlying25 hi hz0 hz1 hz2 rfl (by decide) (.slice (some ⟨gr, 0, none⟩) q capr) q _ (by rfl) (World.ownsRow.alloc hown _) ⟨wr.heap.size, 0, none⟩ 1 1 [.int .i64 (V : Int)] (by rfl) (by rfl) (World.news_of_block (cs := #[.int .i64 (V : Int)]) (t := 3) (fr := (0, 0)) (heap_alloc_new wr _)) (by simp [Value.oneCell']) (by omega) (by unfold maxLen; omega) (by omega) (by simp; omega) (wr.heap.size + 1) (by simp) ?_; intro g2 cap3 w2 hown2 hgrow hat hltg))
     have HO : Hid (OwnR w2 b0 g2 (q + 1) cap3 (Gm.sprd K k)) := OwnR.snoc (by rw [HV.out]; exact hown2)
     have HM : Hid (MatI w2 w.heap.size b0 (some ⟨G, 0, none⟩) k cap A (fun _ => K) C (fun i j => ((Gm.sprd K i j : Nat) : Int))) := MatI.rowed _ hM hgr hgrow
     have hb' : Below w.heap.size w w2 := (hbel.alloc hsz _).grown (show World.grownBy _ w2 (some gr) from hgrow) (by simp; omega) (fun j hj => by cases hj; omega)
     clear hown2 hgrow hat hltg hown hM
     go_roundw
     case rel => exact ⟨q + 1, g2, cap3, by omega, by go_num, rfl, HO.out, HM.out, hb'⟩
     case measure => simp [intOf] <;> omega
    ·obtain rfl : K = q := by omega
     have hqi : ¬ (K : Int) < (K : Int) := by omega
     go_wp2_with (at_builtin; refine wpList_append_lies _ (by rfl) _ _ 64 (by rfl) w.heap.size 25 i1 (.slice none 0 0) 1 24 Tryz.underlying64 hj hy0 hy1 hy2 rfl (by decide) (.slice (some ⟨G, 0, none⟩) k cap) k _ (by rfl) (World.ownsRow.alloc hM.out _) ⟨wr.heap.size, 0, none⟩ 1 1 [.slice (some ⟨gr, 0, none⟩) K capr] (by rfl) (by rfl) (World.news_of_block (cs := #[.slice (some ⟨gr, 0, none⟩) K capr]) (t := 25) (fr := (0, 0)) (heap_alloc_new wr _)) (by simp [Value.oneCell']) (by omega) (by unfold maxLen; omega) (by omega) (by simp; omega) (wr.heap.size + 1) (by simp) ?_; intro g2 cap3 w2 hown2 hgrow hat hltg)
     obtain ⟨A', C', hP⟩ := MatI.pushed _ hM hsz0 hown hgrow hown2
     have HP : Hid (MatI w2 w.heap.size w2.heap.size (some ⟨g2, 0, none⟩) (k + 1) cap3 A' (fun _ => K) C' (fun i j => ((Gm.sprd K i j : Nat) : Int))) := hP
     have hb' : Below w.heap.size w w2 := (hbel.alloc hsz _).grown (show World.grownBy _ w2 (some G) from hgrow) (by simp; omega) (fun j hj => by cases hj; exact hGl)
     clear hown2 hgrow hat hltg hown hM hP
     go_roundw
     case rel => exact ⟨k + 1, g2, cap3, A', C', by omega, by omega, by go_num, rfl, HP.out, hb'⟩
     case measure => simp [intOf] <;> omega
  ·obtain rfl : k = N := by omega
   have KM : Hid _ := hM
   clear hM
   go_wp2
   go_ret2
   exact ⟨_, rfl, ResM.mk KM.out (Nat.le_refl _), hbel⟩
theorem sPick_any (a : Option Addr) (n ca : Nat) (L : Nat → Nat) (Z : Nat → Nat → Int) (ra : Option Addr) (nr rc : Nat) (zs : List Int) (w : World) (h : MatAt w a n L Z) (hz : IntsAt w ra nr zs) (hL : ∀ i, i < n → L i ≤ 1048576) (hnr : nr ≤ 1048576) :
  Calls Tryz.prog 100 #[.slice a n ca, .slice ra nr rc] w fun e w' => ∃ v, e = .returned (.tuple #[v, .bool (pkOk n L Z zs)]) ∧ ResM w w' v (pkR n L Z zs) (L 0) (pkF (bZ n L Z) zs) ∧ Below w.heap.size w w' := by
 obtain ⟨i0, hi, hz0, hz1, hz2⟩ := info_parts Tryz.infoInt
 obtain ⟨i1, hj, hy0, hy1, hy2⟩ := info_parts Tryz.infoInts
 have hlen := hz.1
 have KO : Hid _ := sMatOk_any a n ca L Z w h hL
 by_cases ok : OkM n L Z
 case neg =>
  have hO := pkOk_no (Z := Z) (L := L) (n := n) (zs := zs) (fun hh => ok hh.1)
  have hR : pkR n L Z zs = 0 := by unfold pkR; rw [if_neg (by rw [hO]; simp)]
  rw [okM_no ok] at KO
  rw [hO, hR]
  clear hO hR ok h hz hL hi hz0 hz1 hz2 hj hy0 hy1 hy2
  go_enter Tryz.func100, Tryz.ntmps100
  go_wp2_with fail
  refine Calls.mono KO.out ?_
  rintro e w1 ⟨rfl, hb1⟩
  go_wp2
  go_ret2
  exact ⟨_, rfl, resLit0 _ _ hb1.size _ _, below2 hb1 ((Below.refl _ _).alloc (Nat.le_refl _) _)⟩
 rw [okM_yes ok] at KO
 by_cases hs : 1 ≤ nr ∧ nr ≤ 16
 case neg =>
  have hO := pkOk_no (Z := Z) (L := L) (n := n) (zs := zs) (fun hh => hs ⟨by have := hh.2.1; omega, by have := hh.2.2.1; omega⟩)
  have hR : pkR n L Z zs = 0 := by unfold pkR; rw [if_neg (by rw [hO]; simp)]
  have hin : inB (nr : Int) 1 16 = false := by unfold inB; simp; omega
  rw [hO, hR]
  clear hO hR ok h hz hL hi hz0 hz1 hz2 hj hy0 hy1 hy2 hs
  go_enter Tryz.func100, Tryz.ntmps100
  go_wp2_with fail
  refine Calls.mono KO.out ?_
  rintro e w1 ⟨rfl, hb1⟩
  go_wp2_with (go_at_call 41; refine (sIn_any _ _ _ _).mono ?_; rintro e w' ⟨rfl, hw⟩; obtain rfl := hw.symm)
  go_ret2
  exact ⟨_, rfl, resLit0 _ _ hb1.size _ _, below2 hb1 ((Below.refl _ _).alloc (Nat.le_refl _) _)⟩
 have hin : inB (nr : Int) 1 16 = true := by unfold inB; simp; omega
 have KV : Hid (∀ i j, i < n → j < L 0 → Z i j = ((bZ n L Z i j : Nat) : Int)) := fun i j hi hj => by
  rw [bZ_eq ok hi hj]
  obtain ⟨X, hX, e⟩ := isB_nat ((ok.2.2.2.2 i hi).2 j hj)
  unfold cZ
  rw [e]
  simp
 have KL : Hid (∀ i, i < n → L i = L 0) := fun i hi => (ok.2.2.2.2 i hi).1
 have hn1 : 1 ≤ n := ok.1
 have hn2 : n ≤ 16 := ok.2.1
 have hl1 : 1 ≤ L 0 := ok.2.2.1
 have hl2 : L 0 ≤ 16 := ok.2.2.2.1
 have KY : Hid ((∀ i, i < nr → 0 ≤ zs.getD i 0 ∧ zs.getD i 0 < (n : Int)) → pkOk n L Z zs = true ∧ pkR n L Z zs = nr) := fun hp => by
  have h1 := pkOk_yes (zs := zs) ⟨ok, by omega, by omega, fun i hi => hp i (by omega)⟩
  exact ⟨h1, by unfold pkR; rw [if_pos h1]; exact hlen⟩
 have KN : Hid (∀ i, i < nr → ¬ (0 ≤ zs.getD i 0 ∧ zs.getD i 0 < (n : Int)) → pkOk n L Z zs = false ∧ pkR n L Z zs = 0) := fun i hi hp => by
  have h1 := pkOk_no (Z := Z) (L := L) (n := n) (zs := zs) (fun hh => hp (hh.2.2.2 i (by omega)))
  exact ⟨h1, by unfold pkR; rw [if_neg (by rw [h1]; simp)]⟩
 generalize pkOk n L Z zs = okf at KY KN
 generalize pkR n L Z zs = R at KY KN
 generalize bZ n L Z = B at KV
 obtain ⟨l, hl⟩ : ∃ l, L 0 = l := ⟨_, rfl⟩
 rw [hl] at KV KL hl1 hl2 ⊢
 obtain ⟨P, hP⟩ : ∃ P, pkF B zs = P := ⟨_, rfl⟩
 have KP : Hid (∀ i j, P i j = B (zs.getD i 0).toNat j) := fun i j => by rw [← hP]; rfl
 rw [hP]
 have KH : Hid (MatAt w a n L Z) := h
 have KZ : Hid (IntsAt w ra nr zs) := hz
 clear h hz hL ok hl hP hs
 go_enter Tryz.func100, Tryz.ntmps100
 go_wp2_with fail
 refine Calls.mono KO.out ?_
 rintro e w1 ⟨rfl, hb1⟩
 go_wp2_with (go_at_call 41; refine (sIn_any _ _ _ _).mono ?_; rintro e w' ⟨rfl, hw⟩; obtain rfl := hw.symm)
 have hsz1 := hb1.size
 have H0 : Hid (MatI (w1.alloc (.cells #[] 25)) w1.heap.size (w1.alloc (.cells #[] 25)).heap.size (some ⟨w1.heap.size, 0, none⟩) 0 0 (fun _ => none) (fun _ => l) (fun _ => 0) (fun i j => ((P i j : Nat) : Int))) := litM w1 _ _ _ _
 have KB0 : Hid (Below w1.heap.size w1 (w1.alloc (.cells #[] 25))) := (Below.refl _ _).alloc (Nat.le_refl _) _
 have KH1 : Hid (MatAt w1 a n L Z) := KH.out.below hb1
 have KZ1 : Hid (IntsAt w1 ra nr zs) := KZ.out.below hb1
 clear KH KZ KO hin
 go_loopw [6, 7] (fun v i wr => ∃ k G cap A C, k ≤ nr ∧ i = .int .i64 ((k : Nat) : Int) ∧ v = .slice (some ⟨G, 0, none⟩) k cap ∧ Hid (∀ i, i < k → 0 ≤ zs.getD i 0 ∧ zs.getD i 0 < (n : Int)) ∧ MatI wr w1.heap.size wr.heap.size (some ⟨G, 0, none⟩) k cap A (fun _ => l) C (fun i j => ((P i j : Nat) : Int)) ∧ Below w1.heap.size w1 wr) (fun _ i _ => nr - (intOf i).toNat)
 case atStart => exact ⟨0, _, _, _, _, Nat.zero_le _, rfl, rfl, fun i hi => absurd hi (Nat.not_lt_zero _), H0.out, KB0.out⟩
 case round =>
  obtain ⟨k, G, cap, A, C, hk, rfl, rfl, HPl, hM, hbel⟩ := hrel
  clear H0 KB0
  by_cases hlt : k < nr
  ·have hki : (k : Int) < (nr : Int) := by omega
   have hsz := hbel.size
   obtain ⟨b2, off2, rfl, hcz⟩ := (KZ1.out.below hbel).2 k hlt
   by_cases hx : 0 ≤ zs.getD k 0 ∧ zs.getD k 0 < (n : Int)
   ·obtain ⟨x, hxe⟩ : ∃ x : Nat, zs.getD k 0 = (x : Int) := ⟨(zs.getD k 0).toNat, by omega⟩
    have HPl2 : Hid (∀ i, i < k + 1 → 0 ≤ zs.getD i 0 ∧ zs.getD i 0 < (n : Int)) := fun i hi => by
     by_cases e : i = k
     ·subst e; exact hx
     ·exact HPl.out i (by omega)
    have HPx : Hid (∀ j, P k j = B x j) := fun j => by rw [KP.out, hxe]; simp
    rw [hxe] at hcz hx
    have hxn : x < n := by omega
    have hxi : (x : Int) < (n : Int) := by omega
    have hwr : IntKind.i64.wrap ((n : Int) - 1) = (n : Int) - 1 := by rw [IntKind.wrap_i64]; omega
    have hin2 : inB (x : Int) 0 ((n : Int) - 1) = true := by unfold inB; simp; omega
    obtain ⟨b3, off3, ai, ci, rfl, hc, hr⟩ := KH1.out.below hbel x hxn
    rw [KL.out x hxn] at hc hr
    obtain ⟨b4, off4, rfl, hcell⟩ := hr.some (by omega)
    have hnews : ∀ j u, ((eI (P k) l).map (Value.int .i64))[j]? = some u → wr.cell? ((⟨b4, off4, none⟩ : Addr).add j) = some u := fun j u hu => by
     have hjl : j < l := by
      by_cases hh : j < l
      ·exact hh
      ·rw [List.getElem?_eq_none (by simp [eI_len]; omega)] at hu; cases hu
     have ea : (⟨b4, off4, none⟩ : Addr).add j = ⟨b4, off4 + j, none⟩ := by unfold Addr.add; split <;> simp_all
     rw [ea, hcell j hjl, zI_getD _ _ _ hjl, KV.out x j hxn hjl, ← HPx.out j]
     simpa [eI, hjl] using hu
    have hba : Below wr.heap.size wr (wr.alloc (.cells #[] 3)) := (Below.refl _ _).alloc (Nat.le_refl _) _
    have hcz2 := (hba.cell (p := ⟨b2, off2 + k, none⟩) (block_lt_of_cell hcz)).trans hcz
    have hc2 := (hba.cell (p := ⟨b3, off3 + x, none⟩) (block_lt_of_cell hc)).trans hc
    have hcl := fun j u hu => block_lt_of_cell (hnews j u hu)
    have KW : Hid (∀ j u, ((eI (P k) l).map (Value.int .i64))[j]? = some u → (wr.alloc (.cells #[] 3)).cell? ((⟨b4, off4, none⟩ : Addr).add j) = some u) := fun j u hu => (hba.cell (p := (⟨b4, off4, none⟩ : Addr).add j) (hcl j u hu)).trans (hnews j u hu)
    have KM : Hid (MatI wr w1.heap.size wr.heap.size (some ⟨G, 0, none⟩) k cap A (fun _ => l) C (fun i j => ((P i j : Nat) : Int))) := hM
    have KR : Hid (OwnR (wr.alloc (.cells #[] 3)) wr.heap.size wr.heap.size 0 0 (P k)) := lit0 wr (P k)
    have KBe : Hid (Below w1.heap.size w1 wr) := hbel
    have hlen2 : ((eI (P k) l).map (Value.int .i64)).length = l * 1 := by simp [eI_len]
    have hGl := hM.olt.1
    obtain ⟨news, hnw⟩ : ∃ news, (eI (P k) l).map (Value.int .i64) = news := ⟨_, rfl⟩
    have KNW : Hid ((eI (P k) l).map (Value.int .i64) = news) := hnw
    have hone : ∀ u ∈ news, u.oneCell' = true := by rw [← hnw]; intro u hu; simp at hu; obtain ⟨y, _, rfl⟩ := hu; rfl
    have KONE : Hid (∀ u ∈ news, u.oneCell' = true) := hone
    rw [hnw] at KW hlen2
    clear hr hcell hnews hcl hM hba hnw hone hbel
    go_wp2_with (first | (go_at_call 41; refine (sIn_any _ _ _ _).mono ?_; rintro e w' ⟨rfl, hw⟩; obtain rfl := hw.symm; clear hw) | (guard_hyp KR; at_builtin; refine wpList_append_lies _ (by rfl) _ _ 25 (by rfl) wr.heap.size 3 i0 (.int .i64 0) 1 8 Tryz.underlying25 hi hz0 hz1 hz2 rfl (by decide) (.slice (some ⟨wr.heap.size, 0, none⟩) 0 0) 0 _ (by rfl) KR.out ⟨b4, off4, none⟩ l ci news (by rfl) hlen2 KW.out KONE.out (by omega) (by unfold maxLen; omega) (by omega) (by simp) (wr.heap.size + 1) (by simp) ?_; intro g2 cap3 w2 hown2 hgrow hat hltg; have KO2 : Hid (OwnR w2 wr.heap.size g2 l cap3 (P k)) := (by rw [Nat.zero_add] at hown2; rw [← KNW.out] at hown2; exact hown2); have hM2 : MatI w2 w1.heap.size wr.heap.size (some ⟨G, 0, none⟩) k cap A (fun _ => l) C (fun i j => ((P i j : Nat) : Int)) := MatI.rowed _ KM.out (Nat.le_refl _) hgrow; have KB2 : Hid (Below w1.heap.size w1 w2) := (KBe.out.alloc hsz _).grown (show World.grownBy _ w2 (some wr.heap.size) from hgrow) (by simp; omega) (fun j hj => by cases hj; exact hsz); have hsz2 : wr.heap.size ≤ w2.heap.size := (by have := hgrow.size; simp at this; omega); clear KR KW hown2 hgrow hat hltg KM KBe) | (guard_hyp hM2; at_builtin; refine wpList_append_lies _ (by rfl) _ _ 64 (by rfl) w1.heap.size 25 i1 (.slice none 0 0) 1 24 Tryz.underlying64 hj hy0 hy1 hy2 rfl (by decide) (.slice (some ⟨G, 0, none⟩) k cap) k _ (by rfl) (World.ownsRow.alloc hM2.out _) ⟨w2.heap.size, 0, none⟩ 1 1 [.slice (some ⟨g2, 0, none⟩) l cap3] (by rfl) (by rfl) (World.news_of_block (cs := #[.slice (some ⟨g2, 0, none⟩) l cap3]) (t := 25) (fr := (0, 0)) (heap_alloc_new w2 _)) (by simp [Value.oneCell']) (by omega) (by unfold maxLen; omega) (by omega) (by simp; omega) (w2.heap.size + 1) (by simp) ?_; intro g4 cap4 w4 hown4 hgrow4 hat4 hltg4))
    obtain ⟨A', C', hP⟩ := MatI.pushed _ hM2 hsz KO2.out hgrow4 hown4
    have HP : Hid (MatI w4 w1.heap.size w4.heap.size (some ⟨g4, 0, none⟩) (k + 1) cap4 A' (fun _ => l) C' (fun i j => ((P i j : Nat) : Int))) := hP
    have hb' : Below w1.heap.size w1 w4 := (KB2.out.alloc (Nat.le_trans hsz hsz2) _).grown (show World.grownBy _ w4 (some G) from hgrow4) (by simp; omega) (fun j hj => by cases hj; exact hGl)
    clear hown4 hgrow4 hat4 hltg4 hM2 hP
    go_roundw
    case rel => exact ⟨k + 1, g4, cap4, A', C', by omega, by go_num, rfl, HPl2, HP.out, hb'⟩
    case measure => simp [intOf] <;> omega
   ·have HN := KN.out k hlt hx
    obtain ⟨rfl, rfl⟩ := HN
    have hwr : IntKind.i64.wrap ((n : Int) - 1) = (n : Int) - 1 := by rw [IntKind.wrap_i64]; omega
    generalize zs.getD k 0 = x at hcz hx
    have hin2 : inB x 0 ((n : Int) - 1) = false := by unfold inB; simp; omega
    clear hM hx
    go_wp2_with (go_at_call 41; refine (sIn_any _ _ _ _).mono ?_; rintro e w' ⟨rfl, hw⟩; obtain rfl := hw.symm)
    go_ret2
    exact ⟨_, rfl, resLit0 _ _ (Nat.le_trans hsz1 hsz) _ _, below2 (below2 hb1 hbel) ((Below.refl _ _).alloc (Nat.le_refl _) _)⟩
  ·obtain rfl : k = nr := by omega
   obtain ⟨rfl, rfl⟩ := KY.out HPl.out
   have KM : Hid _ := hM
   clear hM
   go_wp2
   go_ret2
   exact ⟨_, rfl, ResM.mk KM.out hsz1, below2 hb1 hbel⟩
theorem step_append_all {P : Program} (w : World) {ops : Array Oper} {o : Oper} {a : Act} {K : Act → World → Prop} {Q : Exit → Act → World → Prop} {E : Prop} (hgd : o.guard = none) (s x : Operand) (t : TypeId)
  (ho : o.op = .call { callee := .builtin .append, args := #[s, x], argTypes := #[t, t] })
  (base : Nat) (e : TypeId) (i : TypeInfo) (z : Value) (size bytes : Nat) (ht : P.underlying t = some (.slice e)) (hi : P.info? e = some i) (hz : i.zero = some z)
  (hsize : i.size = size) (hby : i.bytes = bytes) (hzs : z.cells.size = size) (hsz : 0 < size)
  (g0 n cap0 : Nat) (xs : List Value) (hs : a.eval s = .slice (some ⟨g0, 0, none⟩) n cap0) (hown : w.ownsRow base e size (.slice (some ⟨g0, 0, none⟩) n cap0) n xs)
  (ad : Addr) (m c : Nat) (news : List Value) (hx : a.eval x = .slice (some ad) m c) (hl : news.length = m * size) (hnews : ∀ j u, news[j]? = some u → w.cell? (ad.add j) = some u) (h1 : ∀ u ∈ news, u.oneCell' = true)
  (h63 : n + m ≤ maxLen) (hbytes : (n + m) * bytes ≤ 140737488355328) (hbase : base ≤ w.heap.size)
  (h : ∀ g cap w', w'.ownsRow base e size (.slice (some ⟨g, 0, none⟩) (n + m) cap) (n + m) (xs ++ news) → w.grownBy w' (some g0) → K (a.put o.dst (.slice (some ⟨g, 0, none⟩) (n + m) cap)) w') :
  if Region.wanted o (yielded ops a.tmps) = true then Oper.wp P o a w K Q else E := by
 have hw : Region.wanted o (yielded ops a.tmps) = true := by simp [Region.wanted, hgd]
 rw [if_pos hw]
 refine wp_append_own w s x t ho base e i z size bytes ht hi hz hsize hby hzs hsz _ n xs hs hown ad m c news hx hl hnews h1 h63 hbytes hbase fun v' w' h2 h3 h4 => ?_
 have hne : v' ≠ .slice none 0 0 := fun e => by have := h4.1 e; cases this.1
 rcases h2.2 with ⟨e, _⟩ | ⟨g, cap, cur, e, _⟩
 ·exact absurd e hne
 ·subst e
  exact h g cap w' h2 h3
theorem nodup_erase {os rs : List Int} {at' : Nat} (h : at' < rs.length) (hn : (os ++ rs).Nodup) : ((os ++ [rs.getD at' 0]) ++ (rs.take at' ++ rs.drop (at' + 1))).Nodup := by
 rw [List.append_assoc]
 refine (List.Perm.nodup_iff ?_).1 hn
 refine List.Perm.append_left os ?_
 have e : rs.getD at' 0 = rs[at'] := by simp [List.getD, h]
 have e2 : rs = rs.take at' ++ rs[at'] :: rs.drop (at' + 1) := by rw [← List.drop_eq_getElem_cons h, List.take_append_drop]
 rw [e]
 refine List.Perm.trans (List.Perm.of_eq e2) ?_
 exact List.perm_middle
theorem mem_erase {os rs : List Int} {at' : Nat} (h : at' < rs.length) {p : Int → Prop} (hp : ∀ x ∈ os ++ rs, p x) : ∀ x ∈ (os ++ [rs.getD at' 0]) ++ (rs.take at' ++ rs.drop (at' + 1)), p x := by
 intro x hx
 refine hp x ?_
 have e : rs.getD at' 0 = rs[at'] := by simp [List.getD, h]
 simp only [List.mem_append, List.mem_singleton, e] at hx ⊢
 rcases hx with (hx | rfl) | (hx | hx)
 ·exact .inl hx
 ·exact .inr (List.getElem_mem h)
 ·exact .inr (List.mem_of_mem_take hx)
 ·exact .inr (List.mem_of_mem_drop hx)
theorem own_cell {w : World} {B g m c j : Nat} {rs : List Int} (h : w.ownsRow B 3 1 (.slice (some ⟨g, 0, none⟩) m c) m (rs.map (Value.int .i64))) (hj : j < m) : w.cell? ⟨g, j, none⟩ = some (.int .i64 (rs.getD j 0)) := by
 have hl : rs.length = m := by simpa using h.1
 rw [h.cellAt j (by omega)]
 have hj' : j < rs.length := by omega
 simp [List.getD, hj']
theorem news_own {w : World} {B g m c off len : Nat} {rs : List Int} (h : w.ownsRow B 3 1 (.slice (some ⟨g, 0, none⟩) m c) m (rs.map (Value.int .i64))) (hm : off + len ≤ m) : ∀ j u, (((rs.drop off).take len).map (Value.int .i64))[j]? = some u → w.cell? ((⟨g, off, none⟩ : Addr).add j) = some u := fun j u hu => by
 have hl : rs.length = m := by simpa using h.1
 have hj : j < len := by
  by_cases hh : j < len
  ·exact hh
  ·rw [List.getElem?_eq_none (by simp; omega)] at hu; cases hu
 have ea : (⟨g, off, none⟩ : Addr).add j = ⟨g, off + j, none⟩ := by unfold Addr.add; split <;> simp_all
 rw [ea, own_cell h (by omega)]
 have hj' : off + j < rs.length := by omega
 simp [hj, List.getElem?_drop, hj'] at hu
 simp [List.getD, hj', hu]
theorem grownBy_below' {a b : World} {g : Nat} (h : Below a.heap.size a b) : a.grownBy b (some g) := grownBy_below h
set_option maxRecDepth 100000 in
theorem places_any (g cn cap : Nat) (a : Option Addr) (k n : Nat) (w : World) (hc : Cur w g a cn cap) (hab : Under a cn g) (hk : k ≤ n) (hn : n ≤ 256) :
  Calls Tryz.prog 22 #[.pointer (some ⟨g, 0, none⟩), .int .i64 (k : Int), .int .i64 (n : Int)] w fun e w' => ∃ G c zs, e = .returned (.slice (some ⟨G, 0, none⟩) k c) ∧ w.heap.size ≤ G ∧ w'.ownsRow w.heap.size 3 1 (.slice (some ⟨G, 0, none⟩) k c) k ((zs : List Int).map (Value.int .i64)) ∧ zs.Nodup ∧ (∀ x ∈ zs, 0 ≤ x ∧ x < (n : Int)) ∧ w.grownBy w' (some g) ∧ Cur w' g a cn cap := by
 obtain ⟨i0, hi, hz0, hz1, hz2⟩ := info_parts Tryz.infoInt
 have hgl := hc.lt
 have H0 : Hid (OwnR (w.alloc (.cells #[] 3)) w.heap.size w.heap.size 0 0 id) := lit0 w id
 have KC : Hid (Cur w g a cn cap) := hc
 clear hc
 go_enter Tryz.func22, Tryz.ntmps22
 go_wp2
 go_loopw [7, 8] (fun v i wr => ∃ q gr cr, q ≤ n ∧ i = .int .i64 ((q : Nat) : Int) ∧ v = .slice (some ⟨gr, 0, none⟩) q cr ∧ OwnR wr w.heap.size gr q cr id ∧ Below w.heap.size w wr) (fun _ i _ => n - (intOf i).toNat)
 case atStart => exact ⟨0, _, _, Nat.zero_le _, rfl, rfl, H0.out, (Below.refl _ _).alloc (Nat.le_refl _) _⟩
 case round =>
  obtain ⟨q, gr, cr, hq, rfl, rfl, hown, hbel⟩ := hrel
  clear H0
  by_cases hlt : q < n
  ·have hqi : (q : Int) < (n : Int) := by omega
   have hsz := hbel.size
   have hgr := hown.lt.1
   go_wp2_with (at_builtin; refine wpList_append_lies _ (by rfl) _ _ 25 (by rfl) w.heap.size 3 i0 (.int .i64 0) 1 8 Tryz.underlying25 hi hz0 hz1 hz2 rfl (by decide) (.slice (some ⟨gr, 0, none⟩) q cr) q _ (by rfl) (World.ownsRow.alloc hown _) ⟨wr.heap.size, 0, none⟩ 1 1 [.int .i64 (q : Int)] (by rfl) (by rfl) (World.news_of_block (cs := #[.int .i64 (q : Int)]) (t := 3) (fr := (0, 0)) (heap_alloc_new wr _)) (by simp [Value.oneCell']) (by omega) (by unfold maxLen; omega) (by omega) (by simp; omega) (wr.heap.size + 1) (by simp) ?_; intro g2 cap3 w2 hown2 hgrow hat hltg)
   have HO : Hid (OwnR w2 w.heap.size g2 (q + 1) cap3 id) := OwnR.snoc hown2
   have hb' : Below w.heap.size w w2 := (hbel.alloc hsz _).grown (show World.grownBy _ w2 (some gr) from hgrow) (by simp; omega) (fun j hj => by cases hj; exact hgr)
   clear hown2 hgrow hat hltg hown
   go_roundw
   case rel => exact ⟨q + 1, g2, cap3, by omega, by go_num, rfl, HO.out, hb'⟩
   case measure => simp [intOf] <;> omega
  ·obtain rfl : q = n := by omega
   have hqi : ¬ (q : Int) < (q : Int) := by omega
   have hsz := hbel.size
   have hgrl := hown.lt
   have hba : Below wr.heap.size wr (wr.alloc (.cells #[] 3)) := (Below.refl _ _).alloc (Nat.le_refl _) _
   have K1 : Hid ((wr.alloc (.cells #[] 3)).ownsRow w.heap.size 3 1 (.slice (some ⟨gr, 0, none⟩) q cr) q ((eI id q).map (Value.int .i64))) := ownsRow_below hown hba
   have K2 : Hid ((wr.alloc (.cells #[] 3)).ownsRow w.heap.size 3 1 (.slice (some ⟨wr.heap.size, 0, none⟩) 0 0) 0 (([] : List Int).map (Value.int .i64))) := World.ownsRow_lit wr #[] 0 hsz (by unfold maxLen; omega) rfl
   have K3 : Hid ((([] : List Int) ++ eI id q).Nodup ∧ ∀ x ∈ ([] : List Int) ++ eI id q, 0 ≤ x ∧ x < (q : Int)) := by
    refine ⟨?_, fun x hx => ?_⟩
    ·rw [List.nil_append]
     unfold eI
     rw [List.nodup_iff_pairwise_ne, List.pairwise_map]
     refine List.Pairwise.imp ?_ List.nodup_range
     intro a b hab e
     have e' : ((a : Nat) : Int) = ((b : Nat) : Int) := e
     omega
    ·rw [List.nil_append] at hx
     unfold eI at hx
     simp at hx
     obtain ⟨y, hy, rfl⟩ := hx
     omega
   have K4 : Hid (w.grownBy (wr.alloc (.cells #[] 3)) (some g)) := grownBy_trans (grownBy_below' hbel) (World.grownBy_alloc _ _ _)
   have K5 : Hid (Cur (wr.alloc (.cells #[] 3)) g a cn cap) := (KC.out.kept (row := none) ⟨hbel.os, hbel.tape, hbel.output, hbel.size, fun j hj _ => hbel.block j hj⟩ (by simp) (by simp)).alloc _
   clear hown hbel KC hba
   go_wp2
   go_loopw [7, 9, 10] (fun v7 v9 v10 wr => ∃ (i m gr cr go co : Nat) (rs os : List Int), i ≤ k ∧ i + m = q ∧ v7 = .slice (some ⟨gr, 0, none⟩) m cr ∧ v9 = .slice (some ⟨go, 0, none⟩) i co ∧ v10 = .int .i64 ((i : Nat) : Int) ∧ wr.ownsRow w.heap.size 3 1 (.slice (some ⟨gr, 0, none⟩) m cr) m (rs.map (Value.int .i64)) ∧ wr.ownsRow w.heap.size 3 1 (.slice (some ⟨go, 0, none⟩) i co) i (os.map (Value.int .i64)) ∧ gr ≠ go ∧ Hid ((os ++ rs).Nodup ∧ ∀ x ∈ os ++ rs, 0 ≤ x ∧ x < (q : Int)) ∧ w.grownBy wr (some g) ∧ Cur wr g a cn cap) (fun _ _ v _ => k - (intOf v).toNat)
   case atStart => exact ⟨0, q, gr, cr, _, _, eI id q, [], Nat.zero_le _, by omega, rfl, rfl, rfl, K1.out, K2.out, by omega, K3.out, K4.out, K5.out⟩
   case round =>
    obtain ⟨i, m, gr, cr, go, co, rs, os, hik, him, rfl, rfl, rfl, ho1, ho2, hne, HN, hgr, hcr⟩ := hrel
    clear K1 K2 K3 K4 K5
    by_cases hik2 : i < k
    ·have hiki : (i : Int) < (k : Int) := by omega
     have hg1l := ho1.lt gr rfl
     have hg2l := ho2.lt go rfl
     have hlen : rs.length = m := by simpa using ho1.1
     have KLN : Hid (rs.length = m) := hlen
     clear hlen
     go_wp2_with fail
     refine (belowN_any g cn cap a _ _ hcr).mono ?_
     rintro e w1 ⟨x, x0, x1, _, rfl, hg1, hc1⟩
     have x2 := x1 (by omega)
     obtain ⟨at', rfl⟩ := Int.eq_ofNat_of_zero_le x0
     have hat : at' < m := by omega
     have hati : (at' : Int) < (m : Int) := by omega
     have ho1' := ho1.kept hg1 (.inr (by simp [Value.ownBlock]; omega))
     have ho2' := ho2.kept hg1 (.inr (by simp [Value.ownBlock]; omega))
     have hg01 := grownBy_trans hgr hg1
     have hs1 := hg1.size
     have hcell := own_cell ho1' hat
     have HN2 : Hid (((os ++ [rs.getD at' 0]) ++ (rs.take at' ++ rs.drop (at' + 1))).Nodup ∧ ∀ x ∈ (os ++ [rs.getD at' 0]) ++ (rs.take at' ++ rs.drop (at' + 1)), 0 ≤ x ∧ x < (q : Int)) := ⟨nodup_erase (by rw [KLN.out]; exact hat) HN.out.1, mem_erase (by rw [KLN.out]; exact hat) HN.out.2⟩
     have hcapr := owns_cap ho1'
     generalize rs.getD at' 0 = V at hcell HN2
     clear ho1 ho2 hcr x1 hg1 hgr HN
     go_wp2_with (at_builtin; refine wpList_append_lies _ (by rfl) _ _ 25 (by rfl) w.heap.size 3 i0 (.int .i64 0) 1 8 Tryz.underlying25 hi hz0 hz1 hz2 rfl (by decide) (.slice (some ⟨go, 0, none⟩) i co) i _ (by rfl) (World.ownsRow.alloc ho2' _) ⟨w1.heap.size, 0, none⟩ 1 1 [.int .i64 V] (by rfl) (by rfl) (World.news_of_block (cs := #[.int .i64 V]) (t := 3) (fr := (0, 0)) (heap_alloc_new w1 _)) (by simp [Value.oneCell']) (by omega) (by unfold maxLen; omega) (by omega) (by simp; omega) (w1.heap.size + 1) (by simp) ?_; intro g2 cap3 w2 hown2 hgrow hat2 hltg)
     have hgrow' : (w1.alloc (.cells #[.int .i64 V] 3)).grownBy w2 (some go) := hgrow
     have ho1w : w2.ownsRow w.heap.size 3 1 (.slice (some ⟨gr, 0, none⟩) m cr) m (rs.map (Value.int .i64)) := (World.ownsRow.alloc ho1' _).kept hgrow' (.inr (by simp [Value.ownBlock]; omega))
     have HO2 : Hid (w2.ownsRow w.heap.size 3 1 (.slice (some ⟨g2, 0, none⟩) (i + 1) cap3) (i + 1) ((os ++ [V]).map (Value.int .i64))) := by rw [List.map_append]; exact hown2
     have hg02 : w.grownBy w2 (some g) := grown_new (grownBy_trans hg01 (World.grownBy_alloc w1 _ _)) hgrow' hg2l.1
     have hc2 : Cur w2 g a cn cap := (hc1.alloc _).far hgrow' (by omega) hab
     have hs2 := hg02.size
     have hb2 : Below w2.heap.size w2 (w2.drew.alloc (.cells #[] 3)) := ((Below.refl _ _).drew).alloc (Nat.le_refl _) _
     have KR : Hid ((w2.drew.alloc (.cells #[] 3)).ownsRow w2.heap.size 3 1 (.slice (some ⟨w2.heap.size, 0, none⟩) 0 0) 0 (([] : List Int).map (Value.int .i64))) := World.ownsRow_lit w2.drew #[] 0 (Nat.le_refl _) (by unfold maxLen; omega) rfl
     have KN1 : Hid _ := news_below (news_own (off := 0) (len := at') ho1w (by omega)) hb2
     have hl1 : ((((rs.drop 0).take at')).map (Value.int .i64)).length = at' * 1 := by simp [KLN.out]; omega
     have KO1 : Hid _ := one_ints ((rs.drop 0).take at')
     have KN2' := news_own (off := at' + 1) (len := m - (at' + 1)) ho1w (by omega)
     have hgrw := (ho1w.lt gr rfl).2
     have KN2 : Hid (∀ (W : World) (b : Nat), Below w2.heap.size w2 W → ∀ j u, (((rs.drop (at' + 1)).take (m - (at' + 1))).map (Value.int .i64))[j]? = some u → W.cell? ((⟨gr, at' + 1, none⟩ : Addr).add j) = some u) := fun W _ hW => news_below KN2' hW
     have hl2 : (((rs.drop (at' + 1)).take (m - (at' + 1))).map (Value.int .i64)).length = (m - (at' + 1)) * 1 := by simp [KLN.out]
     have KO2 : Hid _ := one_ints ((rs.drop (at' + 1)).take (m - (at' + 1)))
     have HX : Hid ((rs.drop 0).take at' ++ (rs.drop (at' + 1)).take (m - (at' + 1)) = rs.take at' ++ rs.drop (at' + 1)) := by
      show _ = _
      rw [List.drop_zero, List.take_of_length_le (l := rs.drop (at' + 1)) (by simp [KLN.out])]
     obtain ⟨y1, hx1⟩ : ∃ y1, (rs.drop 0).take at' = y1 := ⟨_, rfl⟩
     obtain ⟨y2, hx2⟩ : ∃ y2, (rs.drop (at' + 1)).take (m - (at' + 1)) = y2 := ⟨_, rfl⟩
     rw [hx1] at KN1 hl1 KO1 HX
     rw [hx2] at KN2 hl2 KO2 HX
     have hg2n : g2 < w2.heap.size := hltg
     have hcri : (at' : Int) ≤ (cr : Int) := by omega
     clear hx1 hx2 KN2' hown2 hgrow hat2 hltg ho1' ho2' ho1w hgrow' hg01 hc1 hcell
     have hw1 : IntKind.i64.wrap ((at' : Int) + 1) = (at' : Int) + 1 := by rw [IntKind.wrap_i64]; omega
     have h01 : (0 : Int) ≤ (at' : Int) + 1 := by omega
     have h02 : (at' : Int) + 1 ≤ (m : Int) := by omega
     by_cases htail : at' + 1 < m
     ·have hcs : ¬ (cr = at' + 1) := by omega
      go_wp2_with fail
      go_region_law ((first | (guard_hyp KR; refine step_append_all _ (by rfl) _ _ _ (by rfl) w2.heap.size 3 i0 _ 1 8 Tryz.underlying25 hi hz0 hz1 hz2 rfl (by omega) w2.heap.size 0 0 _ (by rfl) KR.out ⟨gr, 0, none⟩ at' _ (y1.map (Value.int .i64)) (by rfl) hl1 KN1.out KO1.out (by unfold maxLen; omega) (by omega) (by simp) ?_; intro g5 cap5 w5 hown5 hgrow5; have hb5 : Below w2.heap.size w2 w5 := hb2.grown hgrow5 (by simp) (fun j hj => (by cases hj; exact Nat.le_refl _)); have hsz5 := hb5.size; have KO5 : Hid (w5.ownsRow w2.heap.size 3 1 (.slice (some ⟨g5, 0, none⟩) at' cap5) at' (y1.map (Value.int .i64))) := (by rw [Nat.zero_add] at hown5; exact hown5); clear KR hown5 hgrow5) | (guard_hyp KO5; refine step_append_all _ (by rfl) _ _ _ (by rfl) w2.heap.size 3 i0 _ 1 8 Tryz.underlying25 hi hz0 hz1 hz2 rfl (by omega) g5 at' cap5 _ (by rfl) KO5.out ⟨gr, at' + 1, none⟩ (m - (at' + 1)) (cr - (at' + 1)) (y2.map (Value.int .i64)) (by rfl) hl2 (KN2.out _ 0 hb5) KO2.out (by unfold maxLen; omega) (by omega) (by omega) ?_; intro g6 cap6 w6 hown6 hgrow6; have hg5B := (KO5.out.lt g5 rfl).1; have hb6 : Below w2.heap.size w2 w6 := hb5.grown hgrow6 (by omega) (fun j hj => (by cases hj; exact hg5B)); have hsz6 := hb6.size)))
      all_goals
       have hg6B := (hown6.lt g6 rfl).1
       have HO1 : Hid (w6.ownsRow w.heap.size 3 1 (.slice (some ⟨g6, 0, none⟩) (m - 1) cap6) (m - 1) ((rs.take at' ++ rs.drop (at' + 1)).map (Value.int .i64))) := by
        have hh := own_base hown6 hs2
        rw [← List.map_append, HX.out, show at' + (m - (at' + 1)) = m - 1 by omega] at hh
        exact hh
       have HO3 : Hid (w6.ownsRow w.heap.size 3 1 (.slice (some ⟨g2, 0, none⟩) (i + 1) cap3) (i + 1) ((os ++ [V]).map (Value.int .i64))) := ownsRow_below HO2.out hb6
       have HG6 : Hid (w.grownBy w6 (some g)) := grownBy_trans hg02 (grownBy_below hb6)
       have HC6 : Hid (Cur w6 g a cn cap) := hc2.kept (row := none) ⟨hb6.os, hb6.tape, hb6.output, hb6.size, fun j hj _ => hb6.block j hj⟩ (by simp) (by simp)
       have hml : at' + (m - (at' + 1)) = m - 1 := by omega
       clear hown6 hgrow6 KO5 hb5 hb6 HO2 hg02 hc2 KN1 KN2 hb2
       rw [hml]
       go_wp2
       go_roundw
       case rel => exact ⟨i + 1, m - 1, g6, cap6, g2, cap3, _, _, by omega, by omega, rfl, rfl, by go_num, HO1.out, HO3.out, by omega, HN2.out, HG6.out, HC6.out⟩
       case measure => simp [intOf] <;> omega
     ·obtain rfl : m = at' + 1 := by omega
      have HX2 : Hid (y2 = []) := by
       show _ = _
       have h2 := hl2
       simpa using h2
      have h03 : (at' : Int) ≤ (at' : Int) + 1 := by omega
      clear hl2
      by_cases hcs : cr = at' + 1
      case pos =>
       subst hcs
       go_wp2_with fail
       go_region_law ((first | (guard_hyp KR; refine step_append_all _ (by rfl) _ _ _ (by rfl) w2.heap.size 3 i0 _ 1 8 Tryz.underlying25 hi hz0 hz1 hz2 rfl (by omega) w2.heap.size 0 0 _ (by rfl) KR.out ⟨gr, 0, none⟩ at' _ (y1.map (Value.int .i64)) (by rfl) hl1 KN1.out KO1.out (by unfold maxLen; omega) (by omega) (by simp) ?_; intro g5 cap5 w5 hown5 hgrow5; have hb5 : Below w2.heap.size w2 w5 := hb2.grown hgrow5 (by simp) (fun j hj => (by cases hj; exact Nat.le_refl _)); have hsz5 := hb5.size; have KO5 : Hid (w5.ownsRow w2.heap.size 3 1 (.slice (some ⟨g5, 0, none⟩) at' cap5) at' (y1.map (Value.int .i64))) := (by rw [Nat.zero_add] at hown5; exact hown5); clear KR hown5 hgrow5) | (guard_hyp KO5; refine step_append_all _ (by rfl) _ _ _ (by rfl) w2.heap.size 3 i0 _ 1 8 Tryz.underlying25 hi hz0 hz1 hz2 rfl (by omega) g5 at' cap5 _ (by rfl) KO5.out _ 0 _ [] (by rfl) (by rfl) (fun j u hu => (by simp at hu)) (fun u hu => (by simp at hu)) (by unfold maxLen; omega) (by omega) (by omega) ?_; intro g6 cap6 w6 hown6 hgrow6; have hg5B := (KO5.out.lt g5 rfl).1; have hb6 : Below w2.heap.size w2 w6 := hb5.grown hgrow6 (by omega) (fun j hj => (by cases hj; exact hg5B)); have hsz6 := hb6.size)))
       all_goals
        have hg6B := (hown6.lt g6 rfl).1
        have HO1 : Hid (w6.ownsRow w.heap.size 3 1 (.slice (some ⟨g6, 0, none⟩) at' cap6) at' ((rs.take at' ++ rs.drop (at' + 1)).map (Value.int .i64))) := by
         have hh := own_base hown6 hs2
         rw [← HX.out, HX2.out, List.append_nil]
         rw [List.append_nil, Nat.add_zero] at hh
         exact hh
        have HO3 : Hid (w6.ownsRow w.heap.size 3 1 (.slice (some ⟨g2, 0, none⟩) (i + 1) cap3) (i + 1) ((os ++ [V]).map (Value.int .i64))) := ownsRow_below HO2.out hb6
        have HG6 : Hid (w.grownBy w6 (some g)) := grownBy_trans hg02 (grownBy_below hb6)
        have HC6 : Hid (Cur w6 g a cn cap) := hc2.kept (row := none) ⟨hb6.os, hb6.tape, hb6.output, hb6.size, fun j hj _ => hb6.block j hj⟩ (by simp) (by simp)
        clear hown6 hgrow6 KO5 hb5 hb6 HO2 hg02 hc2 KN1 KN2 hb2
        go_wp2
        go_roundw
        case rel => exact ⟨i + 1, at', g6, cap6, g2, cap3, _, _, by omega, by omega, rfl, rfl, by go_num, HO1.out, HO3.out, by omega, HN2.out, HG6.out, HC6.out⟩
        case measure => simp [intOf] <;> omega
      go_wp2_with fail
      go_region_law ((first | (guard_hyp KR; refine step_append_all _ (by rfl) _ _ _ (by rfl) w2.heap.size 3 i0 _ 1 8 Tryz.underlying25 hi hz0 hz1 hz2 rfl (by omega) w2.heap.size 0 0 _ (by rfl) KR.out ⟨gr, 0, none⟩ at' _ (y1.map (Value.int .i64)) (by rfl) hl1 KN1.out KO1.out (by unfold maxLen; omega) (by omega) (by simp) ?_; intro g5 cap5 w5 hown5 hgrow5; have hb5 : Below w2.heap.size w2 w5 := hb2.grown hgrow5 (by simp) (fun j hj => (by cases hj; exact Nat.le_refl _)); have hsz5 := hb5.size; have KO5 : Hid (w5.ownsRow w2.heap.size 3 1 (.slice (some ⟨g5, 0, none⟩) at' cap5) at' (y1.map (Value.int .i64))) := (by rw [Nat.zero_add] at hown5; exact hown5); clear KR hown5 hgrow5) | (guard_hyp KO5; refine step_append_all _ (by rfl) _ _ _ (by rfl) w2.heap.size 3 i0 _ 1 8 Tryz.underlying25 hi hz0 hz1 hz2 rfl (by omega) g5 at' cap5 _ (by rfl) KO5.out _ 0 _ [] (by rfl) (by rfl) (fun j u hu => (by simp at hu)) (fun u hu => (by simp at hu)) (by unfold maxLen; omega) (by omega) (by omega) ?_; intro g6 cap6 w6 hown6 hgrow6; have hg5B := (KO5.out.lt g5 rfl).1; have hb6 : Below w2.heap.size w2 w6 := hb5.grown hgrow6 (by omega) (fun j hj => (by cases hj; exact hg5B)); have hsz6 := hb6.size)))
      all_goals
       have hg6B := (hown6.lt g6 rfl).1
       have HO1 : Hid (w6.ownsRow w.heap.size 3 1 (.slice (some ⟨g6, 0, none⟩) at' cap6) at' ((rs.take at' ++ rs.drop (at' + 1)).map (Value.int .i64))) := by
        have hh := own_base hown6 hs2
        rw [← HX.out, HX2.out, List.append_nil]
        rw [List.append_nil, Nat.add_zero] at hh
        exact hh
       have HO3 : Hid (w6.ownsRow w.heap.size 3 1 (.slice (some ⟨g2, 0, none⟩) (i + 1) cap3) (i + 1) ((os ++ [V]).map (Value.int .i64))) := ownsRow_below HO2.out hb6
       have HG6 : Hid (w.grownBy w6 (some g)) := grownBy_trans hg02 (grownBy_below hb6)
       have HC6 : Hid (Cur w6 g a cn cap) := hc2.kept (row := none) ⟨hb6.os, hb6.tape, hb6.output, hb6.size, fun j hj _ => hb6.block j hj⟩ (by simp) (by simp)
       clear hown6 hgrow6 KO5 hb5 hb6 HO2 hg02 hc2 KN1 KN2 hb2
       go_wp2
       go_roundw
       case rel => exact ⟨i + 1, at', g6, cap6, g2, cap3, _, _, by omega, by omega, rfl, rfl, by go_num, HO1.out, HO3.out, by omega, HN2.out, HG6.out, HC6.out⟩
       case measure => simp [intOf] <;> omega
    ·obtain rfl : i = k := by omega
     have hiki : ¬ (i : Int) < (i : Int) := by omega
     have hlt2 := (ho2.lt go rfl).1
     have HO : Hid _ := And.intro ho2 (And.intro hgr hcr)
     clear ho1 ho2 hgr hcr
     go_wp2
     go_ret
     exact ⟨go, co, rfl, hlt2, os, HO.out.1, (List.nodup_append.1 HN.out.1).1, fun x hx => HN.out.2 x (List.mem_append_left _ hx), HO.out.2.1, HO.out.2.2⟩
theorem nodup_ne {zs : List Int} (h : zs.Nodup) {i j : Nat} (hi : i < zs.length) (hj : j < zs.length) (hne : i ≠ j) : zs.getD i 0 ≠ zs.getD j 0 := by
 have hp := List.pairwise_iff_getElem.1 (List.nodup_iff_pairwise_ne.1 h)
 have e1 : zs.getD i 0 = zs[i] := by simp [List.getD, hi]
 have e2 : zs.getD j 0 = zs[j] := by simp [List.getD, hj]
 rw [e1, e2]
 rcases Nat.lt_or_gt_of_ne hne with h' | h'
 ·exact hp i j hi hj h'
 ·exact (hp j i hj hi h').symm
def Diff (n : Nat) (zs : List Int) : Prop := zs.Nodup ∧ ∀ x ∈ zs, 0 ≤ x ∧ x < (n : Int)
theorem Diff.at {n : Nat} {zs : List Int} (h : Diff n zs) {i : Nat} (hi : i < zs.length) : 0 ≤ zs.getD i 0 ∧ zs.getD i 0 < (n : Int) := by
 have e1 : zs.getD i 0 = zs[i] := by simp [List.getD, hi]
 rw [e1]
 exact h.2 _ (List.getElem_mem hi)
theorem Diff.ne {n : Nat} {zs : List Int} (h : Diff n zs) {i j : Nat} (hi : i < zs.length) (hj : j < zs.length) (hne : i ≠ j) : (zs.getD i 0).toNat ≠ (zs.getD j 0).toNat := by
 have h1 := nodup_ne h.1 hi hj hne
 have h2 := h.at hi
 have h3 := h.at hj
 omega
theorem pick_rk {n k : Nat} {zs : List Int} (h : Diff n zs) (hl : zs.length = k) (hn : n ≤ 256) (hkn : k ≤ n) : Gm.rk (fun t j => Gm.sprd k ((zs.getD t 0).toNat) j) k k = k := by
 refine Gm.spread_rk (p := fun t => (zs.getD t 0).toNat) (by omega) (fun t => ?_) (fun i j hi hj hne => h.ne (by omega) (by omega) hne)
 by_cases ht : t < zs.length
 ·have := h.at ht
  show (zs.getD t 0).toNat < 256
  omega
 ·show (zs.getD t 0).toNat < 256
  rw [show zs.getD t 0 = 0 by simp [List.getD, ht]]
  decide
end Go.Proofs.YtodnodekheaacaaGreatDoor
