import Derived.Test.YtodnodekheaacaaGreatDoorG29
import Derived.Test.YtodnodekheaacaaGreatDoorG27
import Derived.Test.YtodnodekheaacaaGreatDoorG28
import Derived.Test.YtodnodekheaacaaGreatDoorG30
set_option maxHeartbeats 8000000
set_option maxRecDepth 2000
open Go.ChangeShapes Go.WideShapes Go.ChangeAt Go.RowKit
namespace Go.Proofs.YtodnodekheaacaaGreatDoor
theorem zL_snoc1 (f : Nat → Int) (n : Nat) : zL f (n + 1) = zL f n ++ [Value.int .i64 (f n)] := by unfold zL; rw [List.range_succ, List.map_append]; rfl
theorem all_bd {k N : Nat} {S : Nat → ByteArray} (h : KnP k N) (hb : 1 ≤ (S 0).size ∧ (S 0).size ≤ 100) : AllP k N (bdS (k : Int) (N : Int) (eI (fun i => i) k) S) :=
 ⟨h, fun i _ => by rw [bdS, bod_size]; exact hb⟩
theorem lie07_any (g n cap : Nat) (a : Option Addr) (w : World) (hc : Cur w g a n cap) (hab : Under a n g) :
  Calls Tryz.prog 21 #[.pointer (some ⟨g, 0, none⟩)] w fun e w' => ∃ (k N : Nat) (S : Nat → ByteArray) (v : Value), AllP k N S ∧ e = .returned v ∧ ResP w w' v N (cutP (k : Int) N S) ∧ w.grownBy w' (some g) ∧ Cur w' g a n cap := by
 have hgl := hc.lt
 go_enter Tryz.func21, Tryz.ntmps21
 go_wp2_with fail
 refine (kn07_any g n cap a _ hc).mono ?_
 rintro e w1 ⟨k, N, hk, rfl, hg1, hc1⟩
 have HK : Hid (KnP k N) := hk
 clear hk hc
 go_wp2_with fail
 refine (belowN_any g n cap a _ _ hc1).mono ?_
 rintro e w2 ⟨x, x0, x1, _, rfl, hg2, hc2⟩
 have x2 := x1 (by omega)
 obtain ⟨X, rfl⟩ := Int.eq_ofNat_of_zero_le x0
 have HX : Hid (X < 16) := by show X < 16; omega
 have hg12 := grownBy_trans hg1 hg2
 have KB : Hid _ := bytes_any g n cap a X w2 hc2 hab (by omega)
 clear x0 x1 x2 hg1 hg2
 go_wp2_with fail
 refine Calls.mono KB.out ?_
 rintro e w3 ⟨s, hs, rfl, hg3, hc3⟩
 have HS : Hid (s.size < 16) := by have := HX.out; show s.size < 16; omega
 have hg13 := grownBy_trans hg12 hg3
 have HOK : Hid (encOk s (k : Int) (N : Int) = true) := by
  have h1 := HK.out
  have h2 := HS.out
  show _ = _
  unfold encOk
  rw [Bool.and_eq_true]
  exact ⟨decide_eq_true (by omega), sprOk_of (by unfold KnP at h1; omega) (by unfold KnP at h1; omega) (by unfold KnP at h1; omega)⟩
 have KC : Hid (Calls Tryz.prog 50 #[.string s, .int .i64 (k : Int), .int .i64 (N : Int)] w3 fun e w' => ∃ v, e = .returned (.tuple #[v, .bool true]) ∧ ResT w3 w' v N (encS s k) ∧ Below w3.heap.size w3 w') := by
  have := sEncode_any s (k : Int) (N : Int) w3 (by have := HS.out; omega)
  unfold encR at this
  rw [HOK.out, if_pos rfl, Int.toNat_natCast, Int.toNat_natCast] at this
  exact this
 have HSZ : Hid (w.heap.size ≤ w3.heap.size) := hg13.size
 have HG : Hid (w.grownBy w3 (some g)) := hg13
 have HA : Hid (AllP k N (encS s k)) := all_enc HK.out HS.out
 have HE : Hid (∀ i, (encS s k i).size = (encS s k 0).size) := fun i => by rw [encS_size, encS_size]
 have HL20 : Hid (∀ i, (encS s k i).size ≤ 20) := fun i => by
  rw [encS_size]
  have h1 := HK.out
  have h2 := blen_le (s := s.size) (k := k) (by unfold KnP at h1; omega)
  have h3 := HS.out
  omega
 generalize encS s k = S0 at KC HA HE HL20
 clear hs hg12 hg3 hg13 KB hc1 hc2
 go_wp2_with fail
 refine Calls.mono KC.out ?_
 rintro e w4 ⟨v, rfl, ⟨a4, c4, rfl, hO⟩, hb4⟩
 have hN4 := HK.out
 obtain ⟨G, rfl⟩ : ∃ G, a4 = some ⟨G, 0, none⟩ := by
  rcases hO.2 with ⟨_, e⟩ | ⟨g', c', cu, e, _⟩
  ·unfold KnP at hN4; omega
  ·cases e; exact ⟨_, rfl⟩
 have HO4 : Hid (OwnT w4 w.heap.size (some ⟨G, 0, none⟩) N c4 S0) := OwnT.base hO HSZ.out
 have HG4 : Hid (w.grownBy w4 (some g)) := grownBy_trans HG.out (grownB g hb4)
 have hc4 : Cur w4 g a n cap := curBelow hc3 hb4
 have HNk : Hid (1 ≤ N ∧ N ≤ 7 ∧ 1 ≤ k ∧ k ≤ N) := by unfold KnP at hN4; exact ⟨by omega, by omega, by omega, by omega⟩
 clear hO hb4 KC hc3 hN4 HG HSZ HOK
 go_wp2_with fail
 refine (belowN_any g n cap a _ _ hc4).mono ?_
 rintro e w5 ⟨y, y0, y1, _, rfl, hg5, hc5⟩
 have y2 := y1 (by have := HNk.out; omega)
 obtain ⟨i, rfl⟩ := Int.eq_ofNat_of_zero_le y0
 have HI : Hid (i < N) := by show i < N; omega
 clear y0 y1 y2
 go_wp2_with fail
 refine (belowN_any g n cap a _ _ hc5).mono ?_
 rintro e w6 ⟨t, t0, _, _, rfl, hg6, hc6⟩
 have lG := World.ownsRow.lt HO4.out G rfl
 have HO6 : Hid (OwnT w6 w.heap.size (some ⟨G, 0, none⟩) N c4 S0) := OwnT.keptG (OwnT.keptG HO4.out hg5 hgl) hg6 hgl
 have HG6 : Hid (w.grownBy w6 (some g)) := grownBy_trans (grownBy_trans HG4.out hg5) hg6
 have HGl : Hid (w.heap.size ≤ G) := lG.1
 clear hg5 hg6 hc4 hc5 HO4 HG4 lG
 have KALL : Hid (∀ (W : World) (b : Option Addr) (cc : Nat) (T : Nat → ByteArray), TxtAt W b N T → AllP k N T → w.grownBy W (some g) → Cur W g a n cap → Calls Tryz.prog 52 #[.slice b N cc, .int .i64 (k : Int), .int .i64 (N : Int)] W fun e w' => ∃ v, e = .returned v ∧ ResP w w' v N (cutP (k : Int) N T) ∧ w.grownBy w' (some g) ∧ Cur w' g a n cap) := fun W b cc T hT hAT hGW hCW => by
  refine Calls.mono (sAll_any (k : Int) b N cc T W hT (by have := HNk.out; omega) (fun i hi => by have := (hAT.b i hi).2; omega)) ?_
  rintro e w' ⟨v, rfl, ⟨g7, c7, A7, C7, rfl, hO7⟩, hb7⟩
  exact ⟨_, rfl, ⟨g7, c7, A7, C7, rfl, hO7.base hGW.size⟩, grownBy_trans hGW (grownB g hb7), curBelow hCW hb7⟩
 by_cases e0 : t = 0
 ·subst e0
  have hi := HI.out
  have hii : (i : Int) < (N : Int) := by omega
  have q1 : w6.cell? ⟨G, i, none⟩ = some (.string (S0 i)) := by rw [World.ownsRow.cellAt HO6.out i (by omega)]; exact sL_get _ _ _ hi
  obtain ⟨z, HZ⟩ : ∃ z, Hid (S0 i = z) := ⟨_, rfl⟩
  rw [HZ.out] at q1
  have HZ1 : Hid (1 ≤ z.size ∧ z.size ≤ 100) := by have := HA.out.b i hi; rw [HZ.out] at this; exact this
  have KB : Hid _ := bytes_any g n cap a z.size w6 hc6 hab (by have := HZ1.out; omega)
  go_wp2_with fail
  refine Calls.mono KB.out ?_
  rintro e w7 ⟨u, hu, rfl, hg7, hc7⟩
  have HO7 : Hid (OwnT w7 w.heap.size (some ⟨G, 0, none⟩) N c4 S0) := OwnT.keptG HO6.out hg7 hgl
  have hst := World.ownsRow.stored HO7.out i (.string u)
  rw [sL_set _ _ _ _ hi] at hst
  have q2 : w7.cell? ⟨G, i, none⟩ = some (.string z) := by rw [World.ownsRow.cellAt HO7.out i (by omega), ← HZ.out]; exact sL_get _ _ _ hi
  have q3 := World.ownsRow.frozenAt HO7.out i
  obtain ⟨w8, HW8⟩ : ∃ x, Hid (x = w7.setCell ⟨G, i, none⟩ (.string u)) := ⟨_, rfl⟩
  rw [← HW8.out] at hst
  have HAT : Hid (AllP k N (fun j => if j = i then u else S0 j)) := ⟨HK.out, fun j hj => by
   by_cases e : j = i
   ·simp only [e, if_true]; rw [hu]; exact HZ1.out
   ·simp only [e, if_false]; exact HA.out.b j hj⟩
  have KA : Hid _ := KALL.out w8 (some ⟨G, 0, none⟩) c4 (fun j => if j = i then u else S0 j) (OwnT.at (show OwnT _ _ _ _ _ _ from hst.1)) HAT.out (grown_since (grownBy_trans HG6.out hg7) hst.2 HGl.out) (Cur.far hc7 hst.2 (by have := HGl.out; omega) hab)
  clear hst KB q1 hu
  go_wp2_with fail
  rw [← HW8.out]
  refine Calls.mono KA.out ?_
  rintro e w9 ⟨v, rfl, hv, hg9, hc9⟩
  have HF : Hid _ := And.intro hv (And.intro hg9 hc9)
  clear hv hg9 hc9
  go_wp2
  go_ret
  exact ⟨k, N, _, _, HAT.out, rfl, HF.out.1, HF.out.2.1, HF.out.2.2⟩
 have b0 : (t == 0) = false := by simpa using e0
 by_cases e1 : t = 1
 ·subst e1
  have hi := HI.out
  have hii : (i : Int) < (N : Int) := by omega
  have q1 : w6.cell? ⟨G, i, none⟩ = some (.string (S0 i)) := by rw [World.ownsRow.cellAt HO6.out i (by omega)]; exact sL_get _ _ _ hi
  obtain ⟨z, HZ⟩ : ∃ z, Hid (S0 i = z) := ⟨_, rfl⟩
  rw [HZ.out] at q1
  have hz1 : 1 ≤ z.size ∧ z.size ≤ 20 := by
   have h1 := HA.out.b i hi
   rw [HZ.out] at h1
   exact ⟨h1.1, by have := HL20.out i; rw [HZ.out] at this; exact this⟩
  have HZ1 : Hid (1 ≤ z.size ∧ z.size ≤ 20) := hz1
  have hzs : z.size ≤ 20 := hz1.2
  have hst := World.ownsRow.stored HO6.out i (.string (z ++ (⟨#[120]⟩ : ByteArray)))
  rw [sL_set _ _ _ _ hi] at hst
  have q3 := World.ownsRow.frozenAt HO6.out i
  obtain ⟨w8, HW8⟩ : ∃ x, Hid (x = w6.setCell ⟨G, i, none⟩ (.string (z ++ (⟨#[120]⟩ : ByteArray)))) := ⟨_, rfl⟩
  rw [← HW8.out] at hst
  have HAT : Hid (AllP k N (fun j => if j = i then z ++ (⟨#[120]⟩ : ByteArray) else S0 j)) := ⟨HK.out, fun j hj => by
   by_cases e : j = i
   ·simp only [e, if_true]
    rw [ByteArray.size_append]
    have h1 : (⟨#[120]⟩ : ByteArray).size = 1 := rfl
    have := HZ1.out
    omega
   ·simp only [e, if_false]; exact HA.out.b j hj⟩
  have KA : Hid _ := KALL.out w8 (some ⟨G, 0, none⟩) c4 (fun j => if j = i then z ++ (⟨#[120]⟩ : ByteArray) else S0 j) (OwnT.at (show OwnT _ _ _ _ _ _ from hst.1)) HAT.out (grown_since HG6.out hst.2 HGl.out) (Cur.far hc6 hst.2 (by have := HGl.out; omega) hab)
  clear hst hz1
  go_wp2_with fail
  rw [← HW8.out]
  refine Calls.mono KA.out ?_
  rintro e w9 ⟨v, rfl, hv, hg9, hc9⟩
  have HF : Hid _ := And.intro hv (And.intro hg9 hc9)
  clear hv hg9 hc9
  go_wp2
  go_ret
  exact ⟨k, N, _, _, HAT.out, rfl, HF.out.1, HF.out.2.1, HF.out.2.2⟩
 have b1 : (t == 1) = false := by simpa using e1
 obtain ⟨i0, hi, hz0, hz1, hz2⟩ := info_parts Tryz.infoInt
 obtain ⟨w7, HW7⟩ : ∃ x, Hid (x = w6.alloc (.cells #[] 3)) := ⟨_, rfl⟩
 have HI7 : Hid (w7.ownsRow w6.heap.size 3 1 (.slice (some ⟨w6.heap.size, 0, none⟩) 0 0) 0 (zL (fun j => (j : Int)) 0)) := by
  show World.ownsRow _ _ _ _ _ _ _
  rw [HW7.out]
  exact World.ownsRow_lit w6 #[] 0 (Nat.le_refl _) (by unfold maxLen; omega) rfl
 have HB67 : Hid (Below w6.heap.size w6 w7) := by show Below _ _ _; rw [HW7.out]; exact (Below.refl _ _).alloc (Nat.le_refl _) _
 have hkk : k ≤ 7 := by have := HNk.out; omega
 go_wp2_with fail
 rw [← HW7.out]
 go_loopw [8, 9] (fun v vi wr => ∃ j gg cc : Nat, j ≤ k ∧ vi = .int .i64 (j : Int) ∧ v = .slice (some ⟨gg, 0, none⟩) j cc ∧ wr.ownsRow w6.heap.size 3 1 (.slice (some ⟨gg, 0, none⟩) j cc) j (zL (fun j => (j : Int)) j) ∧ Below w6.heap.size w6 wr) (fun _ vi _ => k - (intOf vi).toNat)
 case atStart => exact ⟨0, w6.heap.size, 0, Nat.zero_le _, rfl, rfl, HI7.out, HB67.out⟩
 case round =>
  obtain ⟨j, gg, cc, hj, rfl, rfl, hown, hbel⟩ := hrel
  clear HI7 HB67 HW7
  have lgg := World.ownsRow.lt hown gg rfl
  have hs6 := hbel.size
  by_cases hlt : j < k
  ·have hji : (j : Int) < (k : Int) := by omega
   have KO : Hid _ := hown
   have KBl : Hid (Below w6.heap.size w6 wr) := hbel
   clear hown hbel
   go_wp2_with (at_builtin; refine wpList_append_lies _ (by rfl) _ _ 25 (by rfl) w6.heap.size 3 i0 (.int .i64 0) 1 8 Tryz.underlying25 hi hz0 hz1 hz2 rfl (by decide) (.slice (some ⟨gg, 0, none⟩) j cc) j _ (by rfl) (World.ownsRow.alloc KO.out _) ⟨wr.heap.size, 0, none⟩ 1 1 [.int .i64 (j : Int)] (by rfl) (by rfl) (World.news_of_block (cs := #[.int .i64 (j : Int)]) (t := 3) (fr := (0, 0)) (heap_alloc_new wr _)) (by simp [Value.oneCell']) (by omega) (by unfold maxLen; omega) (by omega) (by simp; omega) (wr.heap.size + 1) (by simp) ?_; intro g2 cap3 w8 hown2 hgrow hat hltg)
   have HN8 : Hid (w8.ownsRow w6.heap.size 3 1 (.slice (some ⟨g2, 0, none⟩) (j + 1) cap3) (j + 1) (zL (fun j => (j : Int)) (j + 1)) ∧ Below w6.heap.size w6 w8) := by
    refine ⟨by rw [zL_snoc1]; exact hown2, ?_⟩
    exact (KBl.out.alloc hs6 _).grown (show World.grownBy _ w8 (some gg) from hgrow) (by simp; omega) (fun q hq => by cases hq; exact lgg.1)
   clear hown2 hgrow hat hltg KO KBl
   go_roundw
   case rel => exact ⟨j + 1, g2, cap3, by omega, by go_num, rfl, HN8.out.1, HN8.out.2⟩
   case measure => simp [intOf]; omega
  ·obtain rfl : k = j := by omega
   have hNk := HNk.out
   have HOr : Hid (OwnT wr w.heap.size (some ⟨G, 0, none⟩) N c4 S0) := OwnT.below HO6.out hbel
   have HGr : Hid (w.grownBy wr (some g) ∧ Cur wr g a n cap) := ⟨grownBy_trans HG6.out (grownB g hbel), curBelow hc6 hbel⟩
   have h0N : (0 : Int) < (N : Int) := by omega
   have q1 : wr.cell? ⟨G, 0, none⟩ = some (.string (S0 0)) := by rw [World.ownsRow.cellAt HOr.out 0 (by omega)]; exact sL_get _ _ _ (by omega)
   have q3 := World.ownsRow.frozenAt HOr.out 0
   obtain ⟨z, HZ⟩ : ∃ z, Hid (S0 0 = z) := ⟨_, rfl⟩
   rw [HZ.out] at q1
   have HZ1 : Hid (1 ≤ z.size ∧ z.size ≤ 100) := by have := HA.out.b 0 (by omega); rw [HZ.out] at this; exact this
   have hz1' : 1 ≤ z.size := HZ1.out.1
   have hz2' : z.size ≤ 100 := HZ1.out.2
   have hzi : (1 : Int) ≤ (z.size : Int) := by omega
   obtain ⟨z', HZ'⟩ : ∃ x, Hid (x = (⟨#[255]⟩ ++ z.extract 1 z.size : ByteArray)) := ⟨_, rfl⟩
   have HZs : Hid (z'.size = z.size) := by
    show _ = _
    rw [HZ'.out, ByteArray.size_append, ByteArray.size_extract]
    have h1 : (⟨#[255]⟩ : ByteArray).size = 1 := rfl
    omega
   have hst := World.ownsRow.stored HOr.out 0 (.string z')
   rw [sL_set _ _ _ _ (show 0 < N by omega)] at hst
   obtain ⟨w8, HW8⟩ : ∃ x, Hid (x = wr.setCell ⟨G, 0, none⟩ (.string z')) := ⟨_, rfl⟩
   rw [← HW8.out] at hst
   have hgG : gg ≠ G := fun e => by have := World.ownsRow.lt HO6.out G rfl; omega
   have HI8 : Hid (IntsAt w8 (some ⟨gg, 0, none⟩) k (eI (fun i => i) k)) := by
    have ho8 := own_kept hown hst.2 (fun x e => by cases e; exact hgG)
    refine ⟨eI_len _ _, fun q hq => ⟨gg, 0, rfl, ?_⟩⟩
    rw [Nat.zero_add, World.ownsRow.cellAt ho8 q (by omega), zL_get _ _ _ hq, eI_getD _ _ _ hq]
   have HT8 : Hid (TxtAt w8 (some ⟨G, 0, none⟩) k (fun j => if j = 0 then z' else S0 j)) := (OwnT.at (show OwnT _ _ _ _ _ _ from hst.1)).less (by omega)
   have HR : Hid (Rgt (k : Int) (N : Int) (eI (fun i => i) k) k (fun j => if j = 0 then z' else S0 j)) := by
    refine ⟨sprOk_of (by omega) (by omega) (by omega), by rw [eI_len], rfl, by simp only [if_true]; rw [HZs.out]; omega, fun q hq => ⟨?_, ?_, fun j hj => ?_⟩⟩
    ·rw [eI_getD _ _ _ hq]; omega
    ·by_cases e : q = 0
     ·simp [e]
     ·simp only [e, if_false, if_true]
      rw [HE.out q, HZ.out, HZs.out]
    ·rw [eI_getD _ _ _ hq, eI_getD _ _ _ (by omega)]; omega
   have KBd : Hid (Calls Tryz.prog 51 #[.int .i64 (k : Int), .int .i64 (N : Int), .slice (some ⟨gg, 0, none⟩) k cc, .slice (some ⟨G, 0, none⟩) k c4] w8 fun e w' => ∃ v, e = .returned (.tuple #[v, .bool true]) ∧ ResT w8 w' v N (bdS (k : Int) (N : Int) (eI (fun i => i) k) (fun j => if j = 0 then z' else S0 j)) ∧ Below w8.heap.size w8 w') := by
    have := sBodies_any (k : Int) (N : Int) (some ⟨gg, 0, none⟩) k cc (eI (fun i => i) k) (some ⟨G, 0, none⟩) k c4 (fun j => if j = 0 then z' else S0 j) w8 HI8.out HT8.out (fun _ => by simp only [if_true]; rw [HZs.out]; omega)
    unfold bdR at this
    rw [rgt_yes HR.out, if_pos rfl, Int.toNat_natCast] at this
    exact this
   have HAT : Hid (AllP k N (bdS (k : Int) (N : Int) (eI (fun i => i) k) (fun j => if j = 0 then z' else S0 j))) := all_bd HK.out (by simp only [if_true]; rw [HZs.out]; exact HZ1.out)
   have HG8 : Hid (w.grownBy w8 (some g) ∧ Cur w8 g a n cap) := ⟨grown_since HGr.out.1 hst.2 HGl.out, Cur.far HGr.out.2 hst.2 (by have := HGl.out; omega) hab⟩
   have hkc : (k : Int) ≤ (c4 : Int) := by
    rcases HOr.out.2 with ⟨e, _⟩ | ⟨g', c', cu, e, _, _, h5, _⟩
    ·cases e
    ·cases e; omega
   have hk0 : (0 : Int) ≤ (k : Int) := by omega
   clear hst hown hbel lgg HO6 HOr HGr
   rw [HZ'.out] at HW8
   go_wp2_with fail
   rw [← HW8.out]
   refine Calls.mono KBd.out ?_
   rintro e w9 ⟨v, rfl, ⟨a9, c9, rfl, hO9⟩, hb9⟩
   have KA : Hid _ := KALL.out w9 a9 c9 _ (OwnT.at hO9) HAT.out (grownBy_trans HG8.out.1 (grownB g hb9)) (curBelow HG8.out.2 hb9)
   clear hO9 hb9
   go_wp2_with fail
   refine Calls.mono KA.out ?_
   rintro e w10 ⟨v, rfl, hv, hg10, hc10⟩
   have HF : Hid _ := And.intro hv (And.intro hg10 hc10)
   clear hv hg10 hc10
   go_wp2
   go_ret
   exact ⟨k, N, _, _, HAT.out, rfl, HF.out.1, HF.out.2.1, HF.out.2.2⟩
structure SomI (w : World) (B G j cap : Nat) (A : Nat → Option Addr) (C : Nat → Nat) (P : Nat → Pc) : Prop where
 c : OwnC w B (some ⟨G, 0, none⟩) j cap (fun i => cel (P i) (.slice (A i) (P i).m (C i)))
 t : ∀ i, i < j → OwnT w B (A i) (P i).m (C i) (P i).S
 d : ∀ i x, i < j → A i = some x → x.block ≠ G
 s : ∀ i, i < j → PcS (P i)
theorem SomI.keptG {w w' : World} {B G j cap g : Nat} {A : Nat → Option Addr} {C : Nat → Nat} {P : Nat → Pc} (h : SomI w B G j cap A C P) (hg : w.grownBy w' (some g)) (hB : g < B) : SomI w' B G j cap A C P :=
 ⟨own_kept h.c hg (fun x e => by cases e; have := (World.ownsRow.lt h.c G rfl).1; show G ≠ g; omega), fun i hi => OwnT.keptG (h.t i hi) hg hB, h.d, h.s⟩
theorem SomI.below {w w' : World} {B G j cap : Nat} {A : Nat → Option Addr} {C : Nat → Nat} {P : Nat → Pc} (h : SomI w B G j cap A C P) (hb : Below w.heap.size w w') : SomI w' B G j cap A C P :=
 ⟨h.c.below hb, fun i hi => OwnT.below (h.t i hi) hb, h.d, h.s⟩
theorem SomI.at {w : World} {B G j cap : Nat} {A : Nat → Option Addr} {C : Nat → Nat} {P : Nat → Pc} (h : SomI w B G j cap A C P) : PiAt w (some ⟨G, 0, none⟩) j P := fun i hi => ⟨G, 0, A i, C i, rfl, fun q hq => by rw [Nat.zero_add]; exact h.c.cell hi hq, OwnT.at (h.t i hi)⟩
theorem SomI.snoc {w w9 : World} {B G j cap g3 cap3 : Nat} {A : Nat → Option Addr} {C : Nat → Nat} {P : Nat → Pc} {p : Pc} {ap : Option Addr} {cp : Nat} {X : Obj}
  (h : SomI w B G j cap A C P) (ho : OwnT w B ap p.m cp p.S) (hne : ∀ x, ap = some x → x.block ≠ G) (hp : PcS p)
  (h3 : w9.ownsRow B 30 6 (.slice (some ⟨g3, 0, none⟩) (j + 1) cap3) (j + 1) (gL (fun i => cel (P i) (.slice (A i) (P i).m (C i))) j ++ [.string p.r, .int .i64 p.k, .int .i64 p.n, .int .i64 p.i, .string p.b, .slice ap p.m cp]))
  (hg : (w.alloc X).grownBy w9 (some G)) (hat : G = g3 ∨ g3 = w.heap.size + 1) :
  SomI w9 B g3 (j + 1) cap3 (fun i => if i = j then ap else A i) (fun i => if i = j then cp else C i) (fun i => if i = j then p else P i) := by
 have lA : ∀ i x, i < j → A i = some x → x.block < w.heap.size := fun i x hi e => by
  have := h.t i hi
  rw [e] at this
  exact (World.ownsRow.lt this x.block rfl).2
 have lP : ∀ x, ap = some x → x.block < w.heap.size := fun x e => by
  subst e
  exact (World.ownsRow.lt ho x.block rfl).2
 refine ⟨?_, fun i hi => ?_, fun i x hi e => ?_, fun i hi => ?_⟩
 ·show World.ownsRow _ _ _ _ _ _ _
  have e : gL (fun i => cel (if i = j then p else P i) (.slice (if i = j then ap else A i) (if i = j then p else P i).m (if i = j then cp else C i))) (j + 1) = gL (fun i => cel (P i) (.slice (A i) (P i).m (C i))) j ++ [.string p.r, .int .i64 p.k, .int .i64 p.n, .int .i64 p.i, .string p.b, .slice ap p.m cp] := by
   rw [gL_snoc, gL_congr (c' := fun i => cel (P i) (.slice (A i) (P i).m (C i))) (fun i q hi _ => by simp [show i ≠ j by omega])]
   simp [cel]
  rw [e]
  exact h3
 ·by_cases ei : i = j
  ·subst ei
   simp only [if_true]
   exact own_kept (World.ownsRow.alloc ho X) hg hne
  ·simp only [ei, if_false]
   exact own_kept (World.ownsRow.alloc (h.t i (by omega)) X) hg (fun x e => h.d i x (by omega) e)
 ·by_cases ei : i = j
  ·subst ei
   simp only [if_true] at e
   rcases hat with k | k
   ·rw [← k]; exact hne x e
   ·have := lP x e; omega
  ·simp only [ei, if_false] at e
   rcases hat with k | k
   ·rw [← k]; exact h.d i x (by omega) e
   ·have := lA i x (by omega) e; omega
 ·by_cases ei : i = j
  ·simp only [ei, if_true]; exact hp
  ·simp only [ei, if_false]; exact h.s i (by omega)
def lnV7 : Value → Nat
 | .slice _ n _ => n
 | _ => 0
abbrev SoR (w w' : World) (g n cap : Nat) (a : Option Addr) (j : Nat) (v : Value) : Prop := ∃ (G cc : Nat) (A : Nat → Option Addr) (C : Nat → Nat) (P : Nat → Pc), v = .slice (some ⟨G, 0, none⟩) j cc ∧ SomI w' w.heap.size G j cc A C P ∧ w.grownBy w' (some g) ∧ Cur w' g a n cap
theorem some07_any (g n cap : Nat) (a : Option Addr) (w : World) (hc : Cur w g a n cap) (hab : Under a n g) :
  Calls Tryz.prog 40 #[.pointer (some ⟨g, 0, none⟩)] w fun e w' => ∃ (r : ByteArray) (j : Nat) (v : Value), r.size ≤ 16 ∧ j ≤ 65 ∧ e = .returned (.tuple #[.string r, v]) ∧ SoR w w' g n cap a j v := by
 obtain ⟨j0, hj, hy0, hy1, hy2⟩ := info_parts Tryz.infoPc3
 have hgl := hc.lt
 go_enter Tryz.func40, Tryz.ntmps40
 go_wp2_with fail
 refine (pieces07_any g n cap a _ hc hab).mono ?_
 rintro e w1 ⟨k1, N1, S1, v1, hA1, _, rfl, ⟨G1, c1, A1, C1, rfl, hO1⟩, hg1, hc1⟩
 go_wp2_with fail
 refine (once_any g n cap a _ _ hc1).mono ?_
 rintro e w2 ⟨tf, rfl, hg2, hc2⟩
 have KO2 : Hid (AllP k1 N1 S1 ∧ ResP w w2 (.slice (some ⟨G1, 0, none⟩) N1 c1) N1 (cutP (k1 : Int) N1 S1) ∧ w.grownBy w2 (some g)) := by
  refine ⟨hA1, ⟨G1, c1, A1, C1, rfl, ?_⟩, grownBy_trans hg1 hg2⟩
  refine ⟨own_kept hO1.1 hg2 (fun x e => by cases e; have := (World.ownsRow.lt hO1.1 G1 rfl).1; show G1 ≠ g; omega), fun i hi => OwnT.keptG (hO1.2.1 i hi) hg2 (by omega), hO1.2.2⟩
 clear hA1 hO1 hg1 hg2 hc1 hc
 go_upto_if 13 with fail
 go_cut [4] from 14 to 15 (fun v wx => Hid (∃ (k N : Nat) (S : Nat → ByteArray), AllP k N S ∧ ResP w wx v N (cutP (k : Int) N S) ∧ w.grownBy wx (some g) ∧ Cur wx g a n cap))
 case first =>
  cases tf with
  | false =>
   go_wp2
   go_meet
   exact ⟨k1, N1, S1, KO2.out.1, KO2.out.2.1, KO2.out.2.2, hc2⟩
  | true =>
   go_wp2_with fail
   refine (lie07_any g n cap a _ hc2 hab).mono ?_
   rintro e w3 ⟨k3, Nz3, S3, v3, hA3, rfl, ⟨G3, c3, A3, C3, rfl, hO3⟩, hg3, hc3⟩
   have HX : Hid (∃ (k N : Nat) (S : Nat → ByteArray), AllP k N S ∧ ResP w w3 (.slice (some ⟨G3, 0, none⟩) Nz3 c3) N (cutP (k : Int) N S) ∧ w.grownBy w3 (some g) ∧ Cur w3 g a n cap) := ⟨k3, Nz3, S3, hA3, ⟨G3, c3, A3, C3, rfl, hO3.base KO2.out.2.2.size⟩, grownBy_trans KO2.out.2.2 hg3, hc3⟩
   clear hA3 hO3 hg3 hc3
   go_wp2
   go_meet
   exact HX.out
 obtain ⟨k, N, S, hA, ⟨G, c0, A, C, rfl, hO⟩, hgx, hcx⟩ := hcut.out
 obtain ⟨w3, hw3⟩ : ∃ x, x = wc := ⟨_, rfl⟩
 subst hw3
 have HN : Hid (1 ≤ N ∧ N ≤ 7) := by have := hA.kn; unfold KnP at this; exact ⟨by omega, by omega⟩
 have hN := HN.out
 obtain ⟨P, HP⟩ : ∃ x, Hid (cutP (k : Int) N S = x) := ⟨_, rfl⟩
 have HPS : Hid (∀ i, i < N → PcS (P i)) := fun i hi => by rw [← HP.out]; exact all_s hA hi
 have HPR : Hid ((P 0).r.size ≤ 16) := by
  show (P 0).r.size ≤ 16
  rw [← HP.out]
  show (rtS N (lvs (k : Int) N S)).size ≤ 16
  rw [all_root hA.kn]; omega
 rw [HP.out] at hO
 have KA3 : Hid (OwnP w3 w.heap.size (some ⟨G, 0, none⟩) N c0 A C P) := hO
 have HG3 : Hid (w.grownBy w3 (some g)) := hgx
 have q0 := hO.1.cell (show 0 < N by omega) (show 0 < 6 by omega)
 simp only [cel, Nat.zero_mul, Nat.add_zero] at q0
 have h0N : (0 : Int) < (N : Int) := by omega
 obtain ⟨rt, HRT⟩ : ∃ x, Hid ((P 0).r = x) := ⟨_, rfl⟩
 rw [HRT.out] at q0 HPR
 obtain ⟨w4, HW4⟩ : ∃ x, Hid (x = w3.alloc (.cells #[] 30)) := ⟨_, rfl⟩
 have hw3i : IntKind.i64.wrap ((N : Int) + 3) = (N : Int) + 3 := by rw [IntKind.wrap_i64]; omega
 have lG := World.ownsRow.lt hO.1 G rfl
 have HB34 : Hid (Below w3.heap.size w3 w4) := by show Below _ _ _; rw [HW4.out]; exact (Below.refl _ _).alloc (Nat.le_refl _) _
 have HS4 : Hid (SomI w4 w3.heap.size w3.heap.size 0 0 (fun _ => none) (fun _ => 0) P) := by
  refine ⟨?_, fun i hi => absurd hi (Nat.not_lt_zero i), fun i x hi => absurd hi (Nat.not_lt_zero i), fun i hi => absurd hi (Nat.not_lt_zero i)⟩
  rw [HW4.out]
  exact World.ownsRow_lit w3 #[] 0 (Nat.le_refl _) (by unfold maxLen; omega) rfl
 have hc4 : Cur w4 g a n cap := by rw [HW4.out]; exact Cur.alloc hcx _
 have HGl : Hid (w.heap.size ≤ w3.heap.size ∧ g < w3.heap.size) := ⟨hgx.size, hcx.lt⟩
 clear hcut hO hA hgx hcx KO2 hc2
 go_wp2_with fail
 rw [← HW4.out]
 refine (belowN_any g n cap a _ _ hc4).mono ?_
 rintro e w5 ⟨x, x0, x1, _, rfl, hg5, hc5⟩
 have x2 := x1 (by omega)
 obtain ⟨n5, rfl⟩ := Int.eq_ofNat_of_zero_le x0
 have hn5 : n5 ≤ 10 := by omega
 have HS5 : Hid (SomI w5 w3.heap.size w3.heap.size 0 0 (fun _ => none) (fun _ => 0) P) := HS4.out.keptG hg5 HGl.out.2
 have HG5 : Hid (w3.grownBy w5 (some g)) := grownBy_trans (grownB g HB34.out) hg5
 clear x0 x1 x2 hc4 hg5 HS4 HB34 q0 HW4
 have KALL : Hid (∀ (W : World), w3.grownBy W (some g) → ∀ q, q < N → W.rangeAt G (q * 6) [.string (P q).r, .int .i64 (P q).k, .int .i64 (P q).n, .int .i64 (P q).i, .string (P q).b, .slice (A q) (P q).m (C q)] ∧ TxtAt W (A q) (P q).m (P q).S) := fun W hW q hq => by
  have hcell : ∀ y, y < 6 → W.cell? ⟨G, q * 6 + y, none⟩ = some (cel (P q) (.slice (A q) (P q).m (C q)) y) := fun y hy => hW.cell (KA3.out.1.cell hq hy) (by simp; omega)
  refine ⟨fun y v hv => ?_, OwnT.at (OwnT.keptG (KA3.out.2.1 q hq) hW (by omega))⟩
  match y, hv with
  | 0, hv => cases hv; exact hcell 0 (by omega)
  | 1, hv => cases hv; exact hcell 1 (by omega)
  | 2, hv => cases hv; exact hcell 2 (by omega)
  | 3, hv => cases hv; exact hcell 3 (by omega)
  | 4, hv => cases hv; exact hcell 4 (by omega)
  | 5, hv => cases hv; exact hcell 5 (by omega)
  | y + 6, hv => simp at hv
 go_wp2_with fail
 go_loopw [6, 8] (fun v vi wr => ∃ i : Nat, i ≤ n5 ∧ vi = .int .i64 (i : Int) ∧ Hid (SoR w3 wr g n cap a i v)) (fun _ vi _ => n5 - (intOf vi).toNat)
 case atStart => exact ⟨0, Nat.zero_le _, rfl, ⟨_, _, _, _, _, rfl, HS5.out, HG5.out, hc5⟩⟩
 case round =>
  obtain ⟨i, hi, rfl, HR⟩ := hrel
  obtain ⟨G2, cc2, A2, C2, P2, rfl, hS2, hg2, hc2⟩ := HR.out
  have KS2 : Hid (SomI wr w3.heap.size G2 i cc2 A2 C2 P2) := hS2
  have KG2 : Hid (w3.grownBy wr (some g)) := hg2
  have lG2 := World.ownsRow.lt hS2.c G2 rfl
  have HL2 : Hid (w3.heap.size ≤ G2) := lG2.1
  clear HS5 HR hS2 hc5
  by_cases hlt : i < n5
  ·have hii : (i : Int) < (n5 : Int) := by omega
   clear lG2 hg2
   go_wp2_with fail
   refine (belowN_any g n cap a _ _ hc2).mono ?_
   rintro e w6 ⟨x, x0, x1, _, rfl, hg6, hc6⟩
   have x2 := x1 (by omega)
   obtain ⟨q, rfl⟩ := Int.eq_ofNat_of_zero_le x0
   have hq : q < N := by omega
   have hqi : (q : Int) < (N : Int) := by omega
   have KG6 : Hid (w3.grownBy w6 (some g)) := grownBy_trans KG2.out hg6
   have KS6 : Hid (SomI w6 w3.heap.size G2 i cc2 A2 C2 P2) := KS2.out.keptG hg6 HGl.out.2
   have hrq := KALL.out w6 KG6.out q hq
   have R6 : Hid (w6.rangeAt G (q * 6) [.string (P q).r, .int .i64 (P q).k, .int .i64 (P q).n, .int .i64 (P q).i, .string (P q).b, .slice (A q) (P q).m (C q)]) := hrq.1
   have hpq := HPS.out q hq
   have KC6 : Hid _ := sCopyP_any (P q).r (P q).k (P q).n (P q).i (P q).b (A q) (P q).m (C q) (P q).S w6 hrq.2 (by have := hpq.m; omega)
   have HQ : Hid (PcS (P q)) := hpq
   clear x0 x1 x2 hg6 hrq hpq KG2 KS2 hq
   go_wp2_with (refine wpList_load_mid (by rfl) 30 _ (by rfl) G (q * 6) (by rfl) [.string (P q).r, .int .i64 (P q).k, .int .i64 (P q).n, .int .i64 (P q).i, .string (P q).b, .slice (A q) (P q).m (C q)] _ ?_ Tryz.underlying30 (by rfl) Tryz.infoPc ?_; exact R6.out)
   refine Calls.mono KC6.out ?_
   rintro e w7 ⟨gp, cp, rfl, oP, b7⟩
   obtain ⟨D, HD⟩ : ∃ x, Hid (x = w7.heap.size) := ⟨_, rfl⟩
   obtain ⟨w8, HW8⟩ : ∃ x, Hid (x = w7.alloc (.cells (pcC (P q).r (P q).k (P q).n (P q).i (P q).b (.slice (some ⟨gp, 0, none⟩) (P q).m cp)) 30)) := ⟨_, rfl⟩
   have b78 : Below w7.heap.size w7 w8 := by rw [HW8.out]; exact (Below.refl _ _).alloc (Nat.le_refl _) _
   have b68 : Below w6.heap.size w6 w8 := below2 b7 b78
   have RD8 : Hid (Row w8 D 30 (pcC (P q).r (P q).k (P q).n (P q).i (P q).b (.slice (some ⟨gp, 0, none⟩) (P q).m cp))) := by show Row _ _ _ _; rw [HW8.out, HD.out]; exact Row.new w7 _ _
   have KS8 : Hid (SomI w8 w3.heap.size G2 i cc2 A2 C2 P2) := KS6.out.below b68
   have KG8 : Hid (w3.grownBy w8 (some g)) := grownBy_trans KG6.out (grownB g b68)
   have hc8 : Cur w8 g a n cap := curBelow hc6 b68
   have KO8 : Hid (OwnT w8 w3.heap.size (some ⟨gp, 0, none⟩) (P q).m cp (P q).S ∧ gp ≠ G2) := by
    refine ⟨OwnT.below (OwnT.base oP KG6.out.size) b78, fun e => ?_⟩
    have h1 := (World.ownsRow.lt oP gp rfl).1
    have h2 := (World.ownsRow.lt KS6.out.c G2 rfl).2
    omega
   have HTD : Hid (∀ t x, t < i → A2 t = some x → x.block ≠ D) := fun t x ht e => by
    have h1 := KS6.out.t t ht
    rw [e] at h1
    have h2 := (World.ownsRow.lt h1 x.block rfl).2
    have h3 := b7.size
    have h4 := HD.out
    omega
   have HDl : Hid (g < D ∧ w3.heap.size ≤ D ∧ D ≠ G2) := by
    have h1 := b7.size
    have h2 := KG6.out.size
    have h3 := HGl.out.2
    have h4 := HD.out
    have h5 := (World.ownsRow.lt KS6.out.c G2 rfl).2
    exact ⟨by omega, by omega, by omega⟩
   clear oP b7 b78 b68 KC6 R6 KS6 KG6 hc6
   go_wp2_with fail
   rw [← HW8.out, ← HD.out]
   refine (once_any g n cap a _ _ hc8).mono ?_
   rintro e w9 ⟨tq, rfl, hg9, hc9⟩
   have RD9 : Hid (Row w9 D 30 (pcC (P q).r (P q).k (P q).n (P q).i (P q).b (.slice (some ⟨gp, 0, none⟩) (P q).m cp))) := RD8.out.keptG hg9 (by have := HDl.out; omega)
   have KS9 : Hid (SomI w9 w3.heap.size G2 i cc2 A2 C2 P2) := KS8.out.keptG hg9 HGl.out.2
   have KG9 : Hid (w3.grownBy w9 (some g)) := grownBy_trans KG8.out hg9
   have KO9 : Hid (OwnT w9 w3.heap.size (some ⟨gp, 0, none⟩) (P q).m cp (P q).S ∧ gp ≠ G2) := ⟨OwnT.keptG KO8.out.1 hg9 HGl.out.2, KO8.out.2⟩
   clear hg9 hc8 RD8 KS8 KG8 KO8 HW8
   go_upto_if 40 with fail
   go_cut [] from 41 to 42 (fun wx => Hid (∃ (p : Pc) (ap : Option Addr) (cp : Nat), Row wx D 30 (pcC p.r p.k p.n p.i p.b (.slice ap p.m cp)) ∧ PcS p ∧ OwnT wx w3.heap.size ap p.m cp p.S ∧ (∀ x, ap = some x → x.block ≠ G2) ∧ SomI wx w3.heap.size G2 i cc2 A2 C2 P2 ∧ w3.grownBy wx (some g) ∧ Cur wx g a n cap))
   case first =>
    cases tq with
    | false =>
     go_wp2
     go_meet
     exact ⟨P q, some ⟨gp, 0, none⟩, cp, RD9.out, HQ.out, KO9.out.1, fun x e => by cases e; exact KO9.out.2, KS9.out, KG9.out, hc9⟩
    | true =>
     go_wp2_with fail
     refine (piece07_any g n cap a _ hc9 hab).mono ?_
     rintro e w10 ⟨p, ap, cq, rfl, hps, oq, hg10, hc10⟩
     have RD10 : Hid (Row w10 D 30 (pcC (P q).r (P q).k (P q).n (P q).i (P q).b (.slice (some ⟨gp, 0, none⟩) (P q).m cp))) := RD9.out.keptG hg10 (by have := HDl.out; omega)
     obtain ⟨w11, HW11⟩ : ∃ x, Hid (x = w10.setRow D (pcC p.r p.k p.n p.i p.b (.slice ap p.m cq))) := ⟨_, rfl⟩
     have HF : Hid (∃ (p : Pc) (ap : Option Addr) (cp : Nat), Row w11 D 30 (pcC p.r p.k p.n p.i p.b (.slice ap p.m cp)) ∧ PcS p ∧ OwnT w11 w3.heap.size ap p.m cp p.S ∧ (∀ x, ap = some x → x.block ≠ G2) ∧ SomI w11 w3.heap.size G2 i cc2 A2 C2 P2 ∧ w3.grownBy w11 (some g) ∧ Cur w11 g a n cap) := by
      have l := HDl.out
      have hgr : w10.grownBy w11 (some D) := by rw [HW11.out]; exact grown_row w10 D _
      have hl9 := RD9.out.lt
      have hge : ∀ x, ap = some x → w9.heap.size ≤ x.block := fun x e => by
       have h5 := oq
       rw [e] at h5
       exact (World.ownsRow.lt h5 x.block rfl).1
      have hG2l := (World.ownsRow.lt KS9.out.c G2 rfl).2
      have hS10 := KS9.out.keptG hg10 HGl.out.2
      refine ⟨p, ap, cq, by rw [HW11.out]; exact RD10.out.row, hps, own_kept (OwnT.base oq KG9.out.size) hgr (fun x e => by have := hge x e; omega), fun x e => by have := hge x e; omega, ⟨own_kept hS10.c hgr (fun x e => by cases e; exact Ne.symm l.2.2), fun t ht => own_kept (hS10.t t ht) hgr (fun x e => ?_), hS10.d, hS10.s⟩, grown_since (grownBy_trans KG9.out hg10) hgr l.2.1, Cur.far hc10 hgr l.1 hab⟩
      have h5 := HTD.out t x ht e
      exact h5
     clear hps oq hg10 hc10
     go_wp2_with (refine wpList_store_row (by rfl) 30 _ _ (by rfl) D (pcC p.r p.k p.n p.i p.b (.slice ap p.m cq)) (by rfl) (by rfl) 30 (pcC (P q).r (P q).k (P q).n (P q).i (P q).b (.slice (some ⟨gp, 0, none⟩) (P q).m cp)) ?_ Tryz.infoPc rfl (by simp [Value.oneCell']) ?_; exact RD10.out; rw [← HW11.out])
     go_meet
     exact HF.out
   obtain ⟨p, ap, cq, hRD, hps, oq, hne, hS, hgw, hcw⟩ := hcut.out
   obtain ⟨w10, hw10⟩ : ∃ x, x = wc := ⟨_, rfl⟩
   subst hw10
   have KRD : Hid (Row w10 D 30 (pcC p.r p.k p.n p.i p.b (.slice ap p.m cq))) := hRD
   have KS : Hid (SomI w10 w3.heap.size G2 i cc2 A2 C2 P2) := hS
   have KP : Hid (PcS p ∧ OwnT w10 w3.heap.size ap p.m cq p.S ∧ ∀ x, ap = some x → x.block ≠ G2) := ⟨hps, oq, hne⟩
   have KG : Hid (w3.grownBy w10 (some g) ∧ Cur w10 g a n cap) := ⟨hgw, hcw⟩
   have hs10 := hgw.size
   clear hcut hRD hps oq hne hS hgw hcw RD9 KS9 KG9 KO9 hc9 hc2
   go_wp2_with (first | (at_builtin; refine wpList_append_lies _ (by rfl) _ _ 24 (by rfl) w3.heap.size 30 j0 (.agg #[.string ByteArray.empty, .int .i64 0, .int .i64 0, .int .i64 0, .string ByteArray.empty, .slice none 0 0]) 6 80 Tryz.underlying24 hj hy0 hy1 hy2 rfl (by decide) (.slice (some ⟨G2, 0, none⟩) i cc2) i _ (by rfl) (World.ownsRow.alloc KS.out.c _) ⟨w10.heap.size, 0, none⟩ 1 1 [.string p.r, .int .i64 p.k, .int .i64 p.n, .int .i64 p.i, .string p.b, .slice ap p.m cq] (by rfl) (by rfl) (World.news_of_block (cs := #[.string p.r, .int .i64 p.k, .int .i64 p.n, .int .i64 p.i, .string p.b, .slice ap p.m cq]) (t := 30) (fr := (0, 0)) (heap_alloc_new w10 _)) (by simp [Value.oneCell']) (by omega) (by unfold maxLen; omega) (by omega) (by simp; omega) (w10.heap.size + 1) (by simp) ?_; intro g3 cap3 w9 hown3 hgrow3 hat3 hlt3) | (refine wpList_load_row (by rfl) 30 _ (by rfl) D (by rfl) 30 (pcC p.r p.k p.n p.i p.b (.slice ap p.m cq)) (0, 0) _ ?_ Tryz.underlying30 (by rfl) Tryz.infoPc ?_; exact KRD.out))
   have hgr : World.grownBy (w10.alloc (.cells #[.string p.r, .int .i64 p.k, .int .i64 p.n, .int .i64 p.i, .string p.b, .slice ap p.m cq] 30)) w9 (some G2) := hgrow3
   have HN : Hid (SoR w3 w9 g n cap a (i + 1) (.slice (some ⟨g3, 0, none⟩) (i + 1) cap3)) := by
    refine ⟨g3, cap3, _, _, _, rfl, SomI.snoc KS.out KP.out.2.1 KP.out.2.2 KP.out.1 hown3 hgr (by rcases hat3 with e | e; exact .inl (by simpa [Value.ownBlock] using e); exact .inr e), grown_since (grownBy_trans KG.out.1 (World.grownBy_alloc w10 _ (some g))) hgr HL2.out, Cur.far (Cur.alloc KG.out.2 _) hgr (by have := HL2.out; have := HGl.out; omega) hab⟩
   clear hown3 hgrow3 hgr hat3 hlt3 KS KP KG KRD
   go_roundw
   case rel => exact ⟨i + 1, by omega, by go_num, HN⟩
   case measure => simp [intOf]; omega
  ·obtain rfl : n5 = i := by omega
   go_wp2_with fail
   refine (once_any g n cap a _ _ hc2).mono ?_
   rintro e w6 ⟨tq, rfl, hg6, hc6⟩
   have KS6 : Hid (SomI w6 w3.heap.size G2 n5 cc2 A2 C2 P2) := KS2.out.keptG hg6 HGl.out.2
   have KG6 : Hid (w3.grownBy w6 (some g)) := grownBy_trans KG2.out hg6
   clear hg6 KS2 KG2 hg2 lG2 hc2
   cases tq with
   | false =>
    go_wp2
    go_ret2
    exact ⟨rt, n5, _, HPR.out, by omega, rfl, ⟨G2, cc2, A2, C2, P2, rfl, ⟨own_base KS6.out.c HGl.out.1, fun t ht => OwnT.base (KS6.out.t t ht) HGl.out.1, KS6.out.d, KS6.out.s⟩, grownBy_trans HG3.out KG6.out, hc6⟩⟩
   | true =>
    go_wp2_with fail
    go_loopw [6] (fun v wr => ∃ i : Nat, i ≤ 65 ∧ Hid (SoR w3 wr g n cap a i v)) (fun v _ => 65 - lnV7 v)
    case atStart => exact ⟨n5, by omega, ⟨_, _, _, _, _, rfl, KS6.out, KG6.out, hc6⟩⟩
    case round =>
     obtain ⟨i, hi65, HR⟩ := hrel
     obtain ⟨G4, cc4, A4, C4, P4, rfl, hS4, hg4, hc4⟩ := HR.out
     have KS4 : Hid (SomI wr w3.heap.size G4 i cc4 A4 C4 P4) := hS4
     have KG4 : Hid (w3.grownBy wr (some g)) := hg4
     clear HR hS4 hg4 KS6 KG6 hc6
     go_wp2_with fail
     refine (belowN_any g n cap a _ _ hc4).mono ?_
     rintro e w7 ⟨x, x0, x1, _, rfl, hg7, hc7⟩
     have x2 := x1 (by omega)
     obtain ⟨z, rfl⟩ := Int.eq_ofNat_of_zero_le x0
     have hwz : IntKind.i64.wrap (64 + (z : Int)) = ((64 + z : Nat) : Int) := by rw [IntKind.wrap_i64]; omega
     have hz : z < 2 := by omega
     have KS7 : Hid (SomI w7 w3.heap.size G4 i cc4 A4 C4 P4) := KS4.out.keptG hg7 HGl.out.2
     have KG7 : Hid (w3.grownBy w7 (some g)) := grownBy_trans KG4.out hg7
     clear x0 x1 x2 hg7 hc4 KS4 KG4
     by_cases hlt : i < 64 + z
     ·have hii : (i : Int) < ((64 + z : Nat) : Int) := by omega
      have hrq := KALL.out w7 KG7.out 0 (by omega)
      have R7 : Hid (w7.rangeAt G (0 * 6) [.string (P 0).r, .int .i64 (P 0).k, .int .i64 (P 0).n, .int .i64 (P 0).i, .string (P 0).b, .slice (A 0) (P 0).m (C 0)]) := hrq.1
      have hpq := HPS.out 0 (by omega)
      have KC7 : Hid _ := sCopyP_any (P 0).r (P 0).k (P 0).n (P 0).i (P 0).b (A 0) (P 0).m (C 0) (P 0).S w7 hrq.2 (by have := hpq.m; omega)
      have HQ : Hid (PcS (P 0)) := hpq
      clear hrq hpq
      go_wp2_with (refine wpList_load_mid (by rfl) 30 _ (by rfl) G 0 (by rfl) [.string (P 0).r, .int .i64 (P 0).k, .int .i64 (P 0).n, .int .i64 (P 0).i, .string (P 0).b, .slice (A 0) (P 0).m (C 0)] _ ?_ Tryz.underlying30 (by rfl) Tryz.infoPc ?_; (have hR := R7.out; rw [Nat.zero_mul] at hR; exact hR))
      refine Calls.mono KC7.out ?_
      rintro e w8 ⟨gp, cp, rfl, oP, b8⟩
      have KS8 : Hid (SomI w8 w3.heap.size G4 i cc4 A4 C4 P4) := KS7.out.below b8
      have KG8 : Hid (w3.grownBy w8 (some g) ∧ Cur w8 g a n cap) := ⟨grownBy_trans KG7.out (grownB g b8), curBelow hc7 b8⟩
      have KP8 : Hid (OwnT w8 w3.heap.size (some ⟨gp, 0, none⟩) (P 0).m cp (P 0).S ∧ gp ≠ G4) := by
       refine ⟨OwnT.base oP KG7.out.size, fun e => ?_⟩
       have h1 := (World.ownsRow.lt oP gp rfl).1
       have h2 := (World.ownsRow.lt KS7.out.c G4 rfl).2
       omega
      have HL4 : Hid (w3.heap.size ≤ G4) := (World.ownsRow.lt KS7.out.c G4 rfl).1
      have hs8 := KG8.out.1.size
      clear oP b8 KC7 R7 KS7 KG7 hc7
      go_wp2_with (at_builtin; refine wpList_append_lies _ (by rfl) _ _ 24 (by rfl) w3.heap.size 30 j0 (.agg #[.string ByteArray.empty, .int .i64 0, .int .i64 0, .int .i64 0, .string ByteArray.empty, .slice none 0 0]) 6 80 Tryz.underlying24 hj hy0 hy1 hy2 rfl (by decide) (.slice (some ⟨G4, 0, none⟩) i cc4) i _ (by rfl) (World.ownsRow.alloc KS8.out.c _) ⟨w8.heap.size, 0, none⟩ 1 1 [.string (P 0).r, .int .i64 (P 0).k, .int .i64 (P 0).n, .int .i64 (P 0).i, .string (P 0).b, .slice (some ⟨gp, 0, none⟩) (P 0).m cp] (by rfl) (by rfl) (World.news_of_block (cs := #[.string (P 0).r, .int .i64 (P 0).k, .int .i64 (P 0).n, .int .i64 (P 0).i, .string (P 0).b, .slice (some ⟨gp, 0, none⟩) (P 0).m cp]) (t := 30) (fr := (0, 0)) (heap_alloc_new w8 _)) (by simp [Value.oneCell']) (by omega) (by unfold maxLen; omega) (by omega) (by simp; omega) (w8.heap.size + 1) (by simp) ?_; intro g3 cap3 w9 hown3 hgrow3 hat3 hlt3)
      have hgr : World.grownBy (w8.alloc (.cells #[.string (P 0).r, .int .i64 (P 0).k, .int .i64 (P 0).n, .int .i64 (P 0).i, .string (P 0).b, .slice (some ⟨gp, 0, none⟩) (P 0).m cp] 30)) w9 (some G4) := hgrow3
      have HN : Hid (SoR w3 w9 g n cap a (i + 1) (.slice (some ⟨g3, 0, none⟩) (i + 1) cap3)) := by
       refine ⟨g3, cap3, _, _, _, rfl, SomI.snoc (p := P 0) KS8.out KP8.out.1 (fun x e => by cases e; exact KP8.out.2) HQ.out hown3 hgr (by rcases hat3 with e | e; exact .inl (by simpa [Value.ownBlock] using e); exact .inr e), grown_since (grownBy_trans KG8.out.1 (World.grownBy_alloc w8 _ (some g))) hgr HL4.out, Cur.far (Cur.alloc KG8.out.2 _) hgr (by have := HL4.out; have := HGl.out; omega) hab⟩
      clear hown3 hgrow3 hgr hat3 hlt3 KS8 KP8 KG8
      go_roundw
      case rel => exact ⟨i + 1, by omega, HN⟩
      case measure => simp [lnV7]; omega
     ·have hii : ¬ (i : Int) < ((64 + z : Nat) : Int) := by omega
      go_wp2
      go_ret2
      exact ⟨rt, i, _, HPR.out, hi65, rfl, ⟨G4, cc4, A4, C4, P4, rfl, ⟨own_base KS7.out.c HGl.out.1, fun t ht => OwnT.base (KS7.out.t t ht) HGl.out.1, KS7.out.d, KS7.out.s⟩, grownBy_trans HG3.out KG7.out, hc7⟩⟩
theorem drawRegain_any (a : Option Addr) (n cap : Nat) (w : World) (hc : CodeAt w a n) :
  Calls Tryz.prog 13 #[.slice a n cap] w fun e w' => ∃ (r : ByteArray) (j G cc : Nat) (P : Nat → Pc), r.size ≤ 16 ∧ j ≤ 65 ∧ e = .returned (.tuple #[.string r, .slice (some ⟨G, 0, none⟩) j cc]) ∧ PiAt w' (some ⟨G, 0, none⟩) j P ∧ (∀ i, i < j → PcS (P i)) ∧ Below w.heap.size w w' := by
 go_enter Tryz.func13, Tryz.ntmps13
 go_wp2_with fail
 refine (new_any a n cap _ hc.1 hc.bytes).mono ?_
 rintro e w1 ⟨g, rfl, hg, hb1, hc1⟩
 have hab := hc.under hg
 go_wp2_with fail
 refine (some07_any g n cap a _ hc1 hab).mono ?_
 rintro e w2 ⟨r, j, v, hr, hj, rfl, G, cc, A, C, P, rfl, hS, hg2, hc2⟩
 have HF : Hid (r.size ≤ 16 ∧ j ≤ 65 ∧ PiAt w2 (some ⟨G, 0, none⟩) j P ∧ (∀ i, i < j → PcS (P i)) ∧ Below w.heap.size w w2) := ⟨hr, hj, hS.at, hS.s, belowOf hb1 hg hg2⟩
 clear hr hj hS hg2 hc2
 go_wp2
 go_ret2
 exact ⟨r, j, G, cc, P, HF.out.1, HF.out.2.1, rfl, HF.out.2.2.1, HF.out.2.2.2.1, HF.out.2.2.2.2⟩
theorem drawRemake_any (a : Option Addr) (n cap : Nat) (w : World) (hc : CodeAt w a n) :
  Calls Tryz.prog 14 #[.slice a n cap] w fun e w' => ∃ (r : ByteArray) (j G cc : Nat) (P : Nat → Pc) (x : Int), r.size ≤ 16 ∧ j ≤ 65 ∧ e = .returned (.tuple #[.string r, .slice (some ⟨G, 0, none⟩) j cc, .int .i64 x]) ∧ PiAt w' (some ⟨G, 0, none⟩) j P ∧ (∀ i, i < j → PcS (P i)) ∧ Below w.heap.size w w' := by
 go_enter Tryz.func14, Tryz.ntmps14
 go_wp2_with fail
 refine (new_any a n cap _ hc.1 hc.bytes).mono ?_
 rintro e w1 ⟨g, rfl, hg, hb1, hc1⟩
 have hab := hc.under hg
 go_wp2_with fail
 refine (some07_any g n cap a _ hc1 hab).mono ?_
 rintro e w2 ⟨r, j, v, hr, hj, rfl, G, cc, A, C, P, rfl, hS, hg2, hc2⟩
 have HF : Hid (r.size ≤ 16 ∧ j ≤ 65 ∧ SomI w2 w1.heap.size G j cc A C P ∧ Below w.heap.size w w2 ∧ g < w1.heap.size) := ⟨hr, hj, hS, belowOf hb1 hg hg2, hc1.lt⟩
 clear hr hj hS hg2
 go_wp2_with fail
 refine (belowN_any g n cap a _ _ hc2).mono ?_
 rintro e w3 ⟨y, y0, y1, _, rfl, hg3, hc3⟩
 have y2 := y1 (by omega)
 have hw : IntKind.i64.wrap (y - 1) = y - 1 := by rw [IntKind.wrap_i64]; omega
 have HF3 : Hid (PiAt w3 (some ⟨G, 0, none⟩) j P ∧ Below w.heap.size w w3) := ⟨(HF.out.2.2.1.keptG hg3 HF.out.2.2.2.2).at, belowOf HF.out.2.2.2.1 hg hg3⟩
 clear y1 hg3 hc3
 go_wp2
 go_ret3
 exact ⟨r, j, G, cc, P, y - 1, HF.out.1, HF.out.2.1, rfl, HF3.out.1, HF.out.2.2.1.s, HF3.out.2⟩
end Go.Proofs.YtodnodekheaacaaGreatDoor
