import Derived.Test.YtodnodekheaacaaGreatDoorI31
import Derived.Test.YtodnodekheaacaaGreatDoorI27
import Derived.Test.YtodnodekheaacaaGreatDoorI30
import Derived.Test.YtodnodekheaacaaGreatDoorI28
set_option maxHeartbeats 8000000
set_option maxRecDepth 2000
open Go.ChangeShapes Go.WideShapes Go.ChangeAt Go.RowKit
namespace Go.Proofs.YtodnodekheaacaaGreatDoor
theorem zL_snoc1 (f : Nat → Int) (n : Nat) : zL f (n + 1) = zL f n ++ [Value.int .i64 (f n)] := by unfold zL; rw [List.range_succ, List.map_append]; rfl
theorem all_bd {k N : Nat} {S : Nat → ByteArray} (h : KnP k N) (hb : 1 ≤ (S 0).size ∧ (S 0).size ≤ 100) : AllP k N (bdS (k : Int) (N : Int) (eI (fun i => i) k) S) :=
 ⟨h, fun i _ => by rw [bdS, bod_size]; exact hb⟩
theorem lie07_any (g n cap : Nat) (a : Option Addr) (w : World) (hc : Cur w g a n cap) (hab : Under a n g) :
  Calls Tryz.prog 21 #[.pointer (some ⟨g, 0, none⟩)] w fun e w' => ∃ (k N : Nat) (S : Nat → ByteArray) (v : Value), AllP k N S ∧ e = .returned v ∧ ResP w w' v N (cutP (k : Int) N S) ∧ w.grownBy w' (some g) ∧ Cur w' g a n cap := by
 have hgl := hc.lt
 go_enter Tryz.func21, Tryz.ntmps21
 go_wp2_with fail
 refine (kn07_any g n cap a _ hc).mono ?_
 rintro e w1 ⟨k, N, hk, rfl, hg1, hc1⟩
 have HK : Hid (KnP k N) := hk
 clear hk hc
 go_wp2_with fail
 refine (belowN_any g n cap a _ _ hc1).mono ?_
 rintro e w2 ⟨x, x0, x1, _, rfl, hg2, hc2⟩
 have x2 := x1 (by omega)
 obtain ⟨X, rfl⟩ := Int.eq_ofNat_of_zero_le x0
 have HX : Hid (X < 16) := by show X < 16; omega
 have hg12 := grownBy_trans hg1 hg2
 have KB : Hid _ := bytes_any g n cap a X w2 hc2 hab (by omega)
 clear x0 x1 x2 hg1 hg2
 go_wp2_with fail
 refine Calls.mono KB.out ?_
 rintro e w3 ⟨s, hs, rfl, hg3, hc3⟩
 have HS : Hid (s.size < 16) := by have := HX.out; show s.size < 16; omega
 have hg13 := grownBy_trans hg12 hg3
 have HOK : Hid (encOk s (k : Int) (N : Int) = true) := by
  have h1 := HK.out
  have h2 := HS.out
  show _ = _
  unfold encOk
  rw [Bool.and_eq_true]
  exact ⟨decide_eq_true (by omega), sprOk_of (by unfold KnP at h1; omega) (by unfold KnP at h1; omega) (by unfold KnP at h1; omega)⟩
 have KC : Hid (Calls Tryz.prog 50 #[.string s, .int .i64 (k : Int), .int .i64 (N : Int)] w3 fun e w' => ∃ v, e = .returned (.tuple #[v, .bool true]) ∧ ResT w3 w' v N (encS s k) ∧ Below w3.heap.size w3 w') := by
  have := sEncode_any s (k : Int) (N : Int) w3 (by have := HS.out; omega)
  unfold encR at this
  rw [HOK.out, if_pos rfl, Int.toNat_natCast, Int.toNat_natCast] at this
  exact this
 have HSZ : Hid (w.heap.size ≤ w3.heap.size) := hg13.size
 have HG : Hid (w.grownBy w3 (some g)) := hg13
 have HA : Hid (AllP k N (encS s k)) := all_enc HK.out HS.out
 have HE : Hid (∀ i, (encS s k i).size = (encS s k 0).size) := fun i => by rw [encS_size, encS_size]
 have HL20 : Hid (∀ i, (encS s k i).size ≤ 20) := fun i => by
  rw [encS_size]
  have h1 := HK.out
  have h2 := blen_le (s := s.size) (k := k) (by unfold KnP at h1; omega)
  have h3 := HS.out
  omega
 generalize encS s k = S0 at KC HA HE HL20
 clear hs hg12 hg3 hg13 KB hc1 hc2
 go_wp2_with fail
 refine Calls.mono KC.out ?_
 rintro e w4 ⟨v, rfl, ⟨a4, c4, rfl, hO⟩, hb4⟩
 have hN4 := HK.out
 obtain ⟨G, rfl⟩ : ∃ G, a4 = some ⟨G, 0, none⟩ := by
  rcases hO.2 with ⟨_, e⟩ | ⟨g', c', cu, e, _⟩
  ·unfold KnP at hN4; omega
  ·cases e; exact ⟨_, rfl⟩
 have HO4 : Hid (OwnT w4 w.heap.size (some ⟨G, 0, none⟩) N c4 S0) := OwnT.base hO HSZ.out
 have HG4 : Hid (w.grownBy w4 (some g)) := grownBy_trans HG.out (grownB g hb4)
 have hc4 : Cur w4 g a n cap := curBelow hc3 hb4
 have HNk : Hid (1 ≤ N ∧ N ≤ 7 ∧ 1 ≤ k ∧ k ≤ N) := by unfold KnP at hN4; exact ⟨by omega, by omega, by omega, by omega⟩
 clear hO hb4 KC hc3 hN4 HG HSZ HOK
 go_wp2_with fail
 refine (belowN_any g n cap a _ _ hc4).mono ?_
 rintro e w5 ⟨y, y0, y1, _, rfl, hg5, hc5⟩
 have y2 := y1 (by have := HNk.out; omega)
 obtain ⟨i, rfl⟩ := Int.eq_ofNat_of_zero_le y0
 have HI : Hid (i < N) := by show i < N; omega
 clear y0 y1 y2
 go_wp2_with fail
 refine (belowN_any g n cap a _ _ hc5).mono ?_
 rintro e w6 ⟨t, t0, _, _, rfl, hg6, hc6⟩
 have lG := World.ownsRow.lt HO4.out G rfl
 have HO6 : Hid (OwnT w6 w.heap.size (some ⟨G, 0, none⟩) N c4 S0) := OwnT.keptG (OwnT.keptG HO4.out hg5 hgl) hg6 hgl
 have HG6 : Hid (w.grownBy w6 (some g)) := grownBy_trans (grownBy_trans HG4.out hg5) hg6
 have HGl : Hid (w.heap.size ≤ G) := lG.1
 clear hg5 hg6 hc4 hc5 HO4 HG4 lG
 have KALL : Hid (∀ (W : World) (b : Option Addr) (cc : Nat) (T : Nat → ByteArray), TxtAt W b N T → AllP k N T → w.grownBy W (some g) → Cur W g a n cap → Calls Tryz.prog 52 #[.slice b N cc, .int .i64 (k : Int), .int .i64 (N : Int)] W fun e w' => ∃ v, e = .returned v ∧ ResP w w' v N (cutP (k : Int) N T) ∧ w.grownBy w' (some g) ∧ Cur w' g a n cap) := fun W b cc T hT hAT hGW hCW => by
  refine Calls.mono (sAll_any (k : Int) b N cc T W hT (by have := HNk.out; omega) (fun i hi => by have := (hAT.b i hi).2; omega)) ?_
  rintro e w' ⟨v, rfl, ⟨g7, c7, A7, C7, rfl, hO7⟩, hb7⟩
  exact ⟨_, rfl, ⟨g7, c7, A7, C7, rfl, hO7.base hGW.size⟩, grownBy_trans hGW (grownB g hb7), curBelow hCW hb7⟩
 by_cases e0 : t = 0
 ·subst e0
  have hi := HI.out
  have hii : (i : Int) < (N : Int) := by omega
  have q1 : w6.cell? ⟨G, i, none⟩ = some (.string (S0 i)) := by rw [World.ownsRow.cellAt HO6.out i (by omega)]; exact sL_get _ _ _ hi
  obtain ⟨z, HZ⟩ : ∃ z, Hid (S0 i = z) := ⟨_, rfl⟩
  rw [HZ.out] at q1
  have HZ1 : Hid (1 ≤ z.size ∧ z.size ≤ 100) := by have := HA.out.b i hi; rw [HZ.out] at this; exact this
  have KB : Hid _ := bytes_any g n cap a z.size w6 hc6 hab (by have := HZ1.out; omega)
  go_wp2_with fail
  refine Calls.mono KB.out ?_
  rintro e w7 ⟨u, hu, rfl, hg7, hc7⟩
  have HO7 : Hid (OwnT w7 w.heap.size (some ⟨G, 0, none⟩) N c4 S0) := OwnT.keptG HO6.out hg7 hgl
  have hst := World.ownsRow.stored HO7.out i (.string u)
  rw [sL_set _ _ _ _ hi] at hst
  have q2 : w7.cell? ⟨G, i, none⟩ = some (.string z) := by rw [World.ownsRow.cellAt HO7.out i (by omega), ← HZ.out]; exact sL_get _ _ _ hi
  have q3 := World.ownsRow.frozenAt HO7.out i
  obtain ⟨w8, HW8⟩ : ∃ x, Hid (x = w7.setCell ⟨G, i, none⟩ (.string u)) := ⟨_, rfl⟩
  rw [← HW8.out] at hst
  have HAT : Hid (AllP k N (fun j => if j = i then u else S0 j)) := ⟨HK.out, fun j hj => by
   by_cases e : j = i
   ·simp only [e, if_true]; rw [hu]; exact HZ1.out
   ·simp only [e, if_false]; exact HA.out.b j hj⟩
  have KA : Hid _ := KALL.out w8 (some ⟨G, 0, none⟩) c4 (fun j => if j = i then u else S0 j) (OwnT.at (show OwnT _ _ _ _ _ _ from hst.1)) HAT.out (grown_since (grownBy_trans HG6.out hg7) hst.2 HGl.out) (Cur.far hc7 hst.2 (by have := HGl.out; omega) hab)
  clear hst KB q1 hu
  go_wp2_with fail
  rw [← HW8.out]
  refine Calls.mono KA.out ?_
  rintro e w9 ⟨v, rfl, hv, hg9, hc9⟩
  have HF : Hid _ := And.intro hv (And.intro hg9 hc9)
  clear hv hg9 hc9
  go_wp2
  go_ret
  exact ⟨k, N, _, _, HAT.out, rfl, HF.out.1, HF.out.2.1, HF.out.2.2⟩
 have b0 : (t == 0) = false := by simpa using e0
 by_cases e1 : t = 1
 ·subst e1
  have hi := HI.out
  have hii : (i : Int) < (N : Int) := by omega
  have q1 : w6.cell? ⟨G, i, none⟩ = some (.string (S0 i)) := by rw [World.ownsRow.cellAt HO6.out i (by omega)]; exact sL_get _ _ _ hi
  obtain ⟨z, HZ⟩ : ∃ z, Hid (S0 i = z) := ⟨_, rfl⟩
  rw [HZ.out] at q1
  have hz1 : 1 ≤ z.size ∧ z.size ≤ 20 := by
   have h1 := HA.out.b i hi
   rw [HZ.out] at h1
   exact ⟨h1.1, by have := HL20.out i; rw [HZ.out] at this; exact this⟩
  have HZ1 : Hid (1 ≤ z.size ∧ z.size ≤ 20) := hz1
  have hzs : z.size ≤ 20 := hz1.2
  have hst := World.ownsRow.stored HO6.out i (.string (z ++ (⟨#[120]⟩ : ByteArray)))
  rw [sL_set _ _ _ _ hi] at hst
  have q3 := World.ownsRow.frozenAt HO6.out i
  obtain ⟨w8, HW8⟩ : ∃ x, Hid (x = w6.setCell ⟨G, i, none⟩ (.string (z ++ (⟨#[120]⟩ : ByteArray)))) := ⟨_, rfl⟩
  rw [← HW8.out] at hst
  have HAT : Hid (AllP k N (fun j => if j = i then z ++ (⟨#[120]⟩ : ByteArray) else S0 j)) := ⟨HK.out, fun j hj => by
   by_cases e : j = i
   ·simp only [e, if_true]
    rw [ByteArray.size_append]
    have h1 : (⟨#[120]⟩ : ByteArray).size = 1 := rfl
    have := HZ1.out
    omega
   ·simp only [e, if_false]; exact HA.out.b j hj⟩
  have KA : Hid _ := KALL.out w8 (some ⟨G, 0, none⟩) c4 (fun j => if j = i then z ++ (⟨#[120]⟩ : ByteArray) else S0 j) (OwnT.at (show OwnT _ _ _ _ _ _ from hst.1)) HAT.out (grown_since HG6.out hst.2 HGl.out) (Cur.far hc6 hst.2 (by have := HGl.out; omega) hab)
  clear hst hz1
  go_wp2_with fail
  rw [← HW8.out]
  refine Calls.mono KA.out ?_
  rintro e w9 ⟨v, rfl, hv, hg9, hc9⟩
  have HF : Hid _ := And.intro hv (And.intro hg9 hc9)
  clear hv hg9 hc9
  go_wp2
  go_ret
  exact ⟨k, N, _, _, HAT.out, rfl, HF.out.1, HF.out.2.1, HF.out.2.2⟩
 have b1 : (t == 1) = false := by simpa using e1
 obtain ⟨i0, hi, hz0, hz1, hz2⟩ := info_parts Tryz.infoInt
 obtain ⟨w7, HW7⟩ : ∃ x, Hid (x = w6.alloc (.cells #[] 3)) := ⟨_, rfl⟩
 have HI7 : Hid (w7.ownsRow w6.heap.size 3 1 (.slice (some ⟨w6.heap.size, 0, none⟩) 0 0) 0 (zL (fun j => (j : Int)) 0)) := by
  show World.ownsRow _ _ _ _ _ _ _
  rw [HW7.out]
  exact World.ownsRow_lit w6 #[] 0 (Nat.le_refl _) (by unfold maxLen; omega) rfl
 have HB67 : Hid (Below w6.heap.size w6 w7) := by show Below _ _ _; rw [HW7.out]; exact (Below.refl _ _).alloc (Nat.le_refl _) _
 have hkk : k ≤ 7 := by have := HNk.out; omega
 go_wp2_with fail
 rw [← HW7.out]
 go_loopw [8, 9] (fun v vi wr => ∃ j gg cc : Nat, j ≤ k ∧ vi = .int .i64 (j : Int) ∧ v = .slice (some ⟨gg, 0, none⟩) j cc ∧ wr.ownsRow w6.heap.size 3 1 (.slice (some ⟨gg, 0, none⟩) j cc) j (zL (fun j => (j : Int)) j) ∧ Below w6.heap.size w6 wr) (fun _ vi _ => k - (intOf vi).toNat)
 case atStart => exact ⟨0, w6.heap.size, 0, Nat.zero_le _, rfl, rfl, HI7.out, HB67.out⟩
 case round =>
  obtain ⟨j, gg, cc, hj, rfl, rfl, hown, hbel⟩ := hrel
  clear HI7 HB67 HW7
  have lgg := World.ownsRow.lt hown gg rfl
  have hs6 := hbel.size
  by_cases hlt : j < k
  ·have hji : (j : Int) < (k : Int) := by omega
   have KO : Hid _ := hown
   have KBl : Hid (Below w6.heap.size w6 wr) := hbel
   clear hown hbel
   go_wp2_with (at_builtin; refine wpList_append_lies _ (by rfl) _ _ 25 (by rfl) w6.heap.size 3 i0 (.int .i64 0) 1 8 Tryz.underlying25 hi hz0 hz1 hz2 rfl (by decide) (.slice (some ⟨gg, 0, none⟩) j cc) j _ (by rfl) (World.ownsRow.alloc KO.out _) ⟨wr.heap.size, 0, none⟩ 1 1 [.int .i64 (j : Int)] (by rfl) (by rfl) (World.news_of_block (cs := #[.int .i64 (j : Int)]) (t := 3) (fr := (0, 0)) (heap_alloc_new wr _)) (by simp [Value.oneCell']) (by omega) (by unfold maxLen; omega) (by omega) (by simp; omega) (wr.heap.size + 1) (by simp) ?_; intro g2 cap3 w8 hown2 hgrow hat hltg)
   have HN8 : Hid (w8.ownsRow w6.heap.size 3 1 (.slice (some ⟨g2, 0, none⟩) (j + 1) cap3) (j + 1) (zL (fun j => (j : Int)) (j + 1)) ∧ Below w6.heap.size w6 w8) := by
    refine ⟨by rw [zL_snoc1]; exact hown2, ?_⟩
    exact (KBl.out.alloc hs6 _).grown (show World.grownBy _ w8 (some gg) from hgrow) (by simp; omega) (fun q hq => by cases hq; exact lgg.1)
   clear hown2 hgrow hat hltg KO KBl
   go_roundw
   case rel => exact ⟨j + 1, g2, cap3, by omega, by go_num, rfl, HN8.out.1, HN8.out.2⟩
   case measure => simp [intOf]; omega
  ·obtain rfl : k = j := by omega
   have hNk := HNk.out
   have HOr : Hid (OwnT wr w.heap.size (some ⟨G, 0, none⟩) N c4 S0) := OwnT.below HO6.out hbel
   have HGr : Hid (w.grownBy wr (some g) ∧ Cur wr g a n cap) := ⟨grownBy_trans HG6.out (grownB g hbel), curBelow hc6 hbel⟩
   have h0N : (0 : Int) < (N : Int) := by omega
   have q1 : wr.cell? ⟨G, 0, none⟩ = some (.string (S0 0)) := by rw [World.ownsRow.cellAt HOr.out 0 (by omega)]; exact sL_get _ _ _ (by omega)
   have q3 := World.ownsRow.frozenAt HOr.out 0
   obtain ⟨z, HZ⟩ : ∃ z, Hid (S0 0 = z) := ⟨_, rfl⟩
   rw [HZ.out] at q1
   have HZ1 : Hid (1 ≤ z.size ∧ z.size ≤ 100) := by have := HA.out.b 0 (by omega); rw [HZ.out] at this; exact this
   have hz1' : 1 ≤ z.size := HZ1.out.1
   have hz2' : z.size ≤ 100 := HZ1.out.2
   have hzi : (1 : Int) ≤ (z.size : Int) := by omega
   obtain ⟨z', HZ'⟩ : ∃ x, Hid (x = (⟨#[255]⟩ ++ z.extract 1 z.size : ByteArray)) := ⟨_, rfl⟩
   have HZs : Hid (z'.size = z.size) := by
    show _ = _
    rw [HZ'.out, ByteArray.size_append, ByteArray.size_extract]
    have h1 : (⟨#[255]⟩ : ByteArray).size = 1 := rfl
    omega
   have hst := World.ownsRow.stored HOr.out 0 (.string z')
   rw [sL_set _ _ _ _ (show 0 < N by omega)] at hst
   obtain ⟨w8, HW8⟩ : ∃ x, Hid (x = wr.setCell ⟨G, 0, none⟩ (.string z')) := ⟨_, rfl⟩
   rw [← HW8.out] at hst
   have hgG : gg ≠ G := fun e => by have := World.ownsRow.lt HO6.out G rfl; omega
   have HI8 : Hid (IntsAt w8 (some ⟨gg, 0, none⟩) k (eI (fun i => i) k)) := by
    have ho8 := own_kept hown hst.2 (fun x e => by cases e; exact hgG)
    refine ⟨eI_len _ _, fun q hq => ⟨gg, 0, rfl, ?_⟩⟩
    rw [Nat.zero_add, World.ownsRow.cellAt ho8 q (by omega), zL_get _ _ _ hq, eI_getD _ _ _ hq]
   have HT8 : Hid (TxtAt w8 (some ⟨G, 0, none⟩) k (fun j => if j = 0 then z' else S0 j)) := (OwnT.at (show OwnT _ _ _ _ _ _ from hst.1)).less (by omega)
   have HR : Hid (Rgt (k : Int) (N : Int) (eI (fun i => i) k) k (fun j => if j = 0 then z' else S0 j)) := by
    refine ⟨sprOk_of (by omega) (by omega) (by omega), by rw [eI_len], rfl, by simp only [if_true]; rw [HZs.out]; omega, fun q hq => ⟨?_, ?_, fun j hj => ?_⟩⟩
    ·rw [eI_getD _ _ _ hq]; omega
    ·by_cases e : q = 0
     ·simp [e]
     ·simp only [e, if_false, if_true]
      rw [HE.out q, HZ.out, HZs.out]
    ·rw [eI_getD _ _ _ hq, eI_getD _ _ _ (by omega)]; omega
   have KBd : Hid (Calls Tryz.prog 51 #[.int .i64 (k : Int), .int .i64 (N : Int), .slice (some ⟨gg, 0, none⟩) k cc, .slice (some ⟨G, 0, none⟩) k c4] w8 fun e w' => ∃ v, e = .returned (.tuple #[v, .bool true]) ∧ ResT w8 w' v N (bdS (k : Int) (N : Int) (eI (fun i => i) k) (fun j => if j = 0 then z' else S0 j)) ∧ Below w8.heap.size w8 w') := by
    have := sBodies_any (k : Int) (N : Int) (some ⟨gg, 0, none⟩) k cc (eI (fun i => i) k) (some ⟨G, 0, none⟩) k c4 (fun j => if j = 0 then z' else S0 j) w8 HI8.out HT8.out (fun _ => by simp only [if_true]; rw [HZs.out]; omega)
    unfold bdR at this
    rw [rgt_yes HR.out, if_pos rfl, Int.toNat_natCast] at this
    exact this
   have HAT : Hid (AllP k N (bdS (k : Int) (N : Int) (eI (fun i => i) k) (fun j => if j = 0 then z' else S0 j))) := all_bd HK.out (by simp only [if_true]; rw [HZs.out]; exact HZ1.out)
   have HG8 : Hid (w.grownBy w8 (some g) ∧ Cur w8 g a n cap) := ⟨grown_since HGr.out.1 hst.2 HGl.out, Cur.far HGr.out.2 hst.2 (by have := HGl.out; omega) hab⟩
   have hkc : (k : Int) ≤ (c4 : Int) := by
    rcases HOr.out.2 with ⟨e, _⟩ | ⟨g', c', cu, e, _, _, h5, _⟩
    ·cases e
    ·cases e; omega
   have hk0 : (0 : Int) ≤ (k : Int) := by omega
   clear hst hown hbel lgg HO6 HOr HGr
   rw [HZ'.out] at HW8
   go_wp2_with fail
   rw [← HW8.out]
   refine Calls.mono KBd.out ?_
   rintro e w9 ⟨v, rfl, ⟨a9, c9, rfl, hO9⟩, hb9⟩
   have KA : Hid _ := KALL.out w9 a9 c9 _ (OwnT.at hO9) HAT.out (grownBy_trans HG8.out.1 (grownB g hb9)) (curBelow HG8.out.2 hb9)
   clear hO9 hb9
   go_wp2_with fail
   refine Calls.mono KA.out ?_
   rintro e w10 ⟨v, rfl, hv, hg10, hc10⟩
   have HF : Hid _ := And.intro hv (And.intro hg10 hc10)
   clear hv hg10 hc10
   go_wp2
   go_ret
   exact ⟨k, N, _, _, HAT.out, rfl, HF.out.1, HF.out.2.1, HF.out.2.2⟩
end Go.Proofs.YtodnodekheaacaaGreatDoor
