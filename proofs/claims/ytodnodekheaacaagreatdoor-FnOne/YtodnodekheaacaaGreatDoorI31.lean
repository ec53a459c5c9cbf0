import Derived.Test.YtodnodekheaacaaGreatDoorI28
import Derived.Test.YtodnodekheaacaaGreatDoorI10
import Derived.Test.YtodnodekheaacaaGreatDoorI29
set_option maxHeartbeats 8000000
set_option maxRecDepth 2000
open Go.ChangeShapes Go.WideShapes Go.ChangeAt Go.RowKit
namespace Go.Proofs.YtodnodekheaacaaGreatDoor
def KnP (k N : Nat) : Prop := (k = 2 ∧ N = 4) ∨ (k = 3 ∧ N = 7)
structure AllP (k N : Nat) (S : Nat → ByteArray) : Prop where
 kn : KnP k N
 b : ∀ i, i < N → 1 ≤ (S i).size ∧ (S i).size ≤ 100
theorem all_lvB {k N : Nat} {S : Nat → ByteArray} (h : KnP k N) : lvB N (lvs (k : Int) N S) = true := by
 unfold lvB
 rw [Bool.and_eq_true]
 refine ⟨aS_yes (fun i hi => ?_), ?_⟩
 ·unfold lvs
  rw [plf_yes _ (by unfold KnP at h; omega) (by unfold KnP at h; omega) (by unfold KnP at h; omega)]
  exact Gt.lf_size _
 ·unfold inB
  exact decide_eq_true (by unfold KnP at h; omega)
theorem all_pfB {k N : Nat} {S : Nat → ByteArray} (h : KnP k N) {i : Nat} (hi : i < N) : pfB N (lvs (k : Int) N S) (i : Int) = true := by
 unfold pfB
 rw [Bool.and_eq_true]
 exact ⟨all_lvB h, by unfold inT; exact decide_eq_true (by unfold KnP at h; omega)⟩
theorem all_ok {k N : Nat} {S : Nat → ByteArray} (h : AllP k N S) {i : Nat} (hi : i < N) : okP (cutP (k : Int) N S i).r (cutP (k : Int) N S i).k (cutP (k : Int) N S i).n (cutP (k : Int) N S i).i (cutP (k : Int) N S i).b (cutP (k : Int) N S i).m (cutP (k : Int) N S i).S = true := by
 have hkn := h.kn
 have hb := h.b i hi
 have hk : kOk (k : Int) (N : Int) (S i) := ⟨by unfold KnP at hkn; omega, by unfold KnP at hkn; omega, by unfold KnP at hkn; omega, by omega, by omega⟩
 show okP (rtS N (lvs (k : Int) N S)) (k : Int) (N : Int) (i : Int) (S i) (pfR N (lvs (k : Int) N S) (i : Int)) (pfF N (lvs (k : Int) N S) (i : Int)) = true
 rw [okP_yes hk]
 exact pv_true (all_pfB hkn hi)
theorem all_root {k N : Nat} {S : Nat → ByteArray} (h : KnP k N) : (rtS N (lvs (k : Int) N S)).size = 16 := by
 have hl := all_lvB (S := S) h
 obtain ⟨h1, h2, h3⟩ := lvB_parts hl
 unfold rtS
 rw [if_pos hl]
 exact Gt.rt_size (by omega) h3
theorem all_enc {k N : Nat} {s : ByteArray} (h : KnP k N) (hs : s.size < 16) : AllP k N (encS s k) := by
 refine ⟨h, fun i _ => ?_⟩
 rw [encS_size]
 have h1 := blen_pos (s := s.size) (k := k) (by unfold KnP at h; omega)
 have h2 := blen_le (s := s.size) (k := k) (by unfold KnP at h; omega)
 omega
theorem pf_16 {N : Nat} {S : Nat → ByteArray} {i : Int} {j : Nat} (hj : j < pfR N S i) : (pfF N S i j).size = 16 := by
 unfold pfR at hj
 by_cases hB : pfB N S i = true
 ·rw [if_pos hB] at hj
  obtain ⟨h1, h2⟩ := pfB_parts hB
  have h3 := lvB_parts h1
  exact Gt.pf_size _ (by simp [inT] at h2; omega) h3.2.2 j hj
 ·rw [if_neg hB] at hj; omega
structure PcS (p : Pc) : Prop where
 r : p.r.size ≤ 4096
 b : p.b.size ≤ 4096
 m : p.m ≤ 64
 s : ∀ j, j < p.m → (p.S j).size ≤ 4096
theorem all_s {k N : Nat} {S : Nat → ByteArray} (h : AllP k N S) {i : Nat} (hi : i < N) : PcS (cutP (k : Int) N S i) := by
 refine ⟨?_, ?_, ?_, fun j hj => ?_⟩
 ·show (rtS N (lvs (k : Int) N S)).size ≤ _
  rw [all_root h.kn]; omega
 ·have := h.b i hi
  show (S i).size ≤ _
  omega
 ·have := pfR_le N (lvs (k : Int) N S) (i : Int)
  show pfR N (lvs (k : Int) N S) (i : Int) ≤ _
  omega
 ·have : (pfF N (lvs (k : Int) N S) (i : Int) j).size = 16 := pf_16 hj
  show (pfF N (lvs (k : Int) N S) (i : Int) j).size ≤ _
  omega
theorem Row.keptG {w w' : World} {g G : Nat} {t : TypeId} {cs : Array Value} (h : Row w G t cs) (hg : w.grownBy w' (some g)) (hne : G ≠ g) : Row w' G t cs := (hg.block G h.lt (fun e => hne (by cases e; rfl))).trans h
theorem kn07_any (g n cap : Nat) (a : Option Addr) (w : World) (hc : Cur w g a n cap) :
  Calls Tryz.prog 47 #[.pointer (some ⟨g, 0, none⟩)] w fun e w' => ∃ k N : Nat, KnP k N ∧ e = .returned (.tuple #[.int .i64 (k : Int), .int .i64 (N : Int)]) ∧ w.grownBy w' (some g) ∧ Cur w' g a n cap := by
 go_enter Tryz.func47, Tryz.ntmps47
 go_wp2_with fail
 refine (belowN_any g n cap a _ _ hc).mono ?_
 rintro e w1 ⟨x, x0, x1, _, rfl, hg1, hc1⟩
 have x2 := x1 (by omega)
 have hx : x = 0 ∨ x = 1 := by omega
 clear x0 x1 x2
 rcases hx with rfl | rfl
 ·go_wp2
  go_ret2
  exact ⟨2, 4, .inl ⟨rfl, rfl⟩, rfl, hg1, hc1⟩
 ·go_wp2
  go_ret2
  exact ⟨3, 7, .inr ⟨rfl, rfl⟩, rfl, hg1, hc1⟩
theorem pieces07_any (g n cap : Nat) (a : Option Addr) (w : World) (hc : Cur w g a n cap) (hab : Under a n g) :
  Calls Tryz.prog 19 #[.pointer (some ⟨g, 0, none⟩)] w fun e w' => ∃ (k N : Nat) (S : Nat → ByteArray) (v : Value), AllP k N S ∧ (∃ s : ByteArray, s.size < 16 ∧ S = encS s k) ∧ e = .returned v ∧ ResP w w' v N (cutP (k : Int) N S) ∧ w.grownBy w' (some g) ∧ Cur w' g a n cap := by
 go_enter Tryz.func19, Tryz.ntmps19
 go_wp2_with fail
 refine (kn07_any g n cap a _ hc).mono ?_
 rintro e w1 ⟨k, N, hk, rfl, hg1, hc1⟩
 have HK : Hid (KnP k N) := hk
 clear hk hc
 go_wp2_with fail
 refine (belowN_any g n cap a _ _ hc1).mono ?_
 rintro e w2 ⟨x, x0, x1, _, rfl, hg2, hc2⟩
 have x2 := x1 (by omega)
 obtain ⟨X, rfl⟩ := Int.eq_ofNat_of_zero_le x0
 have HX : Hid (X < 16) := by show X < 16; omega
 have hg12 := grownBy_trans hg1 hg2
 have KB : Hid _ := bytes_any g n cap a X w2 hc2 hab (by omega)
 clear x0 x1 x2 hg1 hg2
 go_wp2_with fail
 refine Calls.mono KB.out ?_
 rintro e w3 ⟨s, hs, rfl, hg3, hc3⟩
 have HS : Hid (s.size < 16) := by have := HX.out; show s.size < 16; omega
 have hg13 := grownBy_trans hg12 hg3
 have HOK : Hid (encOk s (k : Int) (N : Int) = true) := by
  have h1 := HK.out
  have h2 := HS.out
  show _ = _
  unfold encOk
  rw [Bool.and_eq_true]
  exact ⟨decide_eq_true (by omega), sprOk_of (by unfold KnP at h1; omega) (by unfold KnP at h1; omega) (by unfold KnP at h1; omega)⟩
 have KC : Hid (Calls Tryz.prog 48 #[.string s, .int .i64 (k : Int), .int .i64 (N : Int)] w3 fun e w' => ∃ v, e = .returned (.tuple #[v, .bool true]) ∧ ResP w3 w' v N (cutP (k : Int) N (encS s k)) ∧ Below w3.heap.size w3 w') := by
  have := sCut_any s (k : Int) (N : Int) w3 (by have := HS.out; omega)
  unfold cutR at this
  rw [HOK.out, if_pos rfl, Int.toNat_natCast, Int.toNat_natCast] at this
  exact this
 have HSZ : Hid (w.heap.size ≤ w3.heap.size) := hg13.size
 have HG : Hid (w.grownBy w3 (some g)) := hg13
 clear hs hg12 hg3 hg13 KB hc1 hc2
 go_wp2_with fail
 refine Calls.mono KC.out ?_
 rintro e w4 ⟨v, rfl, ⟨G, c4, A, C, rfl, hO⟩, hb4⟩
 have HO : Hid (OwnP w4 w.heap.size (some ⟨G, 0, none⟩) N c4 A C (cutP (k : Int) N (encS s k))) := hO.base HSZ.out
 have HG4 : Hid (w.grownBy w4 (some g) ∧ Cur w4 g a n cap) := ⟨grownBy_trans HG.out (grownB g hb4), curBelow hc3 hb4⟩
 clear hO hb4 KC
 go_wp2
 go_ret
 exact ⟨k, N, encS s k, _, all_enc HK.out HS.out, ⟨s, HS.out, rfl⟩, rfl, ⟨G, c4, A, C, rfl, HO.out⟩, HG4.out.1, HG4.out.2⟩
end Go.Proofs.YtodnodekheaacaaGreatDoor
