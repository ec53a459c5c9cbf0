import Derived.Test.YtaenoiffamgcfaaGreatDoorM21
import Derived.Test.YtaenoiffamgcfaaGreatDoorM19
import Derived.Test.YtaenoiffamgcfaaGreatDoorM10
import Derived.Test.YtaenoiffamgcfaaGreatDoorM14
set_option maxHeartbeats 8000000
set_option maxRecDepth 2000
open Go.ChangeShapes Go.WideShapes Go.ChangeAt Go.RowKit
namespace Go.Proofs.YtaenoiffamgcfaaGreatDoor
def KnP (k N : Nat) : Prop := (k = 2 ∧ N = 4) ∨ (k = 3 ∧ N = 7)
structure AllP (k N : Nat) (S : Nat → ByteArray) : Prop where
 kn : KnP k N
 b : ∀ i, i < N → 1 ≤ (S i).size ∧ (S i).size ≤ 100
theorem all_lvB {k N : Nat} {S : Nat → ByteArray} (h : KnP k N) : lvB N (lvs (k : Int) N S) = true := by
 unfold lvB
 rw [Bool.and_eq_true]
 refine ⟨aS_yes (fun i hi => ?_), ?_⟩
 ·unfold lvs
  rw [plf_yes _ (by unfold KnP at h; omega) (by unfold KnP at h; omega) (by unfold KnP at h; omega)]
  exact Gt.lf_size _
 ·unfold inB
  exact decide_eq_true (by unfold KnP at h; omega)
theorem all_pfB {k N : Nat} {S : Nat → ByteArray} (h : KnP k N) {i : Nat} (hi : i < N) : pfB N (lvs (k : Int) N S) (i : Int) = true := by
 unfold pfB
 rw [Bool.and_eq_true]
 exact ⟨all_lvB h, by unfold inT; exact decide_eq_true (by unfold KnP at h; omega)⟩
theorem all_root {k N : Nat} {S : Nat → ByteArray} (h : KnP k N) : (rtS N (lvs (k : Int) N S)).size = 16 := by
 have hl := all_lvB (S := S) h
 obtain ⟨h1, h2, h3⟩ := lvB_parts hl
 unfold rtS
 rw [if_pos hl]
 exact Gt.rt_size (by omega) h3
theorem pl_one_more {i N : Nat} (h : N = 4 ∨ N = 7) (hi : i < N) : 1 ≤ Gt.pl i N := by
 rcases h with rfl | rfl
 ·by_cases hb : Gt.nb i < 4
  ·rw [Gt.pl_yes i (by omega) hb]; omega
  ·exact absurd (show Gt.nb i < 4 by
    match i, hi with
    | 0, _ | 1, _ | 2, _ | 3, _ => decide) hb
 ·by_cases hb : Gt.nb i < 7
  ·rw [Gt.pl_yes i (by omega) hb]; omega
  ·rw [Gt.pl_no i (by omega) hb]
   have h2 : Gt.hf 7 = 4 := by decide
   have h3 : Gt.nb (i / 2) < 4 := by
    match i, hi with
    | 0, _ | 1, _ | 2, _ | 3, _ | 4, _ | 5, _ | 6, _ => decide
   rw [h2, Gt.pl_yes _ (by omega) h3]; omega
theorem all_m {k N : Nat} {S : Nat → ByteArray} (h : KnP k N) {i : Nat} (hi : i < N) : 1 ≤ pfR N (lvs (k : Int) N S) (i : Int) := by
 unfold pfR
 rw [if_pos (all_pfB h hi), Int.toNat_natCast]
 exact pl_one_more (by unfold KnP at h; omega) hi
theorem all_enc {k N : Nat} {s : ByteArray} (h : KnP k N) (hs : s.size < 16) : AllP k N (encS s k) := by
 refine ⟨h, fun i _ => ?_⟩
 rw [encS_size]
 have h1 := blen_pos (s := s.size) (k := k) (by unfold KnP at h; omega)
 have h2 := blen_le (s := s.size) (k := k) (by unfold KnP at h; omega)
 omega
theorem pf_16 {N : Nat} {S : Nat → ByteArray} {i : Int} {j : Nat} (hj : j < pfR N S i) : (pfF N S i j).size = 16 := by
 unfold pfR at hj
 by_cases hB : pfB N S i = true
 ·rw [if_pos hB] at hj
  obtain ⟨h1, h2⟩ := pfB_parts hB
  have h3 := lvB_parts h1
  exact Gt.pf_size _ (by simp [inT] at h2; omega) h3.2.2 j hj
 ·rw [if_neg hB] at hj; omega
structure PcS (p : Pc) : Prop where
 r : p.r.size ≤ 4096
 b : p.b.size ≤ 4096
 m : p.m ≤ 64
 s : ∀ j, j < p.m → (p.S j).size ≤ 4096
 z : (-2 ≤ p.k ∧ p.k ≤ 99) ∧ (-2 ≤ p.n ∧ p.n ≤ 99) ∧ (-2 ≤ p.i ∧ p.i ≤ 99)
theorem all_s {k N : Nat} {S : Nat → ByteArray} (h : AllP k N S) {i : Nat} (hi : i < N) : PcS (cutP (k : Int) N S i) := by
 refine ⟨?_, ?_, ?_, fun j hj => ?_, ?_⟩
 ·show (rtS N (lvs (k : Int) N S)).size ≤ _
  rw [all_root h.kn]; omega
 ·have := h.b i hi
  show (S i).size ≤ _
  omega
 ·have := pfR_le N (lvs (k : Int) N S) (i : Int)
  show pfR N (lvs (k : Int) N S) (i : Int) ≤ _
  omega
 ·have : (pfF N (lvs (k : Int) N S) (i : Int) j).size = 16 := pf_16 hj
  show (pfF N (lvs (k : Int) N S) (i : Int) j).size ≤ _
  omega
 ·have h1 := h.kn
  unfold KnP at h1
  show (-2 ≤ (k : Int) ∧ (k : Int) ≤ 99) ∧ (-2 ≤ (N : Int) ∧ (N : Int) ≤ 99) ∧ (-2 ≤ (i : Int) ∧ (i : Int) ≤ 99)
  omega
theorem Row.keptG {w w' : World} {g G : Nat} {t : TypeId} {cs : Array Value} (h : Row w G t cs) (hg : w.grownBy w' (some g)) (hne : G ≠ g) : Row w' G t cs := (hg.block G h.lt (fun e => hne (by cases e; rfl))).trans h
theorem grown_cell (w : World) (D o : Nat) (v : Value) : w.grownBy (w.setCell ⟨D, o, none⟩ v) (some D) := ⟨rfl, rfl, rfl, by simp, fun i _ hi => heap_setCell_other w ⟨D, o, none⟩ i v (fun e => hi (by simp [e]))⟩
theorem OwnT.head {w : World} {B : Nat} {a : Option Addr} {n c : Nat} {S : Nat → ByteArray} (h : OwnT w B a n c S) {m : Nat} (hm : m ≤ n) (h0 : 0 < n) : OwnT w B a m c S := by
 obtain ⟨h1, h2⟩ := h
 refine ⟨by rw [sL_len]; omega, ?_⟩
 rcases h2 with ⟨_, e⟩ | ⟨g, cap, cur, e, hb, hh, hl, hx, hs, ht⟩
 ·omega
 ·cases e
  refine .inr ⟨g, c, cur, rfl, hb, hh, by omega, hx, hs, ?_⟩
  have : (cur.toList.take (n * 1)).take (m * 1) = (sL S n).take (m * 1) := by rw [ht]
  rw [List.take_take, Nat.min_eq_left (by omega)] at this
  rw [this]
  apply List.ext_getElem?
  intro j
  by_cases hj : j < m
  ·rw [List.getElem?_take_of_lt (by omega)]
   simp [sL, hj, show j < n by omega]
  ·rw [List.getElem?_eq_none (by simp [sL_len]; omega), List.getElem?_eq_none (by simp [sL_len]; omega)]
theorem pickP_any (P : Int → Prop) (g n cap : Nat) (a : Option Addr) (lb off m lc : Nat) (w : World) (hc : Cur w g a n cap) (hm : 0 < m) (hm2 : m ≤ 256) (hl : lb ≠ g)
  (hcell : ∀ i, i < m → ∃ z, w.cell? ⟨lb, off + i, none⟩ = some (.int .i64 z) ∧ P z) :
  Calls Tryz.prog 47 #[.pointer (some ⟨g, 0, none⟩), .slice (some ⟨lb, off, none⟩) m lc] w fun e w' => ∃ x : Int, e = .returned (.int .i64 x) ∧ P x ∧ w.grownBy w' (some g) ∧ Cur w' g a n cap := by
 go_enter Tryz.func47, Tryz.ntmps47
 go_wp2_with fail
 refine (belowN_any g n cap a _ _ hc).mono ?_
 rintro e w1 ⟨x, x0, x1, _, rfl, hg, hc1⟩
 have x2 := x1 (by omega)
 obtain ⟨k, rfl⟩ := Int.eq_ofNat_of_zero_le x0
 obtain ⟨z, hz, hP⟩ := hcell k (by omega)
 have hz1 := hg.cell hz (by simpa using hl)
 clear hcell hz x1
 go_wp2
 go_ret
 exact ⟨_, rfl, hP, hg, hc1⟩
theorem lit_cellsP {w : World} {cs : List Int} {ty : TypeId} {P : Int → Prop} (h : ∀ z ∈ cs, P z) : ∀ i, i < cs.length → ∃ z, (w.alloc (.cells (cs.map (Value.int .i64)).toArray ty)).cell? ⟨w.heap.size, 0 + i, none⟩ = some (.int .i64 z) ∧ P z := by
 intro i hi
 rw [Nat.zero_add, cell_of_row _ _ _ _ ty _ (heap_alloc_new w _)]
 exact ⟨cs[i], by simp [hi], h _ (List.getElem_mem hi)⟩
theorem kn07_any (g n cap : Nat) (a : Option Addr) (w : World) (hc : Cur w g a n cap) :
  Calls Tryz.prog 75 #[.pointer (some ⟨g, 0, none⟩)] w fun e w' => ∃ k N : Nat, KnP k N ∧ e = .returned (.tuple #[.int .i64 (k : Int), .int .i64 (N : Int)]) ∧ w.grownBy w' (some g) ∧ Cur w' g a n cap := by
 go_enter Tryz.func75, Tryz.ntmps75
 go_wp2_with fail
 refine (belowN_any g n cap a _ _ hc).mono ?_
 rintro e w1 ⟨x, x0, x1, _, rfl, hg1, hc1⟩
 have x2 := x1 (by omega)
 have hx : x = 0 ∨ x = 1 := by omega
 clear x0 x1 x2
 rcases hx with rfl | rfl
 ·go_wp2
  go_ret2
  exact ⟨2, 4, .inl ⟨rfl, rfl⟩, rfl, hg1, hc1⟩
 ·go_wp2
  go_ret2
  exact ⟨3, 7, .inr ⟨rfl, rfl⟩, rfl, hg1, hc1⟩
theorem pieces07_any (g n cap : Nat) (a : Option Addr) (w : World) (hc : Cur w g a n cap) (hab : Under a n g) :
  Calls Tryz.prog 46 #[.pointer (some ⟨g, 0, none⟩)] w fun e w' => ∃ (k N : Nat) (S : Nat → ByteArray) (v : Value), AllP k N S ∧ (∃ s : ByteArray, s.size < 16 ∧ S = encS s k) ∧ e = .returned v ∧ ResP w w' v N (cutP (k : Int) N S) ∧ w.grownBy w' (some g) ∧ Cur w' g a n cap := by
 go_enter Tryz.func46, Tryz.ntmps46
 go_wp2_with fail
 refine (kn07_any g n cap a _ hc).mono ?_
 rintro e w1 ⟨k, N, hk, rfl, hg1, hc1⟩
 have HK : Hid (KnP k N) := hk
 clear hk hc
 go_wp2_with fail
 refine (belowN_any g n cap a _ _ hc1).mono ?_
 rintro e w2 ⟨x, x0, x1, _, rfl, hg2, hc2⟩
 have x2 := x1 (by omega)
 obtain ⟨X, rfl⟩ := Int.eq_ofNat_of_zero_le x0
 have HX : Hid (X < 16) := by show X < 16; omega
 have hg12 := grownBy_trans hg1 hg2
 have KB : Hid _ := bytes_any g n cap a X w2 hc2 hab (by omega)
 clear x0 x1 x2 hg1 hg2
 go_wp2_with fail
 refine Calls.mono KB.out ?_
 rintro e w3 ⟨s, hs, rfl, hg3, hc3⟩
 have HS : Hid (s.size < 16) := by have := HX.out; show s.size < 16; omega
 have hg13 := grownBy_trans hg12 hg3
 have HOK : Hid (encOk s (k : Int) (N : Int) = true) := by
  have h1 := HK.out
  have h2 := HS.out
  show _ = _
  unfold encOk
  rw [Bool.and_eq_true]
  exact ⟨decide_eq_true (by omega), sprOk_of (by unfold KnP at h1; omega) (by unfold KnP at h1; omega) (by unfold KnP at h1; omega)⟩
 have KC : Hid (Calls Tryz.prog 51 #[.string s, .int .i64 (k : Int), .int .i64 (N : Int)] w3 fun e w' => ∃ v, e = .returned (.tuple #[v, .bool true]) ∧ ResP w3 w' v N (cutP (k : Int) N (encS s k)) ∧ Below w3.heap.size w3 w') := by
  have := sCut_any s (k : Int) (N : Int) w3 (by have := HS.out; omega)
  unfold cutR at this
  rw [HOK.out, if_pos rfl, Int.toNat_natCast, Int.toNat_natCast] at this
  exact this
 have HSZ : Hid (w.heap.size ≤ w3.heap.size) := hg13.size
 have HG : Hid (w.grownBy w3 (some g)) := hg13
 clear hs hg12 hg3 hg13 KB hc1 hc2
 go_wp2_with fail
 refine Calls.mono KC.out ?_
 rintro e w4 ⟨v, rfl, ⟨G, c4, A, C, rfl, hO⟩, hb4⟩
 have HO : Hid (OwnP w4 w.heap.size (some ⟨G, 0, none⟩) N c4 A C (cutP (k : Int) N (encS s k))) := hO.base HSZ.out
 have HG4 : Hid (w.grownBy w4 (some g) ∧ Cur w4 g a n cap) := ⟨grownBy_trans HG.out (grownB g hb4), curBelow hc3 hb4⟩
 clear hO hb4 KC
 go_wp2
 go_ret
 exact ⟨k, N, encS s k, _, all_enc HK.out HS.out, ⟨s, HS.out, rfl⟩, rfl, ⟨G, c4, A, C, rfl, HO.out⟩, HG4.out.1, HG4.out.2⟩
theorem piece07_any (g n cap : Nat) (a : Option Addr) (w : World) (hc : Cur w g a n cap) (hab : Under a n g) :
  Calls Tryz.prog 25 #[.pointer (some ⟨g, 0, none⟩)] w fun e w' => ∃ (p : Pc) (ap : Option Addr) (cp : Nat), e = .returned (pcV p.r p.k p.n p.i p.b (.slice ap p.m cp)) ∧ PcS p ∧ OwnT w' w.heap.size ap p.m cp p.S ∧ w.grownBy w' (some g) ∧ Cur w' g a n cap := by
 have hgl := hc.lt
 obtain ⟨R, HR⟩ : ∃ x, Hid (x = w.heap.size) := ⟨_, rfl⟩
 obtain ⟨w0, HW0⟩ : ∃ x, Hid (x = w.alloc (.cells #[.string ⟨#[]⟩, .int .i64 0, .int .i64 0, .int .i64 0, .string ⟨#[]⟩, .slice none 0 0] 32)) := ⟨_, rfl⟩
 have RR0 : Hid (Row w0 R 32 #[.string ⟨#[]⟩, .int .i64 0, .int .i64 0, .int .i64 0, .string ⟨#[]⟩, .slice none 0 0]) := by show Row _ _ _ _; rw [HW0.out, HR.out]; exact Row.new w _ _
 have G0 : Hid (w.grownBy w0 (some g)) := by show World.grownBy _ _ _; rw [HW0.out]; exact World.grownBy_alloc w _ (some g)
 have hc0 : Cur w0 g a n cap := by rw [HW0.out]; exact Cur.alloc hc _
 have HRl : Hid (g < R ∧ R < w0.heap.size ∧ w.heap.size ≤ R ∧ w0.heap.size = w.heap.size + 1) := ⟨by have := HR.out; omega, RR0.out.lt, by have := HR.out; omega, by rw [HW0.out]; simp⟩
 have KP : Hid _ := pieces07_any g n cap a w0 hc0 hab
 have FIN : Hid (∀ (W : World) (cs : Array Value) (ap : Option Addr) (m cp : Nat) (S : Nat → ByteArray), Row W R 32 #[.string ⟨#[]⟩, .int .i64 0, .int .i64 0, .int .i64 0, .string ⟨#[]⟩, .slice none 0 0] → OwnT W w0.heap.size ap m cp S → w.grownBy W (some g) → Cur W g a n cap → Row (W.setRow R cs) R 32 cs ∧ OwnT (W.setRow R cs) w.heap.size ap m cp S ∧ w.grownBy (W.setRow R cs) (some g) ∧ Cur (W.setRow R cs) g a n cap) := fun W cs ap m cp S h1 h2 h3 h4 => by
  have l := HRl.out
  refine ⟨h1.row, ?_, grown_since h3 (grown_row W R cs) l.2.2.1, Cur.far h4 (grown_row W R cs) l.1 hab⟩
  refine own_kept (OwnT.base h2 (by omega)) (grown_row W R cs) (fun x e => ?_)
  subst e
  have := (World.ownsRow.lt h2 x.block rfl).1
  omega
 clear hc hc0
 go_enter Tryz.func25, Tryz.ntmps25
 go_wp2_with fail
 rw [← HW0.out]
 refine Calls.mono KP.out ?_
 rintro e w1 ⟨k, N, S, v, hA, _, rfl, ⟨G, c1, A, C, rfl, hO⟩, hg1, hc1⟩
 have KA : Hid (AllP k N S ∧ OwnP w1 w0.heap.size (some ⟨G, 0, none⟩) N c1 A C (cutP (k : Int) N S)) := ⟨hA, hO⟩
 have RR1 : Hid (Row w1 R 32 #[.string ⟨#[]⟩, .int .i64 0, .int .i64 0, .int .i64 0, .string ⟨#[]⟩, .slice none 0 0]) := RR0.out.keptG hg1 (by have := HRl.out; omega)
 have G1 : Hid (w.grownBy w1 (some g)) := grownBy_trans G0.out hg1
 have HN : Hid (1 ≤ N ∧ N ≤ 7) := by have := hA.kn; unfold KnP at this; exact ⟨by omega, by omega⟩
 clear hO hA hg1 KP RR0 G0
 go_wp2_with fail
 refine (belowN_any g n cap a _ _ hc1).mono ?_
 rintro e w2 ⟨x, x0, x1, _, rfl, hg2, hc2⟩
 have x2 := x1 (by have := HN.out; omega)
 obtain ⟨q, rfl⟩ := Int.eq_ofNat_of_zero_le x0
 have hq : q < N := by omega
 have hqi : (q : Int) < (N : Int) := by omega
 have hOp := KA.out.2
 have lG := World.ownsRow.lt hOp.1 G rfl
 have hO2 : OwnC w2 w0.heap.size (some ⟨G, 0, none⟩) N c1 (fun i => cel (cutP (k : Int) N S i) (.slice (A i) (cutP (k : Int) N S i).m (C i))) := own_kept hOp.1 hg2 (fun y e => by cases e; have := HRl.out; show G ≠ g; omega)
 have hT2 : OwnT w2 w0.heap.size (A q) (cutP (k : Int) N S q).m (C q) (cutP (k : Int) N S q).S := OwnT.keptG (hOp.2.1 q hq) hg2 (by have := HRl.out; omega)
 obtain ⟨rt, HRT⟩ : ∃ x, Hid (rtS N (lvs (k : Int) N S) = x) := ⟨_, rfl⟩
 obtain ⟨m, HM⟩ : ∃ x, Hid (pfR N (lvs (k : Int) N S) (q : Int) = x) := ⟨_, rfl⟩
 obtain ⟨F, HF⟩ : ∃ x, Hid (pfF N (lvs (k : Int) N S) (q : Int) = x) := ⟨_, rfl⟩
 obtain ⟨b, HB⟩ : ∃ x, Hid (S q = x) := ⟨_, rfl⟩
 obtain ⟨ap, HAP⟩ : ∃ x, Hid (A q = x) := ⟨_, rfl⟩
 obtain ⟨cp, HCP⟩ : ∃ x, Hid (C q = x) := ⟨_, rfl⟩
 have HPS0 : Hid (PcS ⟨rt, (k : Int), (N : Int), (q : Int), b, m, F⟩ ∧ 1 ≤ m ∧ rt.size ≤ 16 ∧ b.size ≤ 100) := by
  have h1 := all_s KA.out.1 hq
  have h2 := all_m (S := S) KA.out.1.kn hq
  have h3 := all_root (S := S) KA.out.1.kn
  have h4 := KA.out.1.b q hq
  rw [HRT.out] at h3
  rw [HM.out] at h2
  rw [HB.out] at h4
  refine ⟨?_, h2, by omega, by omega⟩
  have e : cutP (k : Int) N S q = ⟨rt, (k : Int), (N : Int), (q : Int), b, m, F⟩ := by
   show (⟨rtS N (lvs (k : Int) N S), (k : Int), (N : Int), (q : Int), S q, pfR N (lvs (k : Int) N S) (q : Int), pfF N (lvs (k : Int) N S) (q : Int)⟩ : Pc) = _
   rw [HRT.out, HM.out, HF.out, HB.out]
  rw [e] at h1
  exact h1
 have OT2 : Hid (OwnT w2 w0.heap.size ap m cp F) := by
  have e1 : (cutP (k : Int) N S q).m = m := HM.out
  have e2 : (cutP (k : Int) N S q).S = F := HF.out
  rw [e1, e2, HAP.out, HCP.out] at hT2
  exact hT2
 have R2 : Hid (w2.rangeAt G (q * 6) [.string rt, .int .i64 (k : Int), .int .i64 (N : Int), .int .i64 (q : Int), .string b, .slice ap m cp]) := by
  have hcell : ∀ j, j < 6 → w2.cell? ⟨G, q * 6 + j, none⟩ = some (cel (cutP (k : Int) N S q) (.slice ap m cp) j) := fun j hj => by
   have := hO2.cell hq hj
   have e1 : (cutP (k : Int) N S q).m = m := HM.out
   simp only [HAP.out, HCP.out, e1] at this
   exact this
  have g0 : (cutP (k : Int) N S q).r = rt := HRT.out
  have g4 : (cutP (k : Int) N S q).b = b := HB.out
  intro j v hv
  match j, hv with
  | 0, hv => cases hv; have := hcell 0 (by omega); rw [← g0]; exact this
  | 1, hv => cases hv; exact hcell 1 (by omega)
  | 2, hv => cases hv; exact hcell 2 (by omega)
  | 3, hv => cases hv; exact hcell 3 (by omega)
  | 4, hv => cases hv; have := hcell 4 (by omega); rw [← g4]; exact this
  | 5, hv => cases hv; exact hcell 5 (by omega)
  | j + 6, hv => simp at hv
 obtain ⟨D, HD⟩ : ∃ x, Hid (x = w2.heap.size) := ⟨_, rfl⟩
 obtain ⟨w3, HW3⟩ : ∃ x, Hid (x = w2.alloc (.cells (pcC rt (k : Int) (N : Int) (q : Int) b (.slice ap m cp)) 32)) := ⟨_, rfl⟩
 have RD3 : Hid (Row w3 D 32 (pcC rt (k : Int) (N : Int) (q : Int) b (.slice ap m cp))) := by show Row _ _ _ _; rw [HW3.out, HD.out]; exact Row.new w2 _ _
 have RR3 : Hid (Row w3 R 32 #[.string ⟨#[]⟩, .int .i64 0, .int .i64 0, .int .i64 0, .string ⟨#[]⟩, .slice none 0 0]) := by show Row _ _ _ _; rw [HW3.out]; exact (RR1.out.keptG hg2 (by have := HRl.out; omega)).alloc _
 have OT3 : Hid (OwnT w3 w0.heap.size ap m cp F) := by show OwnT _ _ _ _ _ _; rw [HW3.out]; exact World.ownsRow.alloc OT2.out _
 have G3 : Hid (w.grownBy w3 (some g)) := by show World.grownBy _ _ _; rw [HW3.out]; exact grownBy_trans (grownBy_trans G1.out hg2) (World.grownBy_alloc w2 _ (some g))
 have hc3 : Cur w3 g a n cap := by rw [HW3.out]; exact Cur.alloc hc2 _
 have HDl : Hid (R < D ∧ g < D ∧ D < w3.heap.size ∧ (∀ x, ap = some x → x.block ≠ D)) := by
  have l := HRl.out
  have s1 := G1.out.size
  have s2 := hg2.size
  have hd := HD.out
  have lR := (RR1.out.keptG hg2 (by omega)).lt
  refine ⟨by omega, by omega, RD3.out.lt, fun x e => ?_⟩
  have h5 := OT2.out
  rw [e] at h5
  have := (World.ownsRow.lt h5 x.block rfl).2
  omega
 clear x0 x1 x2 hOp lG hO2 hT2 hq HRT HM HF HB HAP HCP KA RR1 G1 OT2 hg2 hc2 hc1
 go_wp2_with (refine wpList_load_mid (by rfl) 32 _ (by rfl) G (q * 6) (by rfl) [.string rt, .int .i64 (k : Int), .int .i64 (N : Int), .int .i64 (q : Int), .string b, .slice ap m cp] _ ?_ Tryz.underlying32 (by rfl) Tryz.infoPc ?_; exact R2.out)
 rw [← HW3.out, ← HD.out, ← HR.out]
 refine (belowN_any g n cap a 12 _ hc3).mono ?_
 rintro e w4 ⟨s, s0, _, _, rfl, hg4, hc4⟩
 have RD : Hid (Row w4 D 32 (pcC rt (k : Int) (N : Int) (q : Int) b (.slice ap m cp))) := RD3.out.keptG hg4 (by have := HDl.out; omega)
 have RR4 : Hid (Row w4 R 32 #[.string ⟨#[]⟩, .int .i64 0, .int .i64 0, .int .i64 0, .string ⟨#[]⟩, .slice none 0 0]) := RR3.out.keptG hg4 (by have := HRl.out; omega)
 have OT : Hid (OwnT w4 w0.heap.size ap m cp F) := OwnT.keptG OT3.out hg4 (by have := HRl.out; omega)
 have G4 : Hid (w.grownBy w4 (some g)) := grownBy_trans G3.out hg4
 have SET : Hid (∀ (W : World) (o : Nat) (v : Value) (cs : Array Value), Row W D 32 cs → Row W R 32 #[.string ⟨#[]⟩, .int .i64 0, .int .i64 0, .int .i64 0, .string ⟨#[]⟩, .slice none 0 0] → w.grownBy W (some g) → Cur W g a n cap → Row (W.setCell ⟨D, o, none⟩ v) D 32 (cs.setIfInBounds o v) ∧ Row (W.setCell ⟨D, o, none⟩ v) R 32 #[.string ⟨#[]⟩, .int .i64 0, .int .i64 0, .int .i64 0, .string ⟨#[]⟩, .slice none 0 0] ∧ w.grownBy (W.setCell ⟨D, o, none⟩ v) (some g) ∧ Cur (W.setCell ⟨D, o, none⟩ v) g a n cap) := fun W o v cs h1 h2 h3 h4 => by
  have l := HDl.out
  have l2 := HRl.out
  exact ⟨h1.set o v, h2.other o v (by omega), grown_since h3 (grown_cell W D o v) (by omega), Cur.far h4 (grown_cell W D o v) l.2.1 hab⟩
 have OTS : Hid (∀ (W : World) (o : Nat) (v : Value), OwnT W w0.heap.size ap m cp F → OwnT (W.setCell ⟨D, o, none⟩ v) w0.heap.size ap m cp F) := fun W o v h => own_kept h (grown_cell W D o v) HDl.out.2.2.2
 have KCC : Hid (Cur w4 g a n cap) := hc4
 clear RD3 RR3 OT3 G3 hg4 R2 HW3 HD HW0
 have y0 := RD.out.cell 0
 have y1 := RD.out.cell 1
 have y2 := RD.out.cell 2
 have y3 := RD.out.cell 3
 have y4 := RD.out.cell 4
 have y5 := RD.out.cell 5
 simp at y0 y1 y2 y3 y4 y5
 have z0 := RD.out.free 0
 have z1 := RD.out.free 1
 have z2 := RD.out.free 2
 have z3 := RD.out.free 3
 have z4 := RD.out.free 4
 have z5 := RD.out.free 5
 by_cases e0 : s = 0
 ·subst e0
  have RDw : Hid (Row w4 D 32 (pcC rt (k : Int) (N : Int) (q : Int) b (.slice ap m cp))) := RD.out
  have RRw : Hid (Row w4 R 32 #[.string ⟨#[]⟩, .int .i64 0, .int .i64 0, .int .i64 0, .string ⟨#[]⟩, .slice none 0 0]) := RR4.out
  have GGw : Hid (w.grownBy w4 (some g)) := G4.out
  have CCw : Hid (Cur w4 g a n cap) := KCC.out
  have OTw : Hid (OwnT w4 w0.heap.size ap m cp F) := OT.out
  have hbs : b.size ≤ 100 := HPS0.out.2.2.2
  obtain ⟨u, HU⟩ : ∃ x, Hid (x = w4.setCell ⟨D, 4, none⟩ (.string (b ++ (⟨#[120]⟩ : ByteArray)))) := ⟨_, rfl⟩
  have HUs : Hid _ := SET.out w4 4 (.string (b ++ (⟨#[120]⟩ : ByteArray))) (pcC rt (k : Int) (N : Int) (q : Int) b (.slice ap m cp)) RDw.out RRw.out GGw.out CCw.out
  rw [← HU.out] at HUs
  have RR : Hid (Row u R 32 #[.string ⟨#[]⟩, .int .i64 0, .int .i64 0, .int .i64 0, .string ⟨#[]⟩, .slice none 0 0]) := HUs.out.2.1
  have GG : Hid (w.grownBy u (some g)) := HUs.out.2.2.1
  have CC : Hid (Cur u g a n cap) := HUs.out.2.2.2
  have OU : Hid (OwnT u w0.heap.size ap m cp F) := by show OwnT _ _ _ _ _ _; rw [HU.out]; exact OTS.out _ _ _ OTw.out
  obtain ⟨uz, HUZ⟩ : ∃ x, Hid (x = u.setRow R (pcC rt (k : Int) (N : Int) (q : Int) (b ++ (⟨#[120]⟩ : ByteArray)) (.slice ap m cp))) := ⟨_, rfl⟩
  have FU : Hid (Row uz R 32 (pcC rt (k : Int) (N : Int) (q : Int) (b ++ (⟨#[120]⟩ : ByteArray)) (.slice ap m cp)) ∧ OwnT uz w.heap.size ap m cp F ∧ w.grownBy uz (some g) ∧ Cur uz g a n cap) := by rw [HUZ.out]; exact FIN.out u (pcC rt (k : Int) (N : Int) (q : Int) (b ++ (⟨#[120]⟩ : ByteArray)) (.slice ap m cp)) ap m cp F RR.out OU.out GG.out CC.out
  have HPS : Hid (PcS ⟨rt, (k : Int), (N : Int), (q : Int), (b ++ (⟨#[120]⟩ : ByteArray)), m, F⟩) := ⟨HPS0.out.1.r, by show (b ++ ⟨#[120]⟩ : ByteArray).size ≤ 4096; rw [ByteArray.size_append]; have := HPS0.out.2.2.2; have h1 : (⟨#[120]⟩ : ByteArray).size = 1 := rfl; omega, HPS0.out.1.m, HPS0.out.1.s, HPS0.out.1.z⟩
  have RDx : Hid (Row u D 32 (pcC rt (k : Int) (N : Int) (q : Int) (b ++ (⟨#[120]⟩ : ByteArray)) (.slice ap m cp))) := HUs.out.1
  go_wp2_with (first | (rw [← HU.out]; refine wpList_load_row (by rfl) 32 _ (by rfl) D (by rfl) 32 (pcC rt (k : Int) (N : Int) (q : Int) (b ++ (⟨#[120]⟩ : ByteArray)) (.slice ap m cp)) (0, 0) _ ?_ Tryz.underlying32 (by rfl) Tryz.infoPc ?_; exact RDx.out) | (refine wpList_store_row (by rfl) 32 _ _ (by rfl) R (pcC rt (k : Int) (N : Int) (q : Int) (b ++ (⟨#[120]⟩ : ByteArray)) (.slice ap m cp)) (by rfl) (by rfl) 32 #[.string ⟨#[]⟩, .int .i64 0, .int .i64 0, .int .i64 0, .string ⟨#[]⟩, .slice none 0 0] ?_ Tryz.infoPc rfl (by simp [Value.oneCell']) ?_; exact RR.out; rw [← HUZ.out]))
  exact bodyPost_ret (v := .agg (pcC rt (k : Int) (N : Int) (q : Int) (b ++ (⟨#[120]⟩ : ByteArray)) (.slice ap m cp))) (results_cell_row Tryz.results25 _ _ R 32 _ (0, 0) _ (by rfl) FU.out.1 Tryz.underlying32 (by rfl) Tryz.infoPc) rfl ⟨⟨rt, (k : Int), (N : Int), (q : Int), (b ++ (⟨#[120]⟩ : ByteArray)), m, F⟩, ap, cp, rfl, HPS.out, FU.out.2.1, FU.out.2.2.1, FU.out.2.2.2⟩
 have b0 : (s == 0) = false := by simpa using e0
 by_cases e1 : s = 1
 ·subst e1
  have hNl := HN.out
  have hw : IntKind.i64.wrap ((N : Int) + 2) = (N : Int) + 2 := by rw [IntKind.wrap_i64]; omega
  go_wp2_with fail
  refine (belowN_any g n cap a _ _ hc4).mono ?_
  rintro e w5 ⟨y, yy0, yy1, _, rfl, hg5, hc5⟩
  have yy2 := yy1 (by omega)
  clear yy1
  have hw2 : IntKind.i64.wrap (y - 1) = y - 1 := by rw [IntKind.wrap_i64]; omega
  have RDw : Hid (Row w5 D 32 (pcC rt (k : Int) (N : Int) (q : Int) b (.slice ap m cp))) := RD.out.keptG hg5 (by have := HDl.out; omega)
  have RRw : Hid (Row w5 R 32 #[.string ⟨#[]⟩, .int .i64 0, .int .i64 0, .int .i64 0, .string ⟨#[]⟩, .slice none 0 0]) := RR4.out.keptG hg5 (by have := HRl.out; omega)
  have GGw : Hid (w.grownBy w5 (some g)) := grownBy_trans G4.out hg5
  have CCw : Hid (Cur w5 g a n cap) := hc5
  have OTw : Hid (OwnT w5 w0.heap.size ap m cp F) := OwnT.keptG OT.out hg5 (by have := HRl.out; omega)
  have Y0 := RDw.out.cell 0
  have Y1 := RDw.out.cell 1
  have Y2 := RDw.out.cell 2
  have Y3 := RDw.out.cell 3
  have Y4 := RDw.out.cell 4
  have Y5 := RDw.out.cell 5
  simp at Y0 Y1 Y2 Y3 Y4 Y5
  have Z0 := RDw.out.free 0
  have Z1 := RDw.out.free 1
  have Z2 := RDw.out.free 2
  have Z3 := RDw.out.free 3
  have Z4 := RDw.out.free 4
  have Z5 := RDw.out.free 5
  clear y0 y1 y2 y3 y4 y5 z0 z1 z2 z3 z4 z5
  obtain ⟨u, HU⟩ : ∃ x, Hid (x = w5.setCell ⟨D, 3, none⟩ (.int .i64 (y - 1))) := ⟨_, rfl⟩
  have HUs : Hid _ := SET.out w5 3 (.int .i64 (y - 1)) (pcC rt (k : Int) (N : Int) (q : Int) b (.slice ap m cp)) RDw.out RRw.out GGw.out CCw.out
  rw [← HU.out] at HUs
  have RR : Hid (Row u R 32 #[.string ⟨#[]⟩, .int .i64 0, .int .i64 0, .int .i64 0, .string ⟨#[]⟩, .slice none 0 0]) := HUs.out.2.1
  have GG : Hid (w.grownBy u (some g)) := HUs.out.2.2.1
  have CC : Hid (Cur u g a n cap) := HUs.out.2.2.2
  have OU : Hid (OwnT u w0.heap.size ap m cp F) := by show OwnT _ _ _ _ _ _; rw [HU.out]; exact OTS.out _ _ _ OTw.out
  obtain ⟨uz, HUZ⟩ : ∃ x, Hid (x = u.setRow R (pcC rt (k : Int) (N : Int) (y - 1) b (.slice ap m cp))) := ⟨_, rfl⟩
  have FU : Hid (Row uz R 32 (pcC rt (k : Int) (N : Int) (y - 1) b (.slice ap m cp)) ∧ OwnT uz w.heap.size ap m cp F ∧ w.grownBy uz (some g) ∧ Cur uz g a n cap) := by rw [HUZ.out]; exact FIN.out u (pcC rt (k : Int) (N : Int) (y - 1) b (.slice ap m cp)) ap m cp F RR.out OU.out GG.out CC.out
  have HPS : Hid (PcS ⟨rt, (k : Int), (N : Int), (y - 1), b, m, F⟩) := ⟨HPS0.out.1.r, HPS0.out.1.b, HPS0.out.1.m, HPS0.out.1.s, HPS0.out.1.z.1, HPS0.out.1.z.2.1, by show -2 ≤ y - 1; omega, by show y - 1 ≤ 99; omega⟩
  have RDx : Hid (Row u D 32 (pcC rt (k : Int) (N : Int) (y - 1) b (.slice ap m cp))) := HUs.out.1
  go_wp2_with (first | (rw [← HU.out]; refine wpList_load_row (by rfl) 32 _ (by rfl) D (by rfl) 32 (pcC rt (k : Int) (N : Int) (y - 1) b (.slice ap m cp)) (0, 0) _ ?_ Tryz.underlying32 (by rfl) Tryz.infoPc ?_; exact RDx.out) | (refine wpList_store_row (by rfl) 32 _ _ (by rfl) R (pcC rt (k : Int) (N : Int) (y - 1) b (.slice ap m cp)) (by rfl) (by rfl) 32 #[.string ⟨#[]⟩, .int .i64 0, .int .i64 0, .int .i64 0, .string ⟨#[]⟩, .slice none 0 0] ?_ Tryz.infoPc rfl (by simp [Value.oneCell']) ?_; exact RR.out; rw [← HUZ.out]))
  exact bodyPost_ret (v := .agg (pcC rt (k : Int) (N : Int) (y - 1) b (.slice ap m cp))) (results_cell_row Tryz.results25 _ _ R 32 _ (0, 0) _ (by rfl) FU.out.1 Tryz.underlying32 (by rfl) Tryz.infoPc) rfl ⟨⟨rt, (k : Int), (N : Int), (y - 1), b, m, F⟩, ap, cp, rfl, HPS.out, FU.out.2.1, FU.out.2.2.1, FU.out.2.2.2⟩
 have b1 : (s == 1) = false := by simpa using e1
 by_cases e2 : s = 2
 ·subst e2
  have hNl := HN.out
  have hw : IntKind.i64.wrap ((N : Int) + 1) = (N : Int) + 1 := by rw [IntKind.wrap_i64]; omega
  have hlw := hc4.lt
  have hca := Cur.alloc hc4 (.cells #[.int .i64 0, .int .i64 1, .int .i64 ((N : Int) + 1)] 3)
  go_wp2_with fail
  refine (pickP_any (fun z => -2 ≤ z ∧ z ≤ 99) g n cap a w4.heap.size 0 3 _ _ hca (by omega) (by omega) (by omega) (lit_cellsP (cs := [0, 1, ((N : Int) + 1)]) (by simp; omega))).mono ?_
  rintro e w5 ⟨y, rfl, hPy, hg5', hc5⟩
  have hg5 := grownBy_trans (World.grownBy_alloc w4 (.cells #[.int .i64 0, .int .i64 1, .int .i64 ((N : Int) + 1)] 3) (some g)) hg5'
  have RDw : Hid (Row w5 D 32 (pcC rt (k : Int) (N : Int) (q : Int) b (.slice ap m cp))) := RD.out.keptG hg5 (by have := HDl.out; omega)
  have RRw : Hid (Row w5 R 32 #[.string ⟨#[]⟩, .int .i64 0, .int .i64 0, .int .i64 0, .string ⟨#[]⟩, .slice none 0 0]) := RR4.out.keptG hg5 (by have := HRl.out; omega)
  have GGw : Hid (w.grownBy w5 (some g)) := grownBy_trans G4.out hg5
  have CCw : Hid (Cur w5 g a n cap) := hc5
  have OTw : Hid (OwnT w5 w0.heap.size ap m cp F) := OwnT.keptG OT.out hg5 (by have := HRl.out; omega)
  have Y0 := RDw.out.cell 0
  have Y1 := RDw.out.cell 1
  have Y2 := RDw.out.cell 2
  have Y3 := RDw.out.cell 3
  have Y4 := RDw.out.cell 4
  have Y5 := RDw.out.cell 5
  simp at Y0 Y1 Y2 Y3 Y4 Y5
  have Z0 := RDw.out.free 0
  have Z1 := RDw.out.free 1
  have Z2 := RDw.out.free 2
  have Z3 := RDw.out.free 3
  have Z4 := RDw.out.free 4
  have Z5 := RDw.out.free 5
  clear y0 y1 y2 y3 y4 y5 z0 z1 z2 z3 z4 z5
  obtain ⟨u, HU⟩ : ∃ x, Hid (x = w5.setCell ⟨D, 1, none⟩ (.int .i64 y)) := ⟨_, rfl⟩
  have HUs : Hid _ := SET.out w5 1 (.int .i64 y) (pcC rt (k : Int) (N : Int) (q : Int) b (.slice ap m cp)) RDw.out RRw.out GGw.out CCw.out
  rw [← HU.out] at HUs
  have RR : Hid (Row u R 32 #[.string ⟨#[]⟩, .int .i64 0, .int .i64 0, .int .i64 0, .string ⟨#[]⟩, .slice none 0 0]) := HUs.out.2.1
  have GG : Hid (w.grownBy u (some g)) := HUs.out.2.2.1
  have CC : Hid (Cur u g a n cap) := HUs.out.2.2.2
  have OU : Hid (OwnT u w0.heap.size ap m cp F) := by show OwnT _ _ _ _ _ _; rw [HU.out]; exact OTS.out _ _ _ OTw.out
  obtain ⟨uz, HUZ⟩ : ∃ x, Hid (x = u.setRow R (pcC rt y (N : Int) (q : Int) b (.slice ap m cp))) := ⟨_, rfl⟩
  have FU : Hid (Row uz R 32 (pcC rt y (N : Int) (q : Int) b (.slice ap m cp)) ∧ OwnT uz w.heap.size ap m cp F ∧ w.grownBy uz (some g) ∧ Cur uz g a n cap) := by rw [HUZ.out]; exact FIN.out u (pcC rt y (N : Int) (q : Int) b (.slice ap m cp)) ap m cp F RR.out OU.out GG.out CC.out
  have HPS : Hid (PcS ⟨rt, y, (N : Int), (q : Int), b, m, F⟩) := ⟨HPS0.out.1.r, HPS0.out.1.b, HPS0.out.1.m, HPS0.out.1.s, hPy, HPS0.out.1.z.2⟩
  have RDx : Hid (Row u D 32 (pcC rt y (N : Int) (q : Int) b (.slice ap m cp))) := HUs.out.1
  go_wp2_with (first | (rw [← HU.out]; refine wpList_load_row (by rfl) 32 _ (by rfl) D (by rfl) 32 (pcC rt y (N : Int) (q : Int) b (.slice ap m cp)) (0, 0) _ ?_ Tryz.underlying32 (by rfl) Tryz.infoPc ?_; exact RDx.out) | (refine wpList_store_row (by rfl) 32 _ _ (by rfl) R (pcC rt y (N : Int) (q : Int) b (.slice ap m cp)) (by rfl) (by rfl) 32 #[.string ⟨#[]⟩, .int .i64 0, .int .i64 0, .int .i64 0, .string ⟨#[]⟩, .slice none 0 0] ?_ Tryz.infoPc rfl (by simp [Value.oneCell']) ?_; exact RR.out; rw [← HUZ.out]))
  exact bodyPost_ret (v := .agg (pcC rt y (N : Int) (q : Int) b (.slice ap m cp))) (results_cell_row Tryz.results25 _ _ R 32 _ (0, 0) _ (by rfl) FU.out.1 Tryz.underlying32 (by rfl) Tryz.infoPc) rfl ⟨⟨rt, y, (N : Int), (q : Int), b, m, F⟩, ap, cp, rfl, HPS.out, FU.out.2.1, FU.out.2.2.1, FU.out.2.2.2⟩
 have b2 : (s == 2) = false := by simpa using e2
 by_cases e3 : s = 3
 ·subst e3
  go_wp2_with fail
  refine (sleaf_any ⟨#[]⟩ _ (by decide)).mono ?_
  rintro e w5 ⟨rfl, hb5⟩
  have hg5 := grownB g hb5
  have hc5 := curBelow hc4 hb5
  have HX : Hid ((Gt.lf ⟨#[]⟩).size ≤ 16) := by show _ ≤ _; rw [Gt.lf_size]; omega
  generalize Gt.lf ⟨#[]⟩ = y at HX
  have RDw : Hid (Row w5 D 32 (pcC rt (k : Int) (N : Int) (q : Int) b (.slice ap m cp))) := RD.out.keptG hg5 (by have := HDl.out; omega)
  have RRw : Hid (Row w5 R 32 #[.string ⟨#[]⟩, .int .i64 0, .int .i64 0, .int .i64 0, .string ⟨#[]⟩, .slice none 0 0]) := RR4.out.keptG hg5 (by have := HRl.out; omega)
  have GGw : Hid (w.grownBy w5 (some g)) := grownBy_trans G4.out hg5
  have CCw : Hid (Cur w5 g a n cap) := hc5
  have OTw : Hid (OwnT w5 w0.heap.size ap m cp F) := OwnT.keptG OT.out hg5 (by have := HRl.out; omega)
  have Y0 := RDw.out.cell 0
  have Y1 := RDw.out.cell 1
  have Y2 := RDw.out.cell 2
  have Y3 := RDw.out.cell 3
  have Y4 := RDw.out.cell 4
  have Y5 := RDw.out.cell 5
  simp at Y0 Y1 Y2 Y3 Y4 Y5
  have Z0 := RDw.out.free 0
  have Z1 := RDw.out.free 1
  have Z2 := RDw.out.free 2
  have Z3 := RDw.out.free 3
  have Z4 := RDw.out.free 4
  have Z5 := RDw.out.free 5
  clear y0 y1 y2 y3 y4 y5 z0 z1 z2 z3 z4 z5
  obtain ⟨u, HU⟩ : ∃ x, Hid (x = w5.setCell ⟨D, 0, none⟩ (.string y)) := ⟨_, rfl⟩
  have HUs : Hid _ := SET.out w5 0 (.string y) (pcC rt (k : Int) (N : Int) (q : Int) b (.slice ap m cp)) RDw.out RRw.out GGw.out CCw.out
  rw [← HU.out] at HUs
  have RR : Hid (Row u R 32 #[.string ⟨#[]⟩, .int .i64 0, .int .i64 0, .int .i64 0, .string ⟨#[]⟩, .slice none 0 0]) := HUs.out.2.1
  have GG : Hid (w.grownBy u (some g)) := HUs.out.2.2.1
  have CC : Hid (Cur u g a n cap) := HUs.out.2.2.2
  have OU : Hid (OwnT u w0.heap.size ap m cp F) := by show OwnT _ _ _ _ _ _; rw [HU.out]; exact OTS.out _ _ _ OTw.out
  obtain ⟨uz, HUZ⟩ : ∃ x, Hid (x = u.setRow R (pcC y (k : Int) (N : Int) (q : Int) b (.slice ap m cp))) := ⟨_, rfl⟩
  have FU : Hid (Row uz R 32 (pcC y (k : Int) (N : Int) (q : Int) b (.slice ap m cp)) ∧ OwnT uz w.heap.size ap m cp F ∧ w.grownBy uz (some g) ∧ Cur uz g a n cap) := by rw [HUZ.out]; exact FIN.out u (pcC y (k : Int) (N : Int) (q : Int) b (.slice ap m cp)) ap m cp F RR.out OU.out GG.out CC.out
  have HPS : Hid (PcS ⟨y, (k : Int), (N : Int), (q : Int), b, m, F⟩) := ⟨by have := HX.out; show y.size ≤ 4096; omega, HPS0.out.1.b, HPS0.out.1.m, HPS0.out.1.s, HPS0.out.1.z⟩
  have RDx : Hid (Row u D 32 (pcC y (k : Int) (N : Int) (q : Int) b (.slice ap m cp))) := HUs.out.1
  go_wp2_with (first | (rw [← HU.out]; refine wpList_load_row (by rfl) 32 _ (by rfl) D (by rfl) 32 (pcC y (k : Int) (N : Int) (q : Int) b (.slice ap m cp)) (0, 0) _ ?_ Tryz.underlying32 (by rfl) Tryz.infoPc ?_; exact RDx.out) | (refine wpList_store_row (by rfl) 32 _ _ (by rfl) R (pcC y (k : Int) (N : Int) (q : Int) b (.slice ap m cp)) (by rfl) (by rfl) 32 #[.string ⟨#[]⟩, .int .i64 0, .int .i64 0, .int .i64 0, .string ⟨#[]⟩, .slice none 0 0] ?_ Tryz.infoPc rfl (by simp [Value.oneCell']) ?_; exact RR.out; rw [← HUZ.out]))
  exact bodyPost_ret (v := .agg (pcC y (k : Int) (N : Int) (q : Int) b (.slice ap m cp))) (results_cell_row Tryz.results25 _ _ R 32 _ (0, 0) _ (by rfl) FU.out.1 Tryz.underlying32 (by rfl) Tryz.infoPc) rfl ⟨⟨y, (k : Int), (N : Int), (q : Int), b, m, F⟩, ap, cp, rfl, HPS.out, FU.out.2.1, FU.out.2.2.1, FU.out.2.2.2⟩
 have b3 : (s == 3) = false := by simpa using e3
 by_cases e4 : s = 4
 ·subst e4
  have RDw : Hid (Row w4 D 32 (pcC rt (k : Int) (N : Int) (q : Int) b (.slice ap m cp))) := RD.out
  have RRw : Hid (Row w4 R 32 #[.string ⟨#[]⟩, .int .i64 0, .int .i64 0, .int .i64 0, .string ⟨#[]⟩, .slice none 0 0]) := RR4.out
  have GGw : Hid (w.grownBy w4 (some g)) := G4.out
  have CCw : Hid (Cur w4 g a n cap) := KCC.out
  have OTw : Hid (OwnT w4 w0.heap.size ap m cp F) := OT.out
  obtain ⟨xa, exa⟩ : ∃ xa, ap = some ⟨xa, 0, none⟩ := by
   have hm1 := HPS0.out.2.1
   rcases OT.out.2 with ⟨_, e⟩ | ⟨g', c', cu, e, _⟩
   ·omega
   ·cases e; exact ⟨_, rfl⟩
  subst exa
  have hcm : m ≤ cp := by
   rcases OT.out.2 with ⟨e, _⟩ | ⟨g', c', cu, e, _, _, h5, _⟩
   ·cases e
   ·cases e; exact h5
  have hm1 := HPS0.out.2.1
  have hcp : (1 : Int) ≤ (cp : Int) := by omega
  obtain ⟨u, HU⟩ : ∃ x, Hid (x = w4.setCell ⟨D, 5, none⟩ (.slice (some ⟨xa, 0, none⟩) 1 cp)) := ⟨_, rfl⟩
  have HUs : Hid _ := SET.out w4 5 (.slice (some ⟨xa, 0, none⟩) 1 cp) (pcC rt (k : Int) (N : Int) (q : Int) b (.slice (some ⟨xa, 0, none⟩) m cp)) RDw.out RRw.out GGw.out CCw.out
  rw [← HU.out] at HUs
  have RR : Hid (Row u R 32 #[.string ⟨#[]⟩, .int .i64 0, .int .i64 0, .int .i64 0, .string ⟨#[]⟩, .slice none 0 0]) := HUs.out.2.1
  have GG : Hid (w.grownBy u (some g)) := HUs.out.2.2.1
  have CC : Hid (Cur u g a n cap) := HUs.out.2.2.2
  have OU : Hid (OwnT u w0.heap.size (some ⟨xa, 0, none⟩) 1 cp F) := by show OwnT _ _ _ _ _ _; rw [HU.out]; exact OwnT.head (OTS.out _ _ _ OTw.out) HPS0.out.2.1 (by have := HPS0.out.2.1; omega)
  obtain ⟨uz, HUZ⟩ : ∃ x, Hid (x = u.setRow R (pcC rt (k : Int) (N : Int) (q : Int) b (.slice (some ⟨xa, 0, none⟩) 1 cp))) := ⟨_, rfl⟩
  have FU : Hid (Row uz R 32 (pcC rt (k : Int) (N : Int) (q : Int) b (.slice (some ⟨xa, 0, none⟩) 1 cp)) ∧ OwnT uz w.heap.size (some ⟨xa, 0, none⟩) 1 cp F ∧ w.grownBy uz (some g) ∧ Cur uz g a n cap) := by rw [HUZ.out]; exact FIN.out u (pcC rt (k : Int) (N : Int) (q : Int) b (.slice (some ⟨xa, 0, none⟩) 1 cp)) (some ⟨xa, 0, none⟩) 1 cp F RR.out OU.out GG.out CC.out
  have HPS : Hid (PcS ⟨rt, (k : Int), (N : Int), (q : Int), b, 1, F⟩) := ⟨HPS0.out.1.r, HPS0.out.1.b, by show 1 ≤ 64; omega, fun j hj => HPS0.out.1.s j (by have := HPS0.out.2.1; have hj1 : j < 1 := hj; show j < m; omega), HPS0.out.1.z⟩
  have RDx : Hid (Row u D 32 (pcC rt (k : Int) (N : Int) (q : Int) b (.slice (some ⟨xa, 0, none⟩) 1 cp))) := HUs.out.1
  go_wp2_with (first | (rw [← HU.out]; refine wpList_load_row (by rfl) 32 _ (by rfl) D (by rfl) 32 (pcC rt (k : Int) (N : Int) (q : Int) b (.slice (some ⟨xa, 0, none⟩) 1 cp)) (0, 0) _ ?_ Tryz.underlying32 (by rfl) Tryz.infoPc ?_; exact RDx.out) | (refine wpList_store_row (by rfl) 32 _ _ (by rfl) R (pcC rt (k : Int) (N : Int) (q : Int) b (.slice (some ⟨xa, 0, none⟩) 1 cp)) (by rfl) (by rfl) 32 #[.string ⟨#[]⟩, .int .i64 0, .int .i64 0, .int .i64 0, .string ⟨#[]⟩, .slice none 0 0] ?_ Tryz.infoPc rfl (by simp [Value.oneCell']) ?_; exact RR.out; rw [← HUZ.out]))
  exact bodyPost_ret (v := .agg (pcC rt (k : Int) (N : Int) (q : Int) b (.slice (some ⟨xa, 0, none⟩) 1 cp))) (results_cell_row Tryz.results25 _ _ R 32 _ (0, 0) _ (by rfl) FU.out.1 Tryz.underlying32 (by rfl) Tryz.infoPc) rfl ⟨⟨rt, (k : Int), (N : Int), (q : Int), b, 1, F⟩, (some ⟨xa, 0, none⟩), cp, rfl, HPS.out, FU.out.2.1, FU.out.2.2.1, FU.out.2.2.2⟩
 have b4 : (s == 4) = false := by simpa using e4
 by_cases e5 : s = 5
 ·subst e5
  have hNl := HN.out
  have hw : IntKind.i64.wrap ((N : Int) + 1) = (N : Int) + 1 := by rw [IntKind.wrap_i64]; omega
  have hlw := hc4.lt
  have hca := Cur.alloc hc4 (.cells #[.int .i64 0, .int .i64 17, .int .i64 ((N : Int) + 1)] 3)
  go_wp2_with fail
  refine (pickP_any (fun z => -2 ≤ z ∧ z ≤ 99) g n cap a w4.heap.size 0 3 _ _ hca (by omega) (by omega) (by omega) (lit_cellsP (cs := [0, 17, ((N : Int) + 1)]) (by simp; omega))).mono ?_
  rintro e w5 ⟨y, rfl, hPy, hg5', hc5⟩
  have hg5 := grownBy_trans (World.grownBy_alloc w4 (.cells #[.int .i64 0, .int .i64 17, .int .i64 ((N : Int) + 1)] 3) (some g)) hg5'
  have RDw : Hid (Row w5 D 32 (pcC rt (k : Int) (N : Int) (q : Int) b (.slice ap m cp))) := RD.out.keptG hg5 (by have := HDl.out; omega)
  have RRw : Hid (Row w5 R 32 #[.string ⟨#[]⟩, .int .i64 0, .int .i64 0, .int .i64 0, .string ⟨#[]⟩, .slice none 0 0]) := RR4.out.keptG hg5 (by have := HRl.out; omega)
  have GGw : Hid (w.grownBy w5 (some g)) := grownBy_trans G4.out hg5
  have CCw : Hid (Cur w5 g a n cap) := hc5
  have OTw : Hid (OwnT w5 w0.heap.size ap m cp F) := OwnT.keptG OT.out hg5 (by have := HRl.out; omega)
  have Y0 := RDw.out.cell 0
  have Y1 := RDw.out.cell 1
  have Y2 := RDw.out.cell 2
  have Y3 := RDw.out.cell 3
  have Y4 := RDw.out.cell 4
  have Y5 := RDw.out.cell 5
  simp at Y0 Y1 Y2 Y3 Y4 Y5
  have Z0 := RDw.out.free 0
  have Z1 := RDw.out.free 1
  have Z2 := RDw.out.free 2
  have Z3 := RDw.out.free 3
  have Z4 := RDw.out.free 4
  have Z5 := RDw.out.free 5
  clear y0 y1 y2 y3 y4 y5 z0 z1 z2 z3 z4 z5
  obtain ⟨u, HU⟩ : ∃ x, Hid (x = w5.setCell ⟨D, 2, none⟩ (.int .i64 y)) := ⟨_, rfl⟩
  have HUs : Hid _ := SET.out w5 2 (.int .i64 y) (pcC rt (k : Int) (N : Int) (q : Int) b (.slice ap m cp)) RDw.out RRw.out GGw.out CCw.out
  rw [← HU.out] at HUs
  have RR : Hid (Row u R 32 #[.string ⟨#[]⟩, .int .i64 0, .int .i64 0, .int .i64 0, .string ⟨#[]⟩, .slice none 0 0]) := HUs.out.2.1
  have GG : Hid (w.grownBy u (some g)) := HUs.out.2.2.1
  have CC : Hid (Cur u g a n cap) := HUs.out.2.2.2
  have OU : Hid (OwnT u w0.heap.size ap m cp F) := by show OwnT _ _ _ _ _ _; rw [HU.out]; exact OTS.out _ _ _ OTw.out
  obtain ⟨uz, HUZ⟩ : ∃ x, Hid (x = u.setRow R (pcC rt (k : Int) y (q : Int) b (.slice ap m cp))) := ⟨_, rfl⟩
  have FU : Hid (Row uz R 32 (pcC rt (k : Int) y (q : Int) b (.slice ap m cp)) ∧ OwnT uz w.heap.size ap m cp F ∧ w.grownBy uz (some g) ∧ Cur uz g a n cap) := by rw [HUZ.out]; exact FIN.out u (pcC rt (k : Int) y (q : Int) b (.slice ap m cp)) ap m cp F RR.out OU.out GG.out CC.out
  have HPS : Hid (PcS ⟨rt, (k : Int), y, (q : Int), b, m, F⟩) := ⟨HPS0.out.1.r, HPS0.out.1.b, HPS0.out.1.m, HPS0.out.1.s, HPS0.out.1.z.1, hPy, HPS0.out.1.z.2.2⟩
  have RDx : Hid (Row u D 32 (pcC rt (k : Int) y (q : Int) b (.slice ap m cp))) := HUs.out.1
  go_wp2_with (first | (rw [← HU.out]; refine wpList_load_row (by rfl) 32 _ (by rfl) D (by rfl) 32 (pcC rt (k : Int) y (q : Int) b (.slice ap m cp)) (0, 0) _ ?_ Tryz.underlying32 (by rfl) Tryz.infoPc ?_; exact RDx.out) | (refine wpList_store_row (by rfl) 32 _ _ (by rfl) R (pcC rt (k : Int) y (q : Int) b (.slice ap m cp)) (by rfl) (by rfl) 32 #[.string ⟨#[]⟩, .int .i64 0, .int .i64 0, .int .i64 0, .string ⟨#[]⟩, .slice none 0 0] ?_ Tryz.infoPc rfl (by simp [Value.oneCell']) ?_; exact RR.out; rw [← HUZ.out]))
  exact bodyPost_ret (v := .agg (pcC rt (k : Int) y (q : Int) b (.slice ap m cp))) (results_cell_row Tryz.results25 _ _ R 32 _ (0, 0) _ (by rfl) FU.out.1 Tryz.underlying32 (by rfl) Tryz.infoPc) rfl ⟨⟨rt, (k : Int), y, (q : Int), b, m, F⟩, ap, cp, rfl, HPS.out, FU.out.2.1, FU.out.2.2.1, FU.out.2.2.2⟩
 have b5 : (s == 5) = false := by simpa using e5
 have RR : Hid (Row w4 R 32 #[.string ⟨#[]⟩, .int .i64 0, .int .i64 0, .int .i64 0, .string ⟨#[]⟩, .slice none 0 0]) := RR4.out
 have GG : Hid (w.grownBy w4 (some g)) := G4.out
 have CC : Hid (Cur w4 g a n cap) := KCC.out
 obtain ⟨uz, HUZ⟩ : ∃ x, Hid (x = w4.setRow R (pcC rt (k : Int) (N : Int) (q : Int) b (.slice ap m cp))) := ⟨_, rfl⟩
 have FU : Hid (Row uz R 32 (pcC rt (k : Int) (N : Int) (q : Int) b (.slice ap m cp)) ∧ OwnT uz w.heap.size ap m cp F ∧ w.grownBy uz (some g) ∧ Cur uz g a n cap) := by rw [HUZ.out]; exact FIN.out w4 (pcC rt (k : Int) (N : Int) (q : Int) b (.slice ap m cp)) ap m cp F RR.out OT.out GG.out CC.out
 have HPS : Hid (PcS ⟨rt, (k : Int), (N : Int), (q : Int), b, m, F⟩) := HPS0.out.1
 have RDx : Hid (Row w4 D 32 (pcC rt (k : Int) (N : Int) (q : Int) b (.slice ap m cp))) := RD.out
 go_wp2_with (first | ( refine wpList_load_row (by rfl) 32 _ (by rfl) D (by rfl) 32 (pcC rt (k : Int) (N : Int) (q : Int) b (.slice ap m cp)) (0, 0) _ ?_ Tryz.underlying32 (by rfl) Tryz.infoPc ?_; exact RDx.out) | (refine wpList_store_row (by rfl) 32 _ _ (by rfl) R (pcC rt (k : Int) (N : Int) (q : Int) b (.slice ap m cp)) (by rfl) (by rfl) 32 #[.string ⟨#[]⟩, .int .i64 0, .int .i64 0, .int .i64 0, .string ⟨#[]⟩, .slice none 0 0] ?_ Tryz.infoPc rfl (by simp [Value.oneCell']) ?_; exact RR.out; rw [← HUZ.out]))
 exact bodyPost_ret (v := .agg (pcC rt (k : Int) (N : Int) (q : Int) b (.slice ap m cp))) (results_cell_row Tryz.results25 _ _ R 32 _ (0, 0) _ (by rfl) FU.out.1 Tryz.underlying32 (by rfl) Tryz.infoPc) rfl ⟨⟨rt, (k : Int), (N : Int), (q : Int), b, m, F⟩, ap, cp, rfl, HPS.out, FU.out.2.1, FU.out.2.2.1, FU.out.2.2.2⟩
end Go.Proofs.YtaenoiffamgcfaaGreatDoor
