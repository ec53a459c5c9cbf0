import Derived.Test.YtcaejlalnjnifaaGreatA23
import Derived.Test.YtcaejlalnjnifaaGreatA21
import Derived.Test.YtcaejlalnjnifaaGreatA10
import Derived.Test.YtcaejlalnjnifaaGreatA17
import Derived.Test.YtcaejlalnjnifaaGreatA22
set_option maxHeartbeats 8000000
set_option maxRecDepth 2000
open Go.ChangeShapes Go.WideShapes Go.ChangeAt Go.RowKit
namespace Go.Proofs.YtcaejlalnjnifaaGreat
def KnP (k N : Nat) : Prop := (k = 2 ∧ N = 4) ∨ (k = 3 ∧ N = 7)
structure AllP (k N : Nat) (S : Nat → ByteArray) : Prop where
 kn : KnP k N
 b : ∀ i, i < N → 1 ≤ (S i).size ∧ (S i).size ≤ 100
theorem all_lvB {k N : Nat} {S : Nat → ByteArray} (h : KnP k N) : lvB N (lvs (k : Int) N S) = true := by
 unfold lvB
 rw [Bool.and_eq_true]
 refine ⟨aS_yes (fun i hi => ?_), ?_⟩
 ·unfold lvs
  rw [plf_yes _ (by unfold KnP at h; omega) (by unfold KnP at h; omega) (by unfold KnP at h; omega)]
  exact Gt.lf_size _
 ·unfold inB
  exact decide_eq_true (by unfold KnP at h; omega)
theorem all_root {k N : Nat} {S : Nat → ByteArray} (h : KnP k N) : (rtS N (lvs (k : Int) N S)).size = 16 := by
 have hl := all_lvB (S := S) h
 obtain ⟨h1, h2, h3⟩ := lvB_parts hl
 unfold rtS
 rw [if_pos hl]
 exact Gt.rt_size (by omega) h3
theorem all_enc {k N : Nat} {s : ByteArray} (h : KnP k N) (hs : s.size < 16) : AllP k N (encS s k) := by
 refine ⟨h, fun i _ => ?_⟩
 rw [encS_size]
 have h1 := blen_pos (s := s.size) (k := k) (by unfold KnP at h; omega)
 have h2 := blen_le (s := s.size) (k := k) (by unfold KnP at h; omega)
 omega
theorem pf_16 {N : Nat} {S : Nat → ByteArray} {i : Int} {j : Nat} (hj : j < pfR N S i) : (pfF N S i j).size = 16 := by
 unfold pfR at hj
 by_cases hB : pfB N S i = true
 ·rw [if_pos hB] at hj
  obtain ⟨h1, h2⟩ := pfB_parts hB
  have h3 := lvB_parts h1
  exact Gt.pf_size _ (by simp [inT] at h2; omega) h3.2.2 j hj
 ·rw [if_neg hB] at hj; omega
structure PcS (p : Pc) : Prop where
 r : p.r.size ≤ 4096
 b : p.b.size ≤ 4096
 m : p.m ≤ 64
 s : ∀ j, j < p.m → (p.S j).size ≤ 4096
 z : (-2 ≤ p.k ∧ p.k ≤ 99) ∧ (-2 ≤ p.n ∧ p.n ≤ 99) ∧ (-2 ≤ p.i ∧ p.i ≤ 99)
theorem all_s {k N : Nat} {S : Nat → ByteArray} (h : AllP k N S) {i : Nat} (hi : i < N) : PcS (cutP (k : Int) N S i) := by
 refine ⟨?_, ?_, ?_, fun j hj => ?_, ?_⟩
 ·show (rtS N (lvs (k : Int) N S)).size ≤ _
  rw [all_root h.kn]; omega
 ·have := h.b i hi
  show (S i).size ≤ _
  omega
 ·have := pfR_le N (lvs (k : Int) N S) (i : Int)
  show pfR N (lvs (k : Int) N S) (i : Int) ≤ _
  omega
 ·have : (pfF N (lvs (k : Int) N S) (i : Int) j).size = 16 := pf_16 hj
  show (pfF N (lvs (k : Int) N S) (i : Int) j).size ≤ _
  omega
 ·have h1 := h.kn
  unfold KnP at h1
  show (-2 ≤ (k : Int) ∧ (k : Int) ≤ 99) ∧ (-2 ≤ (N : Int) ∧ (N : Int) ≤ 99) ∧ (-2 ≤ (i : Int) ∧ (i : Int) ≤ 99)
  omega
theorem Row.keptG {w w' : World} {g G : Nat} {t : TypeId} {cs : Array Value} (h : Row w G t cs) (hg : w.grownBy w' (some g)) (hne : G ≠ g) : Row w' G t cs := (hg.block G h.lt (fun e => hne (by cases e; rfl))).trans h
theorem grown_cell (w : World) (D o : Nat) (v : Value) : w.grownBy (w.setCell ⟨D, o, none⟩ v) (some D) := ⟨rfl, rfl, rfl, by simp, fun i _ hi => heap_setCell_other w ⟨D, o, none⟩ i v (fun e => hi (by simp [e]))⟩
theorem sNums_any (f : Int) (a : Option Addr) (n cap : Nat) (zs : List Int) (w : World) (h : IntsAt w a n zs) (hf : 1 ≤ f ∧ f ≤ 3) (hn : n ≤ 1048576) :
  Calls Tryz.prog 60 #[.slice a n cap, .int .i64 f] w fun e w' => e = .returned (.bool (numB f zs)) ∧ Below w.heap.size w w' := by
 have KI : Hid (IntsAt w a n zs) := h
 have hl : zs.length = n := h.1
 have KA : Hid (∀ W, Calls Tryz.prog 50 #[.int .i64 f] W fun e w' => e = .returned (.int .i64 (3 * f + 1)) ∧ w' = W) := fun W => sAllN_any f W hf
 obtain ⟨m, HM⟩ : ∃ m : Int, Hid (3 * f + 1 = m) := ⟨_, rfl⟩
 rw [HM.out] at KA
 have HF : Hid (1 ≤ f ∧ f ≤ 3) := hf
 have em : IntKind.i64.wrap (m - 1) = 3 * f := by have := HM.out; rw [IntKind.wrap_i64]; omega
 obtain ⟨m1, HM1⟩ : ∃ m1 : Int, Hid (3 * f = m1) := ⟨_, rfl⟩
 rw [HM1.out] at em
 clear h hf
 go_enter Tryz.func60, Tryz.ntmps60
 go_wp2
 go_loopw [5] (fun vi wr => ∃ k : Nat, k ≤ n ∧ vi = .int .i64 (k : Int) ∧ Hid (∀ i, i < k → (0 ≤ zs.getD i 0 ∧ zs.getD i 0 < 3 * f + 1) ∧ (0 < i → zs.getD (i - 1) 0 < zs.getD i 0)) ∧ Below w.heap.size w wr) (fun vi _ => n - (intOf vi).toNat)
 case atStart => exact ⟨0, Nat.zero_le _, rfl, fun i hi => absurd hi (Nat.not_lt_zero _), Below.refl _ _⟩
 case round =>
  obtain ⟨k, hk, rfl, HP, hbel⟩ := hrel
  by_cases hlt : k < n
  ·have hki : (k : Int) < (n : Int) := by omega
   obtain ⟨b, off, rfl, hc⟩ := (KI.out.below hbel).some (by omega)
   have hck := hc k hlt
   obtain ⟨z, HZ⟩ : ∃ z, Hid (zs.getD k 0 = z) := ⟨_, rfl⟩
   rw [HZ.out] at hck
   by_cases hz : 0 ≤ z ∧ z < 3 * f + 1
   case neg =>
    have hin : inB z 0 m1 = false := by have := HM1.out; unfold inB; simp; omega
    have HN : Hid (numB f zs = false) := numB_no fun h => hz (by have := (h k (by omega)).1; rw [HZ.out] at this; exact this)
    clear hc hz HP
    go_wp2_with fail
    go_quiet (first | (go_at_call 50; exact Calls.quiet_of_same (KA.out _)) | (go_at_call 43; exact Calls.quiet_of_same (sIn_any _ _ _ _)))
    go_wp2
    go_ret
    exact ⟨ret_bool HN.out.symm, below_drewN hbel _⟩
   have hin : inB z 0 m1 = true := by have := HM1.out; unfold inB; simp; omega
   by_cases k0 : k = 0
   ·subst k0
    have HP2 : Hid (∀ i, i < 0 + 1 → (0 ≤ zs.getD i 0 ∧ zs.getD i 0 < 3 * f + 1) ∧ (0 < i → zs.getD (i - 1) 0 < zs.getD i 0)) := fun i hi => by
     obtain rfl : i = 0 := by omega
     rw [HZ.out]
     exact ⟨hz, fun h => absurd h (by omega)⟩
    simp only [Nat.add_zero] at hck
    clear hc hz HP
    go_wp2_with fail
    go_quiet (first | (go_at_call 50; exact Calls.quiet_of_same (KA.out _)) | (go_at_call 43; exact Calls.quiet_of_same (sIn_any _ _ _ _)))
    go_wp2
    go_roundw
    case rel => exact ⟨0 + 1, by omega, by go_num, HP2, below_drewN hbel _⟩
    case measure => simp [intOf]; omega
   ·have k0i : 0 < k := by omega
    have k0d : decide (0 < k) = true := decide_eq_true k0i
    have hcp := hc (k - 1) (by omega)
    obtain ⟨k1, HK1⟩ : ∃ k1, Hid (k = k1 + 1) := ⟨k - 1, by show k = _; omega⟩
    have e1 : IntKind.i64.wrap ((k : Int) - 1) = (k1 : Int) := by have := HK1.out; rw [IntKind.wrap_i64]; omega
    have hk1i : (k1 : Int) < (n : Int) := by have := HK1.out; omega
    have hk1n : (0 : Int) ≤ (k1 : Int) := by omega
    rw [show k - 1 = k1 by have := HK1.out; omega] at hcp
    obtain ⟨y, HY⟩ : ∃ z, Hid (zs.getD k1 0 = z) := ⟨_, rfl⟩
    rw [HY.out] at hcp
    by_cases hyz : y < z
    ·have hyz' : ¬ (z ≤ y) := by omega
     have HP2 : Hid (∀ i, i < k + 1 → (0 ≤ zs.getD i 0 ∧ zs.getD i 0 < 3 * f + 1) ∧ (0 < i → zs.getD (i - 1) 0 < zs.getD i 0)) := fun i hi => by
      by_cases ei : i = k
      ·subst ei
       rw [show i - 1 = k1 by have := HK1.out; omega, HZ.out, HY.out]
       exact ⟨hz, fun _ => hyz⟩
      ·exact HP.out i (by omega)
     clear hc hz HP hyz
     go_wp2_with fail
     go_quiet (first | (go_at_call 50; exact Calls.quiet_of_same (KA.out _)) | (go_at_call 43; exact Calls.quiet_of_same (sIn_any _ _ _ _)))
     go_wp2
     go_roundw
     case rel => exact ⟨k + 1, by omega, by go_num, HP2, below_drewN hbel _⟩
     case measure => simp [intOf]; omega
    ·have hyz' : z ≤ y := by omega
     have HN : Hid (numB f zs = false) := numB_no fun h => by
      have := (h k (by omega)).2 (by omega)
      rw [show k - 1 = k1 by have := HK1.out; omega, HZ.out, HY.out] at this
      omega
     clear hc hz HP hyz
     go_wp2_with fail
     go_quiet (first | (go_at_call 50; exact Calls.quiet_of_same (KA.out _)) | (go_at_call 43; exact Calls.quiet_of_same (sIn_any _ _ _ _)))
     go_wp2
     go_ret
     exact ⟨ret_bool HN.out.symm, below_drewN hbel _⟩
  ·obtain rfl : k = n := by omega
   have HN : Hid (numB f zs = true) := numB_yes fun i hi => HP.out i (by omega)
   go_wp2
   go_ret
   exact ⟨ret_bool HN.out.symm, hbel⟩
def MineP (root : ByteArray) (id f : Int) (r : ByteArray) (k n i : Int) : Prop := r = root ∧ k = f + 1 ∧ n = 3 * f + 1 ∧ i = id
instance (root : ByteArray) (id f : Int) (r : ByteArray) (k n i : Int) : Decidable (MineP root id f r k n i) := by unfold MineP; infer_instance
noncomputable def mineB (root : ByteArray) (id f : Int) (r : ByteArray) (k n i : Int) (b : ByteArray) (m : Nat) (S : Nat → ByteArray) : Bool := if MineP root id f r k n i then okP r k n i b m S else false
theorem mineB_no {root : ByteArray} {id f : Int} {r : ByteArray} {k n i : Int} {b : ByteArray} {m : Nat} {S : Nat → ByteArray} (h : ¬ MineP root id f r k n i) : mineB root id f r k n i b m S = false := if_neg h
theorem mineB_yes {root : ByteArray} {id f : Int} {r : ByteArray} {k n i : Int} {b : ByteArray} {m : Nat} {S : Nat → ByteArray} (h : MineP root id f r k n i) : mineB root id f r k n i b m S = okP r k n i b m S := if_pos h
theorem sMine_any (root : ByteArray) (id f : Int) (r : ByteArray) (k n i : Int) (b : ByteArray) (a : Option Addr) (m cap : Nat) (S : Nat → ByteArray) (w : World) (h : TxtAt w a m S) (hf : 1 ≤ f ∧ f ≤ 3) (hm : m ≤ 1048576) (hL : ∀ i, i < m → (S i).size ≤ maxLen) :
  Calls Tryz.prog 51 #[pcV r k n i b (.slice a m cap), .string root, .int .i64 id, .int .i64 f] w fun e w' => e = .returned (.bool (mineB root id f r k n i b m S)) ∧ Below w.heap.size w w' := by
 have KA : Hid (∀ W, Calls Tryz.prog 50 #[.int .i64 f] W fun e w' => e = .returned (.int .i64 (3 * f + 1)) ∧ w' = W) := fun W => sAllN_any f W hf
 obtain ⟨x, HX⟩ : ∃ x : Int, Hid (3 * f + 1 = x) := ⟨_, rfl⟩
 rw [HX.out] at KA
 obtain ⟨y, HY⟩ : ∃ y : Int, Hid (f + 1 = y) := ⟨_, rfl⟩
 have ey : IntKind.i64.wrap (f + 1) = y := by have := HY.out; rw [IntKind.wrap_i64]; omega
 have hb0 : Below w.heap.size w (w.alloc (.cells (pcC r k n i b (.slice a m cap)) 29)) := (Below.refl _ _).alloc (Nat.le_refl _) _
 have HB0 : Hid (Below w.heap.size w (w.alloc (.cells (pcC r k n i b (.slice a m cap)) 29))) := hb0
 obtain ⟨w0, HW0⟩ : ∃ x, Hid (x = w.alloc (.cells (pcC r k n i b (.slice a m cap)) 29)) := ⟨_, rfl⟩
 obtain ⟨B, HB⟩ : ∃ x, Hid (x = w.heap.size) := ⟨_, rfl⟩
 have HR : Hid (Row w0 B 29 (pcC r k n i b (.slice a m cap))) := by show Row _ _ _ _; rw [HW0.out, HB.out]; exact Row.new w _ _
 have KP : Hid (∀ W, Below w0.heap.size w0 W → Calls Tryz.prog 114 #[pcV r k n i b (.slice a m cap)] W fun e w' => e = .returned (.bool (okP r k n i b m S)) ∧ Below W.heap.size W w') := fun W hW => sPieceOk_any r k n i b a m cap S W ((h.below hb0).below (by rw [← HW0.out]; exact hW)) hm hL
 rw [← HW0.out] at HB0
 have q0 := HR.out.cell 0
 have q1 := HR.out.cell 1
 have q2 := HR.out.cell 2
 have q3 := HR.out.cell 3
 have q4 := HR.out.cell 4
 have q5 := HR.out.cell 5
 have lB := HR.out.lt
 simp at q0 q1 q2 q3 q4 q5
 clear h hb0 hf hL hm
 by_cases c1 : r = root
 case neg =>
  rw [mineB_no (fun h => c1 h.1)]
  have c1' := ba_ne c1
  go_enter Tryz.func51, Tryz.ntmps51
  go_wp2_with fail
  rw [← HW0.out, ← HB.out]
  go_quiet (fail)
  go_wp2
  go_ret
  exact ⟨rfl, below_drewN HB0.out _⟩
 have c1' := ba_beq root
 by_cases c2 : k = y
 case neg =>
  rw [mineB_no (fun h => c2 (h.2.1.trans HY.out))]
  have c2' : (k == y) = false := by simp [c2]
  subst c1
  go_enter Tryz.func51, Tryz.ntmps51
  go_wp2_with fail
  rw [← HW0.out, ← HB.out]
  go_quiet (fail)
  go_wp2
  go_ret
  exact ⟨rfl, below_drewN HB0.out _⟩
 have c2' : (k == y) = true := by simp [c2]
 by_cases c3 : n = x
 case neg =>
  rw [mineB_no (fun h => c3 (h.2.2.1.trans HX.out))]
  have c3' : (n == x) = false := by simp [c3]
  subst c1
  clear c2
  go_enter Tryz.func51, Tryz.ntmps51
  go_wp2_with fail
  rw [← HW0.out, ← HB.out]
  go_quiet ((go_at_call 50; exact Calls.quiet_of_same (KA.out _)))
  go_wp2
  go_ret
  exact ⟨rfl, below_drewN HB0.out _⟩
 have c3' : (n == x) = true := by simp [c3]
 by_cases c4 : i = id
 case neg =>
  rw [mineB_no (fun h => c4 h.2.2.2)]
  have c4' : (i == id) = false := by simp [c4]
  subst c1
  clear c2 c3
  go_enter Tryz.func51, Tryz.ntmps51
  go_wp2_with fail
  rw [← HW0.out, ← HB.out]
  go_quiet ((go_at_call 50; exact Calls.quiet_of_same (KA.out _)))
  go_wp2
  go_ret
  exact ⟨rfl, below_drewN HB0.out _⟩
 have c4' : (i == id) = true := by simp [c4]
 rw [mineB_yes ⟨c1, c2.trans HY.out.symm, c3.trans HX.out.symm, c4⟩]
 subst c1
 clear c2 c3 c4
 go_enter Tryz.func51, Tryz.ntmps51
 go_wp2_with fail
 rw [← HW0.out, ← HB.out]
 go_region_held3 (fun w' => w'.cell? ⟨B, 0, none⟩ = some (.string r) ∧ w'.cell? ⟨B, 1, none⟩ = some (.int .i64 k) ∧ w'.cell? ⟨B, 2, none⟩ = some (.int .i64 n) ∧ w'.cell? ⟨B, 3, none⟩ = some (.int .i64 i) ∧ w'.cell? ⟨B, 4, none⟩ = some (.string b) ∧ w'.cell? ⟨B, 5, none⟩ = some (.slice a m cap)) (go_keep) ((first | (go_at_call 50; refine Calls.mono (KA.out _) ?_; rintro e w8 ⟨rfl, rfl⟩) | (go_at_call 114; refine Calls.mono (KP.out _ (below_drewN (Below.refl _ _) _)) ?_; rintro e w9 ⟨rfl, hb9'⟩; have hb9 := below_of_drew hb9'; clear hb9'; have p0 := (hb9.cell (p := ⟨B, 0, none⟩) lB).trans q0; have p1 := (hb9.cell (p := ⟨B, 1, none⟩) lB).trans q1; have p2 := (hb9.cell (p := ⟨B, 2, none⟩) lB).trans q2; have p3 := (hb9.cell (p := ⟨B, 3, none⟩) lB).trans q3; have p4 := (hb9.cell (p := ⟨B, 4, none⟩) lB).trans q4; have p5 := (hb9.cell (p := ⟨B, 5, none⟩) lB).trans q5)))
 all_goals
  go_wp2
  go_ret
  exact ⟨rfl, below2 HB0.out hb9⟩
theorem owns_any (root : ByteArray) (id f : Int) (v : Value) (r : ByteArray) (k n i : Int) (b : ByteArray) (a : Option Addr) (m cap : Nat) (S : Nat → ByteArray) (w : World) (h : TxtAt w a m S) (hf : 1 ≤ f ∧ f ≤ 3) (hm : m ≤ 1048576) (hL : ∀ i, i < m → (S i).size ≤ maxLen) :
  Calls Tryz.prog 119 #[ndV id f v, pcV r k n i b (.slice a m cap), .string root] w fun e w' => e = .returned (.bool (mineB root id f r k n i b m S)) ∧ Below w.heap.size w w' := by
 have KA : Hid (∀ W, Calls Tryz.prog 72 #[.int .i64 f] W fun e w' => e = .returned (.int .i64 (3 * f + 1)) ∧ w' = W) := fun W => nodeCount_any f W hf
 have KN : Hid (∀ W, Calls Tryz.prog 158 #[.int .i64 f] W fun e w' => e = .returned (.int .i64 (f + 1)) ∧ w' = W) := fun W => pieceNeed_any f W hf
 obtain ⟨x, HX⟩ : ∃ x : Int, Hid (3 * f + 1 = x) := ⟨_, rfl⟩
 rw [HX.out] at KA
 obtain ⟨y, HY⟩ : ∃ y : Int, Hid (f + 1 = y) := ⟨_, rfl⟩
 rw [HY.out] at KN
 obtain ⟨A, HA⟩ : ∃ x, Hid (x = w.heap.size) := ⟨_, rfl⟩
 obtain ⟨wa, HWA⟩ : ∃ x, Hid (x = w.alloc (.cells #[.int .i64 id, .int .i64 f, v] 26)) := ⟨_, rfl⟩
 have HRA : Hid (Row wa A 26 #[.int .i64 id, .int .i64 f, v]) := by show Row _ _ _ _; rw [HWA.out, HA.out]; exact Row.new w _ _
 have hba : Below w.heap.size w wa := by rw [HWA.out]; exact (Below.refl _ _).alloc (Nat.le_refl _) _
 obtain ⟨B, HB⟩ : ∃ x, Hid (x = wa.heap.size) := ⟨_, rfl⟩
 obtain ⟨w0, HW0⟩ : ∃ x, Hid (x = wa.alloc (.cells (pcC r k n i b (.slice a m cap)) 29)) := ⟨_, rfl⟩
 have hbb : Below wa.heap.size wa w0 := by rw [HW0.out]; exact (Below.refl _ _).alloc (Nat.le_refl _) _
 have HR : Hid (Row w0 B 29 (pcC r k n i b (.slice a m cap))) := by show Row _ _ _ _; rw [HW0.out, HB.out]; exact Row.new wa _ _
 have HB0 : Hid (Below w.heap.size w w0) := below2 hba hbb
 have HB1 : Hid (B = A + 1) := by show _ = _; rw [HB.out, HWA.out, HA.out]; simp
 have KP : Hid (∀ W, Below w0.heap.size w0 W → Calls Tryz.prog 159 #[pcV r k n i b (.slice a m cap)] W fun e w' => e = .returned (.bool (okP r k n i b m S)) ∧ Below W.heap.size W w') := fun W hW => pieceOk_any r k n i b a m cap S W ((h.below HB0.out).below hW) hm hL
 have RA := HRA.out.below hbb HRA.out.lt
 have r0 := RA.cell 0
 have r1 := RA.cell 1
 have r2 := RA.cell 2
 have lA := RA.lt
 have q0 := HR.out.cell 0
 have q1 := HR.out.cell 1
 have q2 := HR.out.cell 2
 have q3 := HR.out.cell 3
 have q4 := HR.out.cell 4
 have q5 := HR.out.cell 5
 have lB := HR.out.lt
 simp at q0 q1 q2 q3 q4 q5 r0 r1 r2
 clear h hf hL hm RA hba hbb
 by_cases c1 : r = root
 case neg =>
  rw [mineB_no (fun h => c1 h.1)]
  have c1' := ba_ne c1
  go_enter Tryz.func119, Tryz.ntmps119
  go_wp2_with fail
  rw [← HWA.out, ← HW0.out, ← HA.out, ← HB1.out]
  go_quiet ((first | (go_at_call 72; exact Calls.quiet_of_same (KA.out _)) | (go_at_call 158; exact Calls.quiet_of_same (KN.out _))))
  go_wp2
  go_ret
  exact ⟨rfl, below_drewN HB0.out _⟩
 have c1' := ba_beq root
 by_cases c4 : i = id
 case neg =>
  rw [mineB_no (fun h => c4 h.2.2.2)]
  have c4' : (i == id) = false := by simp [c4]
  subst c1
  go_enter Tryz.func119, Tryz.ntmps119
  go_wp2_with fail
  rw [← HWA.out, ← HW0.out, ← HA.out, ← HB1.out]
  go_quiet ((first | (go_at_call 72; exact Calls.quiet_of_same (KA.out _)) | (go_at_call 158; exact Calls.quiet_of_same (KN.out _))))
  go_wp2
  go_ret
  exact ⟨rfl, below_drewN HB0.out _⟩
 have c4' : (i == id) = true := by simp [c4]
 by_cases c2 : k = y
 case neg =>
  rw [mineB_no (fun h => c2 (h.2.1.trans HY.out))]
  have c2' : (k == y) = false := by simp [c2]
  subst c1
  clear c4
  go_enter Tryz.func119, Tryz.ntmps119
  go_wp2_with fail
  rw [← HWA.out, ← HW0.out, ← HA.out, ← HB1.out]
  go_quiet ((first | (go_at_call 72; exact Calls.quiet_of_same (KA.out _)) | (go_at_call 158; exact Calls.quiet_of_same (KN.out _))))
  go_wp2
  go_ret
  exact ⟨rfl, below_drewN HB0.out _⟩
 have c2' : (k == y) = true := by simp [c2]
 by_cases c3 : n = x
 case neg =>
  rw [mineB_no (fun h => c3 (h.2.2.1.trans HX.out))]
  have c3' : (n == x) = false := by simp [c3]
  subst c1
  clear c4 c2
  go_enter Tryz.func119, Tryz.ntmps119
  go_wp2_with fail
  rw [← HWA.out, ← HW0.out, ← HA.out, ← HB1.out]
  go_quiet ((first | (go_at_call 72; exact Calls.quiet_of_same (KA.out _)) | (go_at_call 158; exact Calls.quiet_of_same (KN.out _))))
  go_wp2
  go_ret
  exact ⟨rfl, below_drewN HB0.out _⟩
 have c3' : (n == x) = true := by simp [c3]
 rw [mineB_yes ⟨c1, c2.trans HY.out.symm, c3.trans HX.out.symm, c4⟩]
 subst c1
 clear c2 c3 c4
 go_enter Tryz.func119, Tryz.ntmps119
 go_wp2_with fail
 rw [← HWA.out, ← HW0.out, ← HA.out, ← HB1.out]
 go_region_held3 (fun w' => w'.cell? ⟨A, 0, none⟩ = some (.int .i64 id) ∧ w'.cell? ⟨A, 1, none⟩ = some (.int .i64 f) ∧ w'.cell? ⟨B, 0, none⟩ = some (.string r) ∧ w'.cell? ⟨B, 1, none⟩ = some (.int .i64 k) ∧ w'.cell? ⟨B, 2, none⟩ = some (.int .i64 n) ∧ w'.cell? ⟨B, 3, none⟩ = some (.int .i64 i) ∧ w'.cell? ⟨B, 4, none⟩ = some (.string b) ∧ w'.cell? ⟨B, 5, none⟩ = some (.slice a m cap)) (go_keep) ((first | (go_at_call 72; refine Calls.mono (KA.out _) ?_; rintro e w8 ⟨rfl, rfl⟩) | (go_at_call 158; refine Calls.mono (KN.out _) ?_; rintro e w8 ⟨rfl, rfl⟩) | (go_at_call 159; refine Calls.mono (KP.out _ (below_drewN (Below.refl _ _) _)) ?_; rintro e w9 ⟨rfl, hb9'⟩; have hb9 := below_of_drew hb9'; clear hb9'; have pr0 := (hb9.cell (p := ⟨A, 0, none⟩) lA).trans r0; have pr1 := (hb9.cell (p := ⟨A, 1, none⟩) lA).trans r1; have pq0 := (hb9.cell (p := ⟨B, 0, none⟩) lB).trans q0; have pq1 := (hb9.cell (p := ⟨B, 1, none⟩) lB).trans q1; have pq2 := (hb9.cell (p := ⟨B, 2, none⟩) lB).trans q2; have pq3 := (hb9.cell (p := ⟨B, 3, none⟩) lB).trans q3; have pq4 := (hb9.cell (p := ⟨B, 4, none⟩) lB).trans q4; have pq5 := (hb9.cell (p := ⟨B, 5, none⟩) lB).trans q5)))
 all_goals
  go_wp2
  go_ret
  exact ⟨rfl, below2 HB0.out hb9⟩
end Go.Proofs.YtcaejlalnjnifaaGreat
