import Derived.Test.YtaenoiffamgcfaaGreatDoorM21
import Derived.Test.YtaenoiffamgcfaaGreatDoorM20
import Derived.Lib.QuietBelow
import Derived.BigQuiet
import Derived.Deep.CutRange
import Derived.Test.YtaenoiffamgcfaaGreatDoorM5
import Derived.Test.YtaenoiffamgcfaaGreatDoorM14
import Derived.Deep.MidRow
set_option maxHeartbeats 8000000
set_option maxRecDepth 2000
open Go.ChangeShapes Go.WideShapes Go.ChangeAt Go.RowKit
namespace Go.Proofs.YtaenoiffamgcfaaGreatDoor
theorem sNums_any (f : Int) (a : Option Addr) (n cap : Nat) (zs : List Int) (w : World) (h : IntsAt w a n zs) (hf : 1 ≤ f ∧ f ≤ 3) (hn : n ≤ 1048576) :
  Calls Tryz.prog 112 #[.slice a n cap, .int .i64 f] w fun e w' => e = .returned (.bool (numB f zs)) ∧ Below w.heap.size w w' := by
 have KI : Hid (IntsAt w a n zs) := h
 have hl : zs.length = n := h.1
 have KA : Hid (∀ W, Calls Tryz.prog 49 #[.int .i64 f] W fun e w' => e = .returned (.int .i64 (3 * f + 1)) ∧ w' = W) := fun W => sAllN_any f W hf
 obtain ⟨m, HM⟩ : ∃ m : Int, Hid (3 * f + 1 = m) := ⟨_, rfl⟩
 rw [HM.out] at KA
 have HF : Hid (1 ≤ f ∧ f ≤ 3) := hf
 have em : IntKind.i64.wrap (m - 1) = 3 * f := by have := HM.out; rw [IntKind.wrap_i64]; omega
 obtain ⟨m1, HM1⟩ : ∃ m1 : Int, Hid (3 * f = m1) := ⟨_, rfl⟩
 rw [HM1.out] at em
 clear h hf
 go_enter Tryz.func112, Tryz.ntmps112
 go_wp2
 go_loopw [5] (fun vi wr => ∃ k : Nat, k ≤ n ∧ vi = .int .i64 (k : Int) ∧ Hid (∀ i, i < k → (0 ≤ zs.getD i 0 ∧ zs.getD i 0 < 3 * f + 1) ∧ (0 < i → zs.getD (i - 1) 0 < zs.getD i 0)) ∧ Below w.heap.size w wr) (fun vi _ => n - (intOf vi).toNat)
 case atStart => exact ⟨0, Nat.zero_le _, rfl, fun i hi => absurd hi (Nat.not_lt_zero _), Below.refl _ _⟩
 case round =>
  obtain ⟨k, hk, rfl, HP, hbel⟩ := hrel
  by_cases hlt : k < n
  ·have hki : (k : Int) < (n : Int) := by omega
   obtain ⟨b, off, rfl, hc⟩ := (KI.out.below hbel).some (by omega)
   have hck := hc k hlt
   obtain ⟨z, HZ⟩ : ∃ z, Hid (zs.getD k 0 = z) := ⟨_, rfl⟩
   rw [HZ.out] at hck
   by_cases hz : 0 ≤ z ∧ z < 3 * f + 1
   case neg =>
    have hin : inB z 0 m1 = false := by have := HM1.out; unfold inB; simp; omega
    have HN : Hid (numB f zs = false) := numB_no fun h => hz (by have := (h k (by omega)).1; rw [HZ.out] at this; exact this)
    clear hc hz HP
    go_wp2_with fail
    go_quiet (first | (go_at_call 49; exact Calls.quiet_of_same (KA.out _)) | (go_at_call 63; exact Calls.quiet_of_same (sIn_any _ _ _ _)))
    go_wp2
    go_ret
    exact ⟨ret_bool HN.out.symm, below_drewN hbel _⟩
   have hin : inB z 0 m1 = true := by have := HM1.out; unfold inB; simp; omega
   by_cases k0 : k = 0
   ·subst k0
    have HP2 : Hid (∀ i, i < 0 + 1 → (0 ≤ zs.getD i 0 ∧ zs.getD i 0 < 3 * f + 1) ∧ (0 < i → zs.getD (i - 1) 0 < zs.getD i 0)) := fun i hi => by
     obtain rfl : i = 0 := by omega
     rw [HZ.out]
     exact ⟨hz, fun h => absurd h (by omega)⟩
    simp only [Nat.add_zero] at hck
    clear hc hz HP
    go_wp2_with fail
    go_quiet (first | (go_at_call 49; exact Calls.quiet_of_same (KA.out _)) | (go_at_call 63; exact Calls.quiet_of_same (sIn_any _ _ _ _)))
    go_wp2
    go_roundw
    case rel => exact ⟨0 + 1, by omega, by go_num, HP2, below_drewN hbel _⟩
    case measure => simp [intOf]; omega
   ·have k0i : 0 < k := by omega
    have k0d : decide (0 < k) = true := decide_eq_true k0i
    have hcp := hc (k - 1) (by omega)
    obtain ⟨k1, HK1⟩ : ∃ k1, Hid (k = k1 + 1) := ⟨k - 1, by show k = _; omega⟩
    have e1 : IntKind.i64.wrap ((k : Int) - 1) = (k1 : Int) := by have := HK1.out; rw [IntKind.wrap_i64]; omega
    have hk1i : (k1 : Int) < (n : Int) := by have := HK1.out; omega
    have hk1n : (0 : Int) ≤ (k1 : Int) := by omega
    rw [show k - 1 = k1 by have := HK1.out; omega] at hcp
    obtain ⟨y, HY⟩ : ∃ z, Hid (zs.getD k1 0 = z) := ⟨_, rfl⟩
    rw [HY.out] at hcp
    by_cases hyz : y < z
    ·have hyz' : ¬ (z ≤ y) := by omega
     have HP2 : Hid (∀ i, i < k + 1 → (0 ≤ zs.getD i 0 ∧ zs.getD i 0 < 3 * f + 1) ∧ (0 < i → zs.getD (i - 1) 0 < zs.getD i 0)) := fun i hi => by
      by_cases ei : i = k
      ·subst ei
       rw [show i - 1 = k1 by have := HK1.out; omega, HZ.out, HY.out]
       exact ⟨hz, fun _ => hyz⟩
      ·exact HP.out i (by omega)
     clear hc hz HP hyz
     go_wp2_with fail
     go_quiet (first | (go_at_call 49; exact Calls.quiet_of_same (KA.out _)) | (go_at_call 63; exact Calls.quiet_of_same (sIn_any _ _ _ _)))
     go_wp2
     go_roundw
     case rel => exact ⟨k + 1, by omega, by go_num, HP2, below_drewN hbel _⟩
     case measure => simp [intOf]; omega
    ·have hyz' : z ≤ y := by omega
     have HN : Hid (numB f zs = false) := numB_no fun h => by
      have := (h k (by omega)).2 (by omega)
      rw [show k - 1 = k1 by have := HK1.out; omega, HZ.out, HY.out] at this
      omega
     clear hc hz HP hyz
     go_wp2_with fail
     go_quiet (first | (go_at_call 49; exact Calls.quiet_of_same (KA.out _)) | (go_at_call 63; exact Calls.quiet_of_same (sIn_any _ _ _ _)))
     go_wp2
     go_ret
     exact ⟨ret_bool HN.out.symm, below_drewN hbel _⟩
  ·obtain rfl : k = n := by omega
   have HN : Hid (numB f zs = true) := numB_yes fun i hi => HP.out i (by omega)
   go_wp2
   go_ret
   exact ⟨ret_bool HN.out.symm, hbel⟩
def MineP (root : ByteArray) (id f : Int) (r : ByteArray) (k n i : Int) : Prop := r = root ∧ k = f + 1 ∧ n = 3 * f + 1 ∧ i = id
instance (root : ByteArray) (id f : Int) (r : ByteArray) (k n i : Int) : Decidable (MineP root id f r k n i) := by unfold MineP; infer_instance
noncomputable def mineB (root : ByteArray) (id f : Int) (r : ByteArray) (k n i : Int) (b : ByteArray) (m : Nat) (S : Nat → ByteArray) : Bool := if MineP root id f r k n i then okP r k n i b m S else false
theorem mineB_no {root : ByteArray} {id f : Int} {r : ByteArray} {k n i : Int} {b : ByteArray} {m : Nat} {S : Nat → ByteArray} (h : ¬ MineP root id f r k n i) : mineB root id f r k n i b m S = false := if_neg h
theorem mineB_yes {root : ByteArray} {id f : Int} {r : ByteArray} {k n i : Int} {b : ByteArray} {m : Nat} {S : Nat → ByteArray} (h : MineP root id f r k n i) : mineB root id f r k n i b m S = okP r k n i b m S := if_pos h
theorem sMine_any (root : ByteArray) (id f : Int) (r : ByteArray) (k n i : Int) (b : ByteArray) (a : Option Addr) (m cap : Nat) (S : Nat → ByteArray) (w : World) (h : TxtAt w a m S) (hf : 1 ≤ f ∧ f ≤ 3) (hm : m ≤ 1048576) (hL : ∀ i, i < m → (S i).size ≤ maxLen) :
  Calls Tryz.prog 80 #[pcV r k n i b (.slice a m cap), .string root, .int .i64 id, .int .i64 f] w fun e w' => e = .returned (.bool (mineB root id f r k n i b m S)) ∧ Below w.heap.size w w' := by
 have KA : Hid (∀ W, Calls Tryz.prog 49 #[.int .i64 f] W fun e w' => e = .returned (.int .i64 (3 * f + 1)) ∧ w' = W) := fun W => sAllN_any f W hf
 obtain ⟨x, HX⟩ : ∃ x : Int, Hid (3 * f + 1 = x) := ⟨_, rfl⟩
 rw [HX.out] at KA
 obtain ⟨y, HY⟩ : ∃ y : Int, Hid (f + 1 = y) := ⟨_, rfl⟩
 have ey : IntKind.i64.wrap (f + 1) = y := by have := HY.out; rw [IntKind.wrap_i64]; omega
 have hb0 : Below w.heap.size w (w.alloc (.cells (pcC r k n i b (.slice a m cap)) 32)) := (Below.refl _ _).alloc (Nat.le_refl _) _
 have HB0 : Hid (Below w.heap.size w (w.alloc (.cells (pcC r k n i b (.slice a m cap)) 32))) := hb0
 obtain ⟨w0, HW0⟩ : ∃ x, Hid (x = w.alloc (.cells (pcC r k n i b (.slice a m cap)) 32)) := ⟨_, rfl⟩
 obtain ⟨B, HB⟩ : ∃ x, Hid (x = w.heap.size) := ⟨_, rfl⟩
 have HR : Hid (Row w0 B 32 (pcC r k n i b (.slice a m cap))) := by show Row _ _ _ _; rw [HW0.out, HB.out]; exact Row.new w _ _
 have KP : Hid (∀ W, Below w0.heap.size w0 W → Calls Tryz.prog 34 #[pcV r k n i b (.slice a m cap)] W fun e w' => e = .returned (.bool (okP r k n i b m S)) ∧ Below W.heap.size W w') := fun W hW => sPieceOk_any r k n i b a m cap S W ((h.below hb0).below (by rw [← HW0.out]; exact hW)) hm hL
 rw [← HW0.out] at HB0
 have q0 := HR.out.cell 0
 have q1 := HR.out.cell 1
 have q2 := HR.out.cell 2
 have q3 := HR.out.cell 3
 have q4 := HR.out.cell 4
 have q5 := HR.out.cell 5
 have lB := HR.out.lt
 simp at q0 q1 q2 q3 q4 q5
 clear h hb0 hf hL hm
 by_cases c1 : r = root
 case neg =>
  rw [mineB_no (fun h => c1 h.1)]
  have c1' := ba_ne c1
  go_enter Tryz.func80, Tryz.ntmps80
  go_wp2_with fail
  rw [← HW0.out, ← HB.out]
  go_quiet (fail)
  go_wp2
  go_ret
  exact ⟨rfl, below_drewN HB0.out _⟩
 have c1' := ba_beq root
 by_cases c2 : k = y
 case neg =>
  rw [mineB_no (fun h => c2 (h.2.1.trans HY.out))]
  have c2' : (k == y) = false := by simp [c2]
  subst c1
  go_enter Tryz.func80, Tryz.ntmps80
  go_wp2_with fail
  rw [← HW0.out, ← HB.out]
  go_quiet (fail)
  go_wp2
  go_ret
  exact ⟨rfl, below_drewN HB0.out _⟩
 have c2' : (k == y) = true := by simp [c2]
 by_cases c3 : n = x
 case neg =>
  rw [mineB_no (fun h => c3 (h.2.2.1.trans HX.out))]
  have c3' : (n == x) = false := by simp [c3]
  subst c1
  clear c2
  go_enter Tryz.func80, Tryz.ntmps80
  go_wp2_with fail
  rw [← HW0.out, ← HB.out]
  go_quiet ((go_at_call 49; exact Calls.quiet_of_same (KA.out _)))
  go_wp2
  go_ret
  exact ⟨rfl, below_drewN HB0.out _⟩
 have c3' : (n == x) = true := by simp [c3]
 by_cases c4 : i = id
 case neg =>
  rw [mineB_no (fun h => c4 h.2.2.2)]
  have c4' : (i == id) = false := by simp [c4]
  subst c1
  clear c2 c3
  go_enter Tryz.func80, Tryz.ntmps80
  go_wp2_with fail
  rw [← HW0.out, ← HB.out]
  go_quiet ((go_at_call 49; exact Calls.quiet_of_same (KA.out _)))
  go_wp2
  go_ret
  exact ⟨rfl, below_drewN HB0.out _⟩
 have c4' : (i == id) = true := by simp [c4]
 rw [mineB_yes ⟨c1, c2.trans HY.out.symm, c3.trans HX.out.symm, c4⟩]
 subst c1
 clear c2 c3 c4
 go_enter Tryz.func80, Tryz.ntmps80
 go_wp2_with fail
 rw [← HW0.out, ← HB.out]
 go_region_held3 (fun w' => w'.cell? ⟨B, 0, none⟩ = some (.string r) ∧ w'.cell? ⟨B, 1, none⟩ = some (.int .i64 k) ∧ w'.cell? ⟨B, 2, none⟩ = some (.int .i64 n) ∧ w'.cell? ⟨B, 3, none⟩ = some (.int .i64 i) ∧ w'.cell? ⟨B, 4, none⟩ = some (.string b) ∧ w'.cell? ⟨B, 5, none⟩ = some (.slice a m cap)) (go_keep) ((first | (go_at_call 49; refine Calls.mono (KA.out _) ?_; rintro e w8 ⟨rfl, rfl⟩) | (go_at_call 34; refine Calls.mono (KP.out _ (below_drewN (Below.refl _ _) _)) ?_; rintro e w9 ⟨rfl, hb9'⟩; have hb9 := below_of_drew hb9'; clear hb9'; have p0 := (hb9.cell (p := ⟨B, 0, none⟩) lB).trans q0; have p1 := (hb9.cell (p := ⟨B, 1, none⟩) lB).trans q1; have p2 := (hb9.cell (p := ⟨B, 2, none⟩) lB).trans q2; have p3 := (hb9.cell (p := ⟨B, 3, none⟩) lB).trans q3; have p4 := (hb9.cell (p := ⟨B, 4, none⟩) lB).trans q4; have p5 := (hb9.cell (p := ⟨B, 5, none⟩) lB).trans q5)))
 all_goals
  go_wp2
  go_ret
  exact ⟨rfl, below2 HB0.out hb9⟩
def stI (f : Int) (e r : Nat) : Int := if 2 * f + 1 ≤ (r : Int) then 2 else if 2 * f + 1 ≤ (e : Int) then 1 else if f + 1 ≤ (r : Int) then 1 else 0
def SlotP (id f : Int) (s : Sl) : Prop := s.r.size = 16 ∧ numB f s.ze = true ∧ numB f s.zr = true ∧ (s.e = true → s.h = true) ∧ (s.o = true → s.d = true) ∧ (1 ≤ stI f s.ze.length s.zr.length → s.d = true) ∧ (2 ≤ stI f s.ze.length s.zr.length → s.o = true) ∧ s.h = mineB s.r id f s.p.r s.p.k s.p.n s.p.i s.p.b s.p.m s.p.S
def NdP (id f : Int) (n : Nat) (S : Nat → Sl) : Prop := seB id f = true ∧ n ≤ 40 ∧ ∀ i, i < n → SlotP id f (S i) ∧ ∀ j, j < i → (S j).r ≠ (S i).r
noncomputable def ndB (id f : Int) (n : Nat) (S : Nat → Sl) : Bool := @decide (NdP id f n S) (Classical.propDecidable _)
theorem ndB_yes {id f : Int} {n : Nat} {S : Nat → Sl} (h : NdP id f n S) : ndB id f n S = true := by unfold ndB; exact @decide_eq_true _ (Classical.propDecidable _) h
theorem ndB_no {id f : Int} {n : Nat} {S : Nat → Sl} (h : ¬ NdP id f n S) : ndB id f n S = false := by unfold ndB; exact @decide_eq_false _ (Classical.propDecidable _) h
theorem seB_f {id f : Int} (h : seB id f = true) : 1 ≤ f ∧ f ≤ 3 := by
 have := of_decide_eq_true h
 exact ⟨this.1, this.2.1⟩
structure SlN (s : Sl) : Prop where
 m : s.p.m ≤ 1048576
 tx : ∀ i, i < s.p.m → (s.p.S i).size ≤ maxLen
 ne : s.ze.length ≤ 1048576
 nr : s.zr.length ≤ 1048576
theorem ag13_list {y : Nat → Value} {c0 c1 c2 c3 c4 c5 c6 c7 c8 c9 c10 c11 c12 : Value} (h : ag13 y = .agg #[c0, c1, c2, c3, c4, c5, c6, c7, c8, c9, c10, c11, c12]) : [y 0, y 1, y 2, y 3, y 4, y 5, y 6, y 7, y 8, y 9, y 10, y 11, y 12] = [c0, c1, c2, c3, c4, c5, c6, c7, c8, c9, c10, c11, c12] := by
 have h' := congrArg (fun v => match v with | Value.agg a => a.toList | _ => []) h
 exact h'
abbrev slL (s : Sl) (v6 v11 v12 : Value) : List Value := [.string s.r, .string s.p.r, .int .i64 s.p.k, .int .i64 s.p.n, .int .i64 s.p.i, .string s.p.b, v6, .bool s.h, .bool s.e, .bool s.d, .bool s.o, v11, v12]
theorem slot_at {w : World} {n : Nat} {S : Nat → Sl} {a : Option Addr} {cap : Nat} (h : Rd w (slsD n S) (.slice a n cap)) {i : Nat} (hi : i < n) :
  ∃ (b off : Nat) (a6 a11 a12 : Option Addr) (c6 c11 c12 : Nat), a = some ⟨b, off, none⟩ ∧ w.rangeAt b (off + i * 13) (slL (S i) (.slice a6 (S i).p.m c6) (.slice a11 (S i).ze.length c11) (.slice a12 (S i).zr.length c12)) ∧ TxtAt w a6 (S i).p.m (S i).p.S ∧ IntsAt w a11 (S i).ze.length (S i).ze ∧ IntsAt w a12 (S i).zr.length (S i).zr := by
 obtain ⟨b, off, y, a6, a11, a12, c6, c11, c12, ea, hc, e, t6, t11, t12⟩ := slot_row h hi
 obtain ⟨_, x⟩ := one_row (sz := 12) w (Below.refl _ _) hc
 have R := range13 x
 rw [ag13_list e] at R
 exact ⟨b, off, a6, a11, a12, c6, c11, c12, ea, R, t6, t11, t12⟩
end Go.Proofs.YtaenoiffamgcfaaGreatDoor
namespace Go.Proofs.YtaenoiffamgcfaaGreatDoor
open Go.ChangeShapes Go.WideShapes Go.ChangeAt Go.RowKit Go.Sort
def g7 (x1 b2 b3 bh bm be bd bo : Bool) : Bool := x1 && b2 && b3 && (bh == bm) && (!be || bh) && (!bo || bd)
def g9 (bd bo : Bool) (e1 r1 r2 : Bool) : Bool := !((!bd && (e1 || r1)) || (!bo && r2))
theorem slot_of_gs {id f : Int} {s : Sl} (h7 : g7 (decide (s.r.size = 16)) (numB f s.ze) (numB f s.zr) s.h (mineB s.r id f s.p.r s.p.k s.p.n s.p.i s.p.b s.p.m s.p.S) s.e s.d s.o = true) (h9 : g9 s.d s.o (decide (2 * f + 1 ≤ (s.ze.length : Int))) (decide (f + 1 ≤ (s.zr.length : Int))) (decide (2 * f + 1 ≤ (s.zr.length : Int))) = true) : SlotP id f s := by
 unfold g7 at h7
 unfold g9 at h9
 simp only [Bool.and_eq_true, Bool.or_eq_true, Bool.not_eq_true', decide_eq_true_eq, beq_iff_eq, Bool.or_eq_false_iff, Bool.and_eq_false_iff, Bool.not_eq_false', decide_eq_false_iff_not] at h7 h9
 obtain ⟨⟨⟨⟨⟨a1, a2⟩, a3⟩, a4⟩, a5⟩, a6⟩ := h7
 obtain ⟨c1, c2⟩ := h9
 refine ⟨a1, a2, a3, fun h => ?_, fun h => ?_, fun h => ?_, fun h => ?_, a4⟩
 ·rcases a5 with a5 | a5
  ·rw [h] at a5; cases a5
  ·exact a5
 ·rcases a6 with a6 | a6
  ·rw [h] at a6; cases a6
  ·exact a6
 ·rcases c1 with c1 | c1
  ·exact c1
  ·unfold stI at h
   obtain ⟨d1, d2⟩ := c1
   rw [if_neg (by omega), if_neg d1, if_neg d2] at h
   omega
 ·rcases c2 with c2 | c2
  ·exact c2
  ·unfold stI at h
   rw [if_neg c2] at h
   split at h
   ·omega
   ·split at h <;> omega
theorem gs_of_slot {id f : Int} {s : Sl} (h : SlotP id f s) : g7 (decide (s.r.size = 16)) (numB f s.ze) (numB f s.zr) s.h (mineB s.r id f s.p.r s.p.k s.p.n s.p.i s.p.b s.p.m s.p.S) s.e s.d s.o = true ∧ g9 s.d s.o (decide (2 * f + 1 ≤ (s.ze.length : Int))) (decide (f + 1 ≤ (s.zr.length : Int))) (decide (2 * f + 1 ≤ (s.zr.length : Int))) = true := by
 obtain ⟨a1, a2, a3, a4, a5, a6, a7, a8⟩ := h
 unfold g7 g9
 simp only [Bool.and_eq_true, Bool.or_eq_true, Bool.not_eq_true', decide_eq_true_eq, beq_iff_eq, Bool.or_eq_false_iff, Bool.and_eq_false_iff, Bool.not_eq_false', decide_eq_false_iff_not]
 refine ⟨⟨⟨⟨⟨⟨a1, a2⟩, a3⟩, a8⟩, ?_⟩, ?_⟩, ?_, ?_⟩
 ·cases e : s.e with
  | false => exact .inl rfl
  | true => exact .inr (a4 e)
 ·cases e : s.o with
  | false => exact .inl rfl
  | true => exact .inr (a5 e)
 ·cases e : s.d with
  | true => exact .inl rfl
  | false =>
   have n1 : ¬ 1 ≤ stI f s.ze.length s.zr.length := fun h => by rw [a6 h] at e; cases e
   unfold stI at n1
   refine .inr ⟨fun h => n1 ?_, fun h => n1 ?_⟩ <;> (repeat' split) <;> omega
 ·cases e : s.o with
  | true => exact .inl rfl
  | false =>
   have n1 : ¬ 2 ≤ stI f s.ze.length s.zr.length := fun h => by rw [a7 h] at e; cases e
   unfold stI at n1
   exact .inr fun h => n1 (by rw [if_pos h]; omega)
def cU (b : Bool) (v o : Value) : Value := if b = true then v else o
theorem cU_y (v o : Value) : cU true v o = v := rfl
theorem sNodeOk_any (id f : Int) (a : Option Addr) (n cap : Nat) (S : Nat → Sl) (w : World) (h : Rd w (slsD n S) (.slice a n cap)) (hn : n ≤ 1048576) (hs : ∀ i, i < n → SlN (S i)) :
  Calls Tryz.prog 79 #[ndV id f (.slice a n cap)] w fun e w' => e = .returned (.bool (ndB id f n S)) ∧ Below w.heap.size w w' := by
 obtain ⟨A, HA⟩ : ∃ x, Hid (x = w.heap.size) := ⟨_, rfl⟩
 obtain ⟨w0, HW0⟩ : ∃ x, Hid (x = w.alloc (.cells #[.int .i64 id, .int .i64 f, .slice a n cap] 37)) := ⟨_, rfl⟩
 have HR : Hid (Row w0 A 37 #[.int .i64 id, .int .i64 f, .slice a n cap]) := by show Row _ _ _ _; rw [HW0.out, HA.out]; exact Row.new w _ _
 have b0 : Below w.heap.size w w0 := by rw [HW0.out]; exact (Below.refl _ _).alloc (Nat.le_refl _) _
 have KB0 : Hid (Below w.heap.size w w0) := b0
 have KH : Hid (Rd w0 (slsD n S) (.slice a n cap)) := h.below b0
 have KN : Hid (∀ i, i < n → SlN (S i)) := hs
 have x0 := HR.out.cell 0
 have x1 := HR.out.cell 1
 have x2 := HR.out.cell 2
 simp at x0 x1 x2
 clear h b0 hs
 by_cases hf : 1 ≤ f ∧ f ≤ 3
 case neg =>
  have i1 : inB f 1 3 = false := decide_eq_false hf
  rw [ndB_no (fun h => hf (seB_f h.1))]
  go_enter Tryz.func79, Tryz.ntmps79
  go_wp2_with fail
  rw [← HW0.out, ← HA.out]
  go_quiet ((go_at_call 63; exact Calls.quiet_of_same (sIn_any _ _ _ _)))
  go_wp2
  go_ret
  exact ⟨rfl, below_drewN KB0.out _⟩
 have i1 : inB f 1 3 = true := decide_eq_true hf
 have HF : Hid (1 ≤ f ∧ f ≤ 3) := hf
 have KA : Hid (∀ W, Calls Tryz.prog 49 #[.int .i64 f] W fun e w' => e = .returned (.int .i64 (3 * f + 1)) ∧ w' = W) := fun W => sAllN_any f W hf
 obtain ⟨m, HM⟩ : ∃ m : Int, Hid (3 * f + 1 = m) := ⟨_, rfl⟩
 rw [HM.out] at KA
 have em : IntKind.i64.wrap (m - 1) = 3 * f := by have := HM.out; rw [IntKind.wrap_i64]; omega
 obtain ⟨m1, HM1⟩ : ∃ m1 : Int, Hid (3 * f = m1) := ⟨_, rfl⟩
 rw [HM1.out] at em
 have e20 : IntKind.i64.wrap (2 * f) = 2 * f := by rw [IntKind.wrap_i64]; omega
 obtain ⟨x, HX⟩ : ∃ x : Int, Hid (2 * f + 1 = x) := ⟨_, rfl⟩
 have e21 : IntKind.i64.wrap (2 * f + 1) = x := by have := HX.out; rw [IntKind.wrap_i64]; omega
 obtain ⟨y, HY⟩ : ∃ y : Int, Hid (f + 1 = y) := ⟨_, rfl⟩
 have e11 : IntKind.i64.wrap (f + 1) = y := by have := HY.out; rw [IntKind.wrap_i64]; omega
 clear hf
 cases hse : seB id f with
 | false =>
  have i2 : inB id 0 m1 = false := by
   have := HM1.out
   have := HF.out
   have := of_decide_eq_false hse
   unfold inB
   exact decide_eq_false (by omega)
  rw [ndB_no (fun h => by have := h.1; rw [hse] at this; cases this)]
  go_enter Tryz.func79, Tryz.ntmps79
  go_wp2_with fail
  rw [← HW0.out, ← HA.out]
  go_quiet (first | (go_at_call 49; exact Calls.quiet_of_same (KA.out _)) | (go_at_call 63; exact Calls.quiet_of_same (sIn_any _ _ _ _)))
  go_wp2
  go_ret
  exact ⟨rfl, below_drewN KB0.out _⟩
 | true =>
 have i2 : inB id 0 m1 = true := by
  have := HM1.out
  have := HF.out
  have := of_decide_eq_true hse
  unfold inB
  exact decide_eq_true (by omega)
 have HSE : Hid (seB id f = true) := hse
 clear hse
 by_cases h40 : n ≤ 40
 case neg =>
  rw [ndB_no (fun h => h40 h.2.1)]
  have h40' : (n : Int) > 40 := by omega
  go_enter Tryz.func79, Tryz.ntmps79
  go_wp2_with fail
  rw [← HW0.out, ← HA.out]
  go_quiet (first | (go_at_call 49; exact Calls.quiet_of_same (KA.out _)) | (go_at_call 63; exact Calls.quiet_of_same (sIn_any _ _ _ _)))
  go_wp2
  go_ret
  exact ⟨rfl, below_drewN KB0.out _⟩
 have h40' : ¬ (n : Int) > 40 := by omega
 go_enter Tryz.func79, Tryz.ntmps79
 go_wp2_with fail
 rw [← HW0.out, ← HA.out]
 go_quiet (first | (go_at_call 49; exact Calls.quiet_of_same (KA.out _)) | (go_at_call 63; exact Calls.quiet_of_same (sIn_any _ _ _ _)))
 go_wp2_with fail
 clear i1 i2 em KA HM HM1 h40'
 go_loopw [3] (fun vi wr => ∃ k : Nat, k ≤ n ∧ vi = .int .i64 (k : Int) ∧ Hid (∀ i, i < k → SlotP id f (S i) ∧ ∀ j, j < i → (S j).r ≠ (S i).r) ∧ Below w0.heap.size w0 wr) (fun vi _ => n - (intOf vi).toNat)
 case atStart => exact ⟨0, Nat.zero_le _, rfl, fun i hi => absurd hi (Nat.not_lt_zero _), below_drewN (Below.refl _ _) _⟩
 case round =>
  obtain ⟨k, hk, rfl, HP, hbel⟩ := hrel
  have lA := (HR.out.below hbel HR.out.lt).lt
  replace x0 := (hbel.cell (p := ⟨A, 0, none⟩) HR.out.lt).trans x0
  replace x1 := (hbel.cell (p := ⟨A, 1, none⟩) HR.out.lt).trans x1
  replace x2 := (hbel.cell (p := ⟨A, 2, none⟩) HR.out.lt).trans x2
  by_cases hlt : k < n
  case neg =>
   obtain rfl : k = n := by omega
   have HY : Hid (ndB id f k S = true) := ndB_yes ⟨HSE.out, h40, HP.out⟩
   go_wp2
   go_ret
   exact ⟨ret_bool HY.out.symm, below2 KB0.out hbel⟩
  have hki : (k : Int) < (n : Int) := by omega
  obtain ⟨b1, f1, p6, p11, p12, q6, q11, q12, rfl, R1, t6, t11, t12⟩ := slot_at (KH.out.below hbel) hlt
  have R1 : Hid _ := R1
  obtain ⟨B2, HB2⟩ : ∃ x, Hid (x = wr.heap.size) := ⟨_, rfl⟩
  obtain ⟨w2, HW2⟩ : ∃ x, Hid (x = wr.alloc (.cells (slC (S k) (.slice p6 (S k).p.m q6) (.slice p11 (S k).ze.length q11) (.slice p12 (S k).zr.length q12)) 65)) := ⟨_, rfl⟩
  have b2 : Below wr.heap.size wr w2 := by rw [HW2.out]; exact (Below.refl _ _).alloc (Nat.le_refl _) _
  have HR2 : Hid (Row w2 B2 65 (slC (S k) (.slice p6 (S k).p.m q6) (.slice p11 (S k).ze.length q11) (.slice p12 (S k).zr.length q12))) := by show Row _ _ _ _; rw [HW2.out, HB2.out]; exact Row.new wr _ _
  have KB2 : Hid (Below w0.heap.size w0 w2) := below2 hbel b2
  obtain ⟨c1, HC1⟩ : ∃ x, Hid (decide ((S k).r.size = 16) = x) := ⟨_, rfl⟩
  obtain ⟨c2, HC2⟩ : ∃ x, Hid (numB f (S k).ze = x) := ⟨_, rfl⟩
  obtain ⟨c3, HC3⟩ : ∃ x, Hid (numB f (S k).zr = x) := ⟨_, rfl⟩
  obtain ⟨cm, HCM⟩ : ∃ x, Hid (mineB (S k).r id f (S k).p.r (S k).p.k (S k).p.n (S k).p.i (S k).p.b (S k).p.m (S k).p.S = x) := ⟨_, rfl⟩
  obtain ⟨ch, HCH⟩ : ∃ x, Hid ((S k).h = x) := ⟨_, rfl⟩
  obtain ⟨ce, HCE⟩ : ∃ x, Hid ((S k).e = x) := ⟨_, rfl⟩
  obtain ⟨cd, HCD⟩ : ∃ x, Hid ((S k).d = x) := ⟨_, rfl⟩
  obtain ⟨co, HCO⟩ : ∃ x, Hid ((S k).o = x) := ⟨_, rfl⟩
  have N1 : ∀ d os, Calls Tryz.prog 112 #[.slice p11 (S k).ze.length q11, .int .i64 f] (grow (redrawn w2 d) os) fun e w' => e = .returned (.bool c2) ∧ ∃ p : Regrown, w' = grow (redrawn w2 p.d) p.os := fun d os => Calls.regrown_of (by have := sNums_any f p11 _ q11 (S k).ze (grow (redrawn w2 d) os) ((t11.below b2).below (below_regrown w2 d os)) HF.out (KN.out k hlt).ne; rw [HC2.out] at this; exact this)
  have N2 : ∀ d os, Calls Tryz.prog 112 #[.slice p12 (S k).zr.length q12, .int .i64 f] (grow (redrawn w2 d) os) fun e w' => e = .returned (.bool c3) ∧ ∃ p : Regrown, w' = grow (redrawn w2 p.d) p.os := fun d os => Calls.regrown_of (by have := sNums_any f p12 _ q12 (S k).zr (grow (redrawn w2 d) os) ((t12.below b2).below (below_regrown w2 d os)) HF.out (KN.out k hlt).nr; rw [HC3.out] at this; exact this)
  have NN3 : ∀ d os, Calls Tryz.prog 80 #[pcV (S k).p.r (S k).p.k (S k).p.n (S k).p.i (S k).p.b (.slice p6 (S k).p.m q6), .string (S k).r, .int .i64 id, .int .i64 f] (grow (redrawn w2 d) os) fun e w' => e = .returned (.bool cm) ∧ ∃ p : Regrown, w' = grow (redrawn w2 p.d) p.os := fun d os => Calls.regrown_of (by have := sMine_any (S k).r id f (S k).p.r (S k).p.k (S k).p.n (S k).p.i (S k).p.b p6 (S k).p.m q6 (S k).p.S (grow (redrawn w2 d) os) ((t6.below b2).below (below_regrown w2 d os)) HF.out (KN.out k hlt).m (KN.out k hlt).tx; rw [HCM.out] at this; exact this)
  have HLT : Hid (k < n) := hlt
  have KN1 : Hid _ := N1
  have KN2 : Hid _ := N2
  have KN3 : Hid _ := NN3
  clear N1 N2 NN3 t6 t11 t12 b2 hbel
  go_wp2_with (refine wpList_load_mid (by rfl) 65 _ (by rfl) b1 (f1 + k * 13) (by rfl) (slL (S k) (.slice p6 (S k).p.m q6) (.slice p11 (S k).ze.length q11) (.slice p12 (S k).zr.length q12)) _ ?_ Tryz.underlying65 (by rfl) Tryz.infoSl ?_; exact R1.out)
  rw [← HW2.out, ← HB2.out]
  have RA := HR.out.below KB2.out HR.out.lt
  have y0 := RA.cell 0
  have y1 := RA.cell 1
  have y2 := RA.cell 2
  have z0 := HR2.out.cell 0
  have z1 := HR2.out.cell 1
  have z2 := HR2.out.cell 2
  have z3 := HR2.out.cell 3
  have z4 := HR2.out.cell 4
  have z5 := HR2.out.cell 5
  have z6 := HR2.out.cell 6
  have z7 := HR2.out.cell 7
  have z8 := HR2.out.cell 8
  have z9 := HR2.out.cell 9
  have z10 := HR2.out.cell 10
  have z11 := HR2.out.cell 11
  have z12 := HR2.out.cell 12
  simp at y0 y1 y2 z0 z1 z2 z3 z4 z5 z6 z7 z8 z9 z10 z11 z12
  rw [HCH.out] at z7
  rw [HCE.out] at z8
  rw [HCD.out] at z9
  rw [HCO.out] at z10
  clear RA R1 x0 x1 x2
  go_cut [89] from 26 to 140 (fun v wx => Hid (v = .bool (!g7 c1 c2 c3 ch cm ce cd co) ∧ Below w2.heap.size w2 wx))
  case first =>
   have Y0 : ∀ d os, (grow (redrawn w2 d) os).cell? ⟨A, 0, none⟩ = _ := fun d os => cell_regrown y0 d os
   have Y1 : ∀ d os, (grow (redrawn w2 d) os).cell? ⟨A, 1, none⟩ = _ := fun d os => cell_regrown y1 d os
   have Z0 : ∀ d os, (grow (redrawn w2 d) os).cell? ⟨B2, 0, none⟩ = _ := fun d os => cell_regrown z0 d os
   have Z1 : ∀ d os, (grow (redrawn w2 d) os).cell? ⟨B2, 1, none⟩ = _ := fun d os => cell_regrown z1 d os
   have Z2 : ∀ d os, (grow (redrawn w2 d) os).cell? ⟨B2, 2, none⟩ = _ := fun d os => cell_regrown z2 d os
   have Z3 : ∀ d os, (grow (redrawn w2 d) os).cell? ⟨B2, 3, none⟩ = _ := fun d os => cell_regrown z3 d os
   have Z4 : ∀ d os, (grow (redrawn w2 d) os).cell? ⟨B2, 4, none⟩ = _ := fun d os => cell_regrown z4 d os
   have Z5 : ∀ d os, (grow (redrawn w2 d) os).cell? ⟨B2, 5, none⟩ = _ := fun d os => cell_regrown z5 d os
   have Z6 : ∀ d os, (grow (redrawn w2 d) os).cell? ⟨B2, 6, none⟩ = _ := fun d os => cell_regrown z6 d os
   have Z7 : ∀ d os, (grow (redrawn w2 d) os).cell? ⟨B2, 7, none⟩ = _ := fun d os => cell_regrown z7 d os
   have Z8 : ∀ d os, (grow (redrawn w2 d) os).cell? ⟨B2, 8, none⟩ = _ := fun d os => cell_regrown z8 d os
   have Z9 : ∀ d os, (grow (redrawn w2 d) os).cell? ⟨B2, 9, none⟩ = _ := fun d os => cell_regrown z9 d os
   have Z10 : ∀ d os, (grow (redrawn w2 d) os).cell? ⟨B2, 10, none⟩ = _ := fun d os => cell_regrown z10 d os
   have Z11 : ∀ d os, (grow (redrawn w2 d) os).cell? ⟨B2, 11, none⟩ = _ := fun d os => cell_regrown z11 d os
   have Z12 : ∀ d os, (grow (redrawn w2 d) os).cell? ⟨B2, 12, none⟩ = _ := fun d os => cell_regrown z12 d os
   have N1 := KN1.out
   have N2 := KN2.out
   have NN3 := KN3.out
   clear y0 y1 y2 z0 z1 z2 z3 z4 z5 z6 z7 z8 z9 z10 z11 z12
   cases c1 with
   | false =>
    have s1' : (((S k).r.size : Int) != 16) = true := by have := of_decide_eq_false HC1.out; simp; omega
    refine wp_region_quiet_below (by kernel_rfl) (by kernel_rfl) ?_
    repeat (go_big_quiet_step (first | (with_reducible exact N1 _ _) | (with_reducible exact N2 _ _) | (with_reducible exact NN3 _ _)))
    refine wpQuiet_nil ?_
    intro _ hw'
    obtain ⟨⟨dq, osq⟩, hw''⟩ := hw'
    subst hw''
    go_wp2_with fail
    go_meet
    exact ⟨rfl, below_regrown w2 dq osq⟩
   | true =>
   have s1' : (((S k).r.size : Int) != 16) = false := by have := of_decide_eq_true HC1.out; simp; omega
   cases c2 with
   | false =>
    refine wp_region_quiet_below (by kernel_rfl) (by kernel_rfl) ?_
    repeat (go_big_quiet_step (first | (with_reducible exact N1 _ _) | (with_reducible exact N2 _ _) | (with_reducible exact NN3 _ _)))
    refine wpQuiet_nil ?_
    intro _ hw'
    obtain ⟨⟨dq, osq⟩, hw''⟩ := hw'
    subst hw''
    go_wp2_with fail
    go_meet
    exact ⟨rfl, below_regrown w2 dq osq⟩
   | true =>
   cases c3 with
   | false =>
    refine wp_region_quiet_below (by kernel_rfl) (by kernel_rfl) ?_
    repeat (go_big_quiet_step (first | (with_reducible exact N1 _ _) | (with_reducible exact N2 _ _) | (with_reducible exact NN3 _ _)))
    refine wpQuiet_nil ?_
    intro _ hw'
    obtain ⟨⟨dq, osq⟩, hw''⟩ := hw'
    subst hw''
    go_wp2_with fail
    go_meet
    exact ⟨rfl, below_regrown w2 dq osq⟩
   | true =>
   cases ch with
   | false =>
    cases cm with
    | true =>
     refine wp_region_quiet_below (by kernel_rfl) (by kernel_rfl) ?_
     repeat (go_big_quiet_step (first | (with_reducible exact N1 _ _) | (with_reducible exact N2 _ _) | (with_reducible exact NN3 _ _)))
     refine wpQuiet_nil ?_
     intro _ hw'
     obtain ⟨⟨dq, osq⟩, hw''⟩ := hw'
     subst hw''
     go_wp2_with fail
     go_meet
     exact ⟨congrArg Value.bool (by simp [g7]), below_regrown w2 dq osq⟩
    | false =>
     cases ce with
     | true =>
      refine wp_region_quiet_below (by kernel_rfl) (by kernel_rfl) ?_
      repeat (go_big_quiet_step (first | (with_reducible exact N1 _ _) | (with_reducible exact N2 _ _) | (with_reducible exact NN3 _ _)))
      refine wpQuiet_nil ?_
      intro _ hw'
      obtain ⟨⟨dq, osq⟩, hw''⟩ := hw'
      subst hw''
      go_wp2_with fail
      go_meet
      exact ⟨congrArg Value.bool (by simp [g7]), below_regrown w2 dq osq⟩
     | false =>
      cases co with
      | false =>
       refine wp_region_quiet_below (by kernel_rfl) (by kernel_rfl) ?_
       repeat (go_big_quiet_step (first | (with_reducible exact N1 _ _) | (with_reducible exact N2 _ _) | (with_reducible exact NN3 _ _)))
       refine wpQuiet_nil ?_
       intro _ hw'
       obtain ⟨⟨dq, osq⟩, hw''⟩ := hw'
       subst hw''
       go_wp2_with fail
       go_meet
       exact ⟨congrArg Value.bool (by simp [g7]), below_regrown w2 dq osq⟩
      | true =>
       refine wp_region_quiet_below (by kernel_rfl) (by kernel_rfl) ?_
       repeat (go_big_quiet_step (first | (with_reducible exact N1 _ _) | (with_reducible exact N2 _ _) | (with_reducible exact NN3 _ _)))
       refine wpQuiet_nil ?_
       intro _ hw'
       obtain ⟨⟨dq, osq⟩, hw''⟩ := hw'
       subst hw''
       go_wp2_with fail
       go_meet
       exact ⟨congrArg Value.bool (by simp [g7]), below_regrown w2 dq osq⟩
   | true =>
    cases cm with
    | false =>
     refine wp_region_quiet_below (by kernel_rfl) (by kernel_rfl) ?_
     repeat (go_big_quiet_step (first | (with_reducible exact N1 _ _) | (with_reducible exact N2 _ _) | (with_reducible exact NN3 _ _)))
     refine wpQuiet_nil ?_
     intro _ hw'
     obtain ⟨⟨dq, osq⟩, hw''⟩ := hw'
     subst hw''
     go_wp2_with fail
     go_meet
     exact ⟨congrArg Value.bool (by simp [g7]), below_regrown w2 dq osq⟩
    | true =>
     cases ce with
     | false =>
      cases co with
      | false =>
       refine wp_region_quiet_below (by kernel_rfl) (by kernel_rfl) ?_
       repeat (go_big_quiet_step (first | (with_reducible exact N1 _ _) | (with_reducible exact N2 _ _) | (with_reducible exact NN3 _ _)))
       refine wpQuiet_nil ?_
       intro _ hw'
       obtain ⟨⟨dq, osq⟩, hw''⟩ := hw'
       subst hw''
       go_wp2_with fail
       go_meet
       exact ⟨congrArg Value.bool (by simp [g7]), below_regrown w2 dq osq⟩
      | true =>
       refine wp_region_quiet_below (by kernel_rfl) (by kernel_rfl) ?_
       repeat (go_big_quiet_step (first | (with_reducible exact N1 _ _) | (with_reducible exact N2 _ _) | (with_reducible exact NN3 _ _)))
       refine wpQuiet_nil ?_
       intro _ hw'
       obtain ⟨⟨dq, osq⟩, hw''⟩ := hw'
       subst hw''
       go_wp2_with fail
       go_meet
       exact ⟨congrArg Value.bool (by simp [g7]), below_regrown w2 dq osq⟩
     | true =>
      cases co with
      | false =>
       refine wp_region_quiet_below (by kernel_rfl) (by kernel_rfl) ?_
       repeat (go_big_quiet_step (first | (with_reducible exact N1 _ _) | (with_reducible exact N2 _ _) | (with_reducible exact NN3 _ _)))
       refine wpQuiet_nil ?_
       intro _ hw'
       obtain ⟨⟨dq, osq⟩, hw''⟩ := hw'
       subst hw''
       go_wp2_with fail
       go_meet
       exact ⟨congrArg Value.bool (by simp [g7]), below_regrown w2 dq osq⟩
      | true =>
       refine wp_region_quiet_below (by kernel_rfl) (by kernel_rfl) ?_
       repeat (go_big_quiet_step (first | (with_reducible exact N1 _ _) | (with_reducible exact N2 _ _) | (with_reducible exact NN3 _ _)))
       refine wpQuiet_nil ?_
       intro _ hw'
       obtain ⟨⟨dq, osq⟩, hw''⟩ := hw'
       subst hw''
       go_wp2_with fail
       go_meet
       exact ⟨congrArg Value.bool (by simp [g7]), below_regrown w2 dq osq⟩
  obtain ⟨rfl, hb3⟩ := hcut.out
  clear hcut KN1 KN2 KN3
  have KB3 : Hid (Below w0.heap.size w0 wc) := below2 KB2.out hb3
  have RA := HR.out.below KB3.out HR.out.lt
  have RB := HR2.out.below hb3 HR2.out.lt
  have HRB : Hid (Row wc B2 65 (slC (S k) (.slice p6 (S k).p.m q6) (.slice p11 (S k).ze.length q11) (.slice p12 (S k).zr.length q12))) := RB
  replace y0 := RA.cell 0
  replace y1 := RA.cell 1
  replace y2 := RA.cell 2
  replace z0 := RB.cell 0
  replace z1 := RB.cell 1
  replace z2 := RB.cell 2
  replace z3 := RB.cell 3
  replace z4 := RB.cell 4
  replace z5 := RB.cell 5
  replace z6 := RB.cell 6
  replace z7 := RB.cell 7
  replace z8 := RB.cell 8
  replace z9 := RB.cell 9
  replace z10 := RB.cell 10
  replace z11 := RB.cell 11
  replace z12 := RB.cell 12
  simp at y0 y1 y2 z0 z1 z2 z3 z4 z5 z6 z7 z8 z9 z10 z11 z12
  rw [HCD.out] at z9
  rw [HCO.out] at z10
  clear RA RB hb3
  cases hg7 : g7 c1 c2 c3 ch cm ce cd co with
  | false =>
   have HN : Hid (ndB id f n S = false) := ndB_no fun h => by
    have := (gs_of_slot (h.2.2 k HLT.out).1).1
    rw [HC1.out, HC2.out, HC3.out, HCH.out, HCM.out, HCE.out, HCD.out, HCO.out, hg7] at this
    cases this
   go_wp2
   go_ret
   exact ⟨ret_bool HN.out.symm, below2 KB0.out KB3.out⟩
  | true =>
  have HG7 : Hid (g7 c1 c2 c3 ch cm ce cd co = true) := hg7
  clear hg7
  go_upto_region 9 with fail
  go_cut [126] from 26 to 140 (fun v wx => Hid (v = .bool (!g9 cd co (decide (x ≤ ((S k).ze.length : Int))) (decide (y ≤ ((S k).zr.length : Int))) (decide (x ≤ ((S k).zr.length : Int)))) ∧ wx = wc))
  case first =>
   cases cd with
   | true =>
    cases co with
    | true =>
     go_wp2
     go_meet
     exact ⟨congrArg Value.bool (by simp [g9]), rfl⟩
    | false =>
     by_cases r2 : x ≤ ((S k).zr.length : Int)
     ·go_wp2
      go_meet
      exact ⟨congrArg Value.bool (by simp [g9, r2]), rfl⟩
     ·go_wp2
      go_meet
      exact ⟨congrArg Value.bool (by simp [g9, r2]), rfl⟩
   | false =>
    by_cases r0 : x ≤ ((S k).ze.length : Int)
    ·go_wp2
     go_meet
     exact ⟨congrArg Value.bool (by simp [g9, r0]), rfl⟩
    by_cases r1 : y ≤ ((S k).zr.length : Int)
    ·go_wp2
     go_meet
     exact ⟨congrArg Value.bool (by simp [g9, r1]), rfl⟩
    cases co with
    | true =>
     go_wp2
     go_meet
     exact ⟨congrArg Value.bool (by simp [g9, r0, r1]), rfl⟩
    | false =>
     by_cases r2 : x ≤ ((S k).zr.length : Int)
     ·go_wp2
      go_meet
      exact ⟨congrArg Value.bool (by simp [g9, r2]), rfl⟩
     ·go_wp2
      go_meet
      exact ⟨congrArg Value.bool (by simp [g9, r0, r1, r2]), rfl⟩
  obtain ⟨rfl, hwc⟩ := hcut.out
  clear hcut
  subst hwc
  cases hg9 : g9 cd co (decide (x ≤ ((S k).ze.length : Int))) (decide (y ≤ ((S k).zr.length : Int))) (decide (x ≤ ((S k).zr.length : Int))) with
  | false =>
   have HN : Hid (ndB id f n S = false) := ndB_no fun h => by
    have := (gs_of_slot (h.2.2 k HLT.out).1).2
    rw [HCD.out, HCO.out, HX.out, HY.out, hg9] at this
    cases this
   go_wp2
   go_ret
   exact ⟨ret_bool HN.out.symm, below2 KB0.out KB3.out⟩
  | true =>
  have HSP : Hid (SlotP id f (S k)) := slot_of_gs (by rw [HC1.out, HC2.out, HC3.out, HCH.out, HCM.out, HCE.out, HCD.out, HCO.out]; exact HG7.out) (by rw [HCD.out, HCO.out, HX.out, HY.out]; exact hg9)
  have KHc : Hid (Rd wc (slsD n S) (.slice (some ⟨b1, f1, none⟩) n cap)) := KH.out.below KB3.out
  clear hg9 HG7 z1 z2 z3 z4 z5 z6 z7 z8 z9 z10 z11 z12
  go_wp2_with fail
  go_loopw [5] (fun vi wr => ∃ j : Nat, j ≤ k ∧ vi = .int .i64 (j : Int) ∧ Hid (∀ i, i < j → (S i).r ≠ (S k).r) ∧ Below wc.heap.size wc wr) (fun vi _ => k - (intOf vi).toNat)
  case atStart => exact ⟨0, Nat.zero_le _, rfl, fun i hi => absurd hi (Nat.not_lt_zero _), Below.refl _ _⟩
  case round =>
   obtain ⟨j, hj, rfl, HJ, hbj⟩ := hrel
   replace y2 := (hbj.cell (p := ⟨A, 2, none⟩) (block_lt_of_cell y2)).trans y2
   replace z0 := (hbj.cell (p := ⟨B2, 0, none⟩) (block_lt_of_cell z0)).trans z0
   by_cases hjk : j < k
   ·have hji : (j : Int) < (k : Int) := by omega
    have hjn : (j : Int) < (n : Int) := by omega
    obtain ⟨b3, f3, g6, g11, g12, d6, d11, d12, e3, R3, _, _, _⟩ := slot_at (KHc.out.below hbj) (Nat.lt_trans hjk HLT.out)
    cases e3
    have v0 : wr.cell? ⟨b1, f1 + j * 13, none⟩ = some (.string (S j).r) := by
     have := R3 0 (.string (S j).r) rfl
     simpa using this
    have KBj : Hid (Below wc.heap.size wc wr) := hbj
    clear R3 hbj
    by_cases hr : (S j).r = (S k).r
    ·have HN : Hid (ndB id f n S = false) := ndB_no fun h => (h.2.2 k HLT.out).2 j hjk hr
     rw [hr] at v0
     have hb := ba_beq (S k).r
     clear hr
     go_wp2_with fail
     go_quiet (fail)
     go_wp2
     go_ret
     exact ⟨ret_bool HN.out.symm, below_drewN (below2 KB0.out (below2 KB3.out KBj.out)) _⟩
    ·have HJ2 : Hid (∀ i, i < j + 1 → (S i).r ≠ (S k).r) := fun i hi => by
      by_cases e : i = j
      ·subst e; exact hr
      ·exact HJ.out i (by omega)
     have hb := ba_ne hr
     clear hr
     go_wp2_with fail
     go_quiet (fail)
     go_wp2_with fail
     go_roundw
     case rel => exact ⟨j + 1, by omega, by go_num, HJ2, below_drewN KBj.out _⟩
     case measure => simp [intOf]; omega
   ·obtain rfl : j = k := by omega
    have HP2 : Hid (∀ i, i < j + 1 → SlotP id f (S i) ∧ ∀ l, l < i → (S l).r ≠ (S i).r) := fun i hi => by
     by_cases e : i = j
     ·subst e; exact ⟨HSP.out, HJ.out⟩
     ·exact HP.out i (by omega)
    go_wp2_with fail
    go_roundw
    case rel => exact ⟨j + 1, by have := HLT.out; omega, by go_num, HP2, below2 KB3.out hbj⟩
    case measure => have := HLT.out; simp [intOf]; omega
end Go.Proofs.YtaenoiffamgcfaaGreatDoor
