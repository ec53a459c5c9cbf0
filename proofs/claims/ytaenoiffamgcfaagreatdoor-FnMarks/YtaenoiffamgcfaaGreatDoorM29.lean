import Derived.Test.YtaenoiffamgcfaaGreatDoorM8
import Derived.Test.YtaenoiffamgcfaaGreatDoorM24
import Derived.Test.YtaenoiffamgcfaaGreatDoorM21
import Derived.Test.YtaenoiffamgcfaaGreatDoorM25
import Derived.Test.YtaenoiffamgcfaaGreatDoorM23
import Derived.Test.YtaenoiffamgcfaaGreatDoorM26
import Derived.Deep.CutRange
set_option maxHeartbeats 8000000
set_option maxRecDepth 2000
open Go.ChangeShapes Go.WideShapes Go.ChangeAt Go.RowKit
namespace Go.Proofs.YtaenoiffamgcfaaGreatDoor
def syA (k id : Int) (r : ByteArray) (i : Nat) : Sy := ⟨k, id, (i : Int), r, ⟨ByteArray.empty, 0, 0, 0, ByteArray.empty, 0, fun _ => ByteArray.empty⟩⟩
def syM (Y : Nat → Sy) (m : Nat) (k id : Int) (r : ByteArray) (i : Nat) : Sy := if i < m then Y i else syA k id r (i - m)
theorem ow_syA {W : World} {B : Nat} {k id : Int} {r : ByteArray} {i : Nat} (q : Nat) (hq : q < 10) : Ow W B (syD (syA k id r i) q) ([Value.int .i64 k, .int .i64 id, .int .i64 (i : Int), .string r, .string ⟨#[]⟩, .int .i64 0, .int .i64 0, .int .i64 0, .string ⟨#[]⟩, .slice none 0 0].getD q undef) (fun _ => False) := by
 match q, hq with
 | 0, _ | 1, _ | 2, _ | 3, _ | 4, _ | 5, _ | 6, _ | 7, _ | 8, _ => rfl
 | 9, _ => exact Ow.nil _ _ _ _ _ _
def slEc (S : Nat → Sl) (p : Nat) (zs : List Int) (i : Nat) : Sl := if i = p then { S p with ze := zs } else S i
def slRd (S : Nat → Sl) (p : Nat) (zs : List Int) (i : Nat) : Sl := if i = p then { S p with zr := zs } else S i
theorem sToAll_any (k id f : Int) (v : Value) (r : ByteArray) (n3 : Nat) (w : World) (hf : 1 ≤ f ∧ f ≤ 3) (hn3 : (n3 : Int) = 3 * f + 1) :
  Calls Tryz.prog 82 #[ndV id f v, .int .i64 k, .string r] w fun e w' => ∃ g c, e = .returned (.slice (some ⟨g, 0, none⟩) n3 c) ∧ Ow w' w.heap.size (sysD n3 (syA k id r)) (.slice (some ⟨g, 0, none⟩) n3 c) (rng w.heap.size w'.heap.size) ∧ Below w.heap.size w w' := by
 obtain ⟨i0, hi, hz0, hz1, hz2⟩ := info_parts Tryz.infoSyZ
 obtain ⟨A, HA⟩ : ∃ x, Hid (x = w.heap.size) := ⟨_, rfl⟩
 obtain ⟨w0, HW0⟩ : ∃ x, Hid (x = w.alloc (.cells #[.int .i64 id, .int .i64 f, v] 37)) := ⟨_, rfl⟩
 have RA : Hid (Row w0 A 37 #[.int .i64 id, .int .i64 f, v]) := by show Row _ _ _ _; rw [HW0.out, HA.out]; exact Row.new w _ _
 have hb0 : Below w.heap.size w w0 := by rw [HW0.out]; exact (Below.refl _ _).alloc (Nat.le_refl _) _
 have KB0 : Hid (Below w.heap.size w w0) := hb0
 have KA : Hid (∀ W, Calls Tryz.prog 49 #[.int .i64 f] W fun e w' => e = .returned (.int .i64 (n3 : Int)) ∧ w' = W) := fun W => by rw [hn3]; exact sAllN_any f W hf
 have HM : Hid (n3 ≤ 10) := by show n3 ≤ 10; omega
 obtain ⟨w1, HW1⟩ : ∃ x, Hid (x = w0.alloc (.cells #[] 87)) := ⟨_, rfl⟩
 have hg1 : A + 1 = w0.heap.size := by rw [HW0.out, HA.out]; simp
 obtain ⟨g1, HG1⟩ : ∃ x, Hid (x = A + 1) := ⟨_, rfl⟩
 have K1 : Hid (Ow w1 w0.heap.size (sysD 0 (syA k id r)) (.slice (some ⟨g1, 0, none⟩) 0 0) (rng w0.heap.size w1.heap.size) ∧ Below w0.heap.size w0 w1) := by
  rw [HG1.out, hg1, HW1.out]
  refine ⟨⟨_, 0, fun _ _ => undef, fun _ _ _ => False, rfl, ?_, ⟨fun x e => ?_, fun _ _ _ hi => absurd hi (Nat.not_lt_zero _), fun _ _ _ hi => absurd hi (Nat.not_lt_zero _), fun _ _ _ _ _ hi => absurd hi (Nat.not_lt_zero _)⟩, fun _ _ hi => absurd hi (Nat.not_lt_zero _)⟩, (Below.refl _ _).alloc (Nat.le_refl _) _⟩
  ·have := World.ownsRow_lit (e := 87) (size := 10) (base := w0.heap.size) w0 #[] 0 (by simp) (by unfold maxLen; omega) (by simp)
   simpa [cL] using this
  ·cases e
   exact ⟨Nat.le_refl _, by simp⟩
 clear hb0 hf hn3 hg1
 go_enter Tryz.func82, Tryz.ntmps82
 go_wp2_with fail
 rw [← HW0.out, ← HA.out, ← HW1.out, ← HG1.out]
 go_loopw [7, 8] (fun vv vi wr => ∃ c g cc : Nat, c ≤ n3 ∧ vv = .slice (some ⟨g, 0, none⟩) c cc ∧ vi = .int .i64 (c : Int) ∧ Hid (Ow wr w0.heap.size (sysD c (syA k id r)) (.slice (some ⟨g, 0, none⟩) c cc) (rng w0.heap.size wr.heap.size) ∧ Below w0.heap.size w0 wr)) (fun _ vi _ => n3 - (intOf vi).toNat)
 case atStart => exact ⟨0, g1, 0, Nat.zero_le _, rfl, rfl, K1⟩
 case round =>
  obtain ⟨c, g, cc, hc, rfl, rfl, HO⟩ := hrel
  clear K1 HW1 HG1
  have RAr := RA.out.below HO.out.2 RA.out.lt
  have x0 := RAr.cell 0
  have x1 := RAr.cell 1
  simp at x0 x1
  clear RAr
  by_cases hlt : c < n3
  ·have hci : (c : Int) < (n3 : Int) := by omega
   have HLT : Hid (c < n3) := hlt
   obtain ⟨w5, HW5⟩ : ∃ x, Hid (x = wr.alloc (.cells #[.int .i64 k, .int .i64 id, .int .i64 (c : Int), .string r, .string ⟨#[]⟩, .int .i64 0, .int .i64 0, .int .i64 0, .string ⟨#[]⟩, .slice none 0 0] 87)) := ⟨_, rfl⟩
   have b5 : Below wr.heap.size wr w5 := by rw [HW5.out]; exact (Below.refl _ _).alloc (Nat.le_refl _) _
   go_wp2_with (first | (go_at_call 49; refine Calls.mono (KA.out _) ?_; rintro e w' ⟨rfl, hw⟩; obtain rfl := hw.symm; clear hw) | (at_builtin; rw [← HW5.out]; refine (show True → _ from ?_) trivial))
   intro _
   refine wpList_snoc w5 (by rfl) _ _ 83 (by rfl) w0.heap.size 87 i0 (.agg zcY.toArray) 10 120 Tryz.underlying83 hi hz0 hz1 hz2 rfl (by decide) (.slice (some ⟨g, 0, none⟩) c cc) c _ _ (by rfl) (HO.out.1.below b5) ⟨wr.heap.size, 0, none⟩ 1 [.int .i64 k, .int .i64 id, .int .i64 (c : Int), .string r, .string ⟨#[]⟩, .int .i64 0, .int .i64 0, .int .i64 0, .string ⟨#[]⟩, .slice none 0 0] (by rfl) rfl ?_ (by simp [Value.oneCell']) (syD (syA k id r c)) (fun _ _ => False) (fun q hq => ow_syA q hq) (fun _ _ _ h => h.elim) (fun _ _ _ _ _ h => h.elim) (by have := HM.out; unfold maxLen; omega) (by have := HM.out; omega) ?_ ?_
   ·rw [HW5.out]
    exact World.news_of_block (t := 87) (fr := (0, 0)) (Row.new wr _ _)
   ·exact Nat.le_trans HO.out.2.size b5.size
   intro g' c' w6 O6 b6 _
   have K6 : Hid (Ow w6 w0.heap.size (sysD (c + 1) (syA k id r)) (.slice (some ⟨g', 0, none⟩) (c + 1) c') (rng w0.heap.size w6.heap.size) ∧ Below w0.heap.size w0 w6) := by
    have h5 := HO.out.2.size
    have h6 := b5.size
    refine ⟨(O6.mono (fun x hx => ?_)).congr (fun i q _ _ => ?_), (below2 HO.out.2 b5).trans b6⟩
    ·refine ⟨?_, hx.1⟩
     rcases hx.2 with (h | ⟨_, _, h⟩) | h
     ·exact h.1
     ·exact h.elim
     ·show w0.heap.size ≤ x
      omega
    ·by_cases e : i = c
     ·subst e; simp
     ·simp [e]
   clear O6 b6 b5 x0 x1 HO HW5
   have h1 := HLT.out
   have h2 := HM.out
   go_wp2
   go_roundw
   case rel => exact ⟨c + 1, g', c', by omega, by go_num, by go_num, K6⟩
   case measure => simp [intOf]; omega
  ·obtain rfl : n3 = c := by omega
   have ZZ : Hid (Ow wr w.heap.size (sysD n3 (syA k id r)) (.slice (some ⟨g, 0, none⟩) n3 cc) (rng w.heap.size wr.heap.size) ∧ Below w.heap.size w wr) := by
    have h0 := KB0.out.size
    exact ⟨(HO.out.1.base h0).mono (fun x hx => ⟨Nat.le_trans h0 hx.1, hx.2⟩), below2 KB0.out HO.out.2⟩
   clear HO
   go_wp2_with (go_at_call 49; refine Calls.mono (KA.out _) ?_; rintro e w' ⟨rfl, hw⟩; obtain rfl := hw.symm; clear hw)
   go_ret
   exact ⟨g, cc, rfl, ZZ.out.1, ZZ.out.2⟩
def slDn (S : Nat → Sl) (p : Nat) (b : Bool) (i : Nat) : Sl := if i = p then { S p with o := b } else S i
def slRy (S : Nat → Sl) (p : Nat) (i : Nat) : Sl := if i = p then { S p with d := true } else S i
def slGot (S : Nat → Sl) (p : Nat) (x : Pc) (i : Nat) : Sl := if i = p then { S p with p := x, h := true, e := true } else S i
end Go.Proofs.YtaenoiffamgcfaaGreatDoor
