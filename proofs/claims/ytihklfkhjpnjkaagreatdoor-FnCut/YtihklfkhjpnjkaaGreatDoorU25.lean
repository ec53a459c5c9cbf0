import Derived.Test.YtihklfkhjpnjkaaGreatDoorU20
set_option maxHeartbeats 8000000
set_option maxRecDepth 2000
open Go.ChangeShapes Go.WideShapes Go.ChangeAt Go.RowKit
namespace Go.Proofs.YtihklfkhjpnjkaaGreatDoor
open Go.ChangeShapes Go.WideShapes Go.ChangeAt Go.RowKit Go.Shelf
open Gt (nb hf nm pl pr jn)
theorem round_set {w W2 w9 : World} {b0 B c c1 : Nat} {v : Value} {y z : ByteArray} (hb2 : Below b0 w W2) (hb9 : Below W2.heap.size W2 w9) (r0 : Row W2 b0 31 #[v]) (r1 : Row W2 B 9 #[.string y]) (r2 : Row W2 (B + 1) 3 #[.int .i64 (c : Int)]) (hB : b0 < B) :
  Hid (Row (w9.setCell ⟨B, 0, none⟩ (.string z)) (B + 1) 3 #[.int .i64 (c : Int)] ∧
   W2.heap.size ≤ ((w9.setCell ⟨B, 0, none⟩ (.string z)).setCell ⟨B + 1, 0, none⟩ (.int .i64 (c1 : Int))).heap.size ∧
   (∀ j, B + 2 ≤ j → j < W2.heap.size → ((w9.setCell ⟨B, 0, none⟩ (.string z)).setCell ⟨B + 1, 0, none⟩ (.int .i64 (c1 : Int))).heap[j]? = W2.heap[j]?) ∧
   Below b0 w ((w9.setCell ⟨B, 0, none⟩ (.string z)).setCell ⟨B + 1, 0, none⟩ (.int .i64 (c1 : Int))) ∧
   Row ((w9.setCell ⟨B, 0, none⟩ (.string z)).setCell ⟨B + 1, 0, none⟩ (.int .i64 (c1 : Int))) b0 31 #[v] ∧
   Row ((w9.setCell ⟨B, 0, none⟩ (.string z)).setCell ⟨B + 1, 0, none⟩ (.int .i64 (c1 : Int))) B 9 #[.string z] ∧
   Row ((w9.setCell ⟨B, 0, none⟩ (.string z)).setCell ⟨B + 1, 0, none⟩ (.int .i64 (c1 : Int))) (B + 1) 3 #[.int .i64 (c1 : Int)]) := by
 have s0 := r0.below hb9 r0.lt
 have s1 := r1.below hb9 r1.lt
 have s2 := r2.below hb9 r2.lt
 have t2 := s2.other (k := B) 0 (.string z) (by omega)
 refine ⟨t2, by simpa using hb9.size, fun j h1 h2 => ?_, ?_, (s0.other 0 _ (by omega)).other 0 _ (by omega), (s1.set 0 (.string z)).other 0 _ (by omega), t2.set 0 (.int .i64 (c1 : Int))⟩
 ·rw [Below.heap_setCell _ _ _ _ (by simp; omega), Below.heap_setCell _ _ _ _ (by simp; omega)]
  exact hb9.block j h2
 ·exact ((hb2.trans (hb9.mono (Nat.le_of_lt r0.lt))).setCell (by simp; omega) _).setCell (by simp; omega) _
theorem proofRoot_in (x : ByteArray) (i n : Nat) (a : Option Addr) (k cap : Nat) (S : Nat → ByteArray) (w : World) (h : TxtAt w a k S) (hin : inT (i : Int) (n : Int) = true) (hx : x.size = 16) (hk : k = pl i n) (hS : ∀ j, j < k → (S j).size = 16) :
  Calls Tryz.prog 80 #[.string x, .int .i64 (i : Int), .int .i64 (n : Int), .slice a k cap] w fun e w' => e = .returned (.tuple #[.string (pr x i n S 0), .bool true]) ∧ Below w.heap.size w w' := by
 have hi : i < n ∧ n ≤ 64 := by simp [inT] at hin; omega
 have hk6 : k ≤ 6 := by rw [hk]; exact Gt.pl_le 6 _ _ (by omega)
 have hpl : plI (i : Int) (n : Int) = (k : Int) := by unfold plI; rw [if_pos hin, hk]; simp
 obtain ⟨w1, HW1⟩ : ∃ w1, Hid (w1 = w.alloc (.cells #[.slice a k cap] 31)) := ⟨_, rfl⟩
 have K1 : Hid (Row w1 w.heap.size 31 #[.slice a k cap] ∧ Below w.heap.size w w1) := by rw [HW1.out]; exact ⟨Row.new w _ _, (Below.refl _ _).alloc (Nat.le_refl _) _⟩
 have KP : Hid (∀ w0, Calls Tryz.prog 116 #[.int .i64 (i : Int), .int .i64 (n : Int)] w0 fun e w' => e = .returned (.int .i64 (k : Int)) ∧ Below w0.heap.size w0 w') := fun w0 => by rw [← hpl]; exact proofLen_any _ _ w0
 have KA : Hid (∀ W, Below w.heap.size w W → Calls Tryz.prog 117 #[.slice a k cap] W fun e w' => e = .returned (.bool true) ∧ w' = W) := fun W hb => by
  rw [← aS_yes hS]
  exact areSums_any a k cap S W (h.below hb) (by omega) (fun i hi => by rw [hS i hi]; unfold maxLen; omega)
 have KC : Hid (∀ w0, Calls Tryz.prog 74 #[.string x] w0 fun e w' => e = .returned (.string x) ∧ Below w0.heap.size w0 w') := fun w0 => clone_any x w0 (by omega)
 have KH : Hid (TxtAt w a k S) := h
 have KS : Hid (∀ j, j < k → (S j).size = 16) := hS
 have Kk : Hid (k = pl i n) := hk
 have hc := K1.out.1.cell 0
 have hlt := K1.out.1.lt
 simp at hc
 have h16' : ((x.size : Int) != 16) = false := by simp; omega
 have hkr' : ((k : Int) != (k : Int)) = false := by simp
 have Hx : Hid (x.size = 16) := hx
 clear h hS hk hpl hin hx
 refine (callsIn_wide (n := 2)).1 (callsIn_of_wp_marks Tryz.func80 rfl trivial (wpIn_wide.2 ?_) rfl)
 simp only [Tryz.ntmps80, List.size_toArray, List.length_cons, List.length_nil, Nat.reduceAdd, Nat.reduceSub, Array.replicate_succ, Array.replicate_zero, List.push_toArray, List.append_toArray, List.nil_append, List.cons_append]
 go_wp2_with fail
 rw [← HW1.out]
 go_region_held3 (fun w' => w'.cell? ⟨w.heap.size, 0, none⟩ = some (.slice a k cap)) (go_keep) ((first | (go_at_call 116; refine Calls.mono (KP.out _) ?_; rintro e w5 ⟨rfl, hb5'⟩; have hb5 := below_of_drew hb5'; clear hb5'; have h50 := (hb5.cell (p := ⟨w.heap.size, 0, none⟩) hlt).trans hc) | (guard_hyp hb5; go_at_call 117; refine Calls.mono (KA.out _ (K1.out.2.trans (hb5.mono K1.out.2.size))) ?_; rintro e w6 ⟨rfl, hw6⟩; obtain rfl := hw6.symm)))
 go_wp2_with fail
 refine (KC.out _).mono ?_
 rintro e w7 ⟨rfl, hb7⟩
 have HB : Hid (Below w.heap.size w w7 ∧ w.heap.size < w7.heap.size) := by
  have h1 := K1.out.2.trans (hb5.mono K1.out.2.size)
  have h2 := h1.trans (hb7.mono h1.size)
  refine ⟨h2, ?_⟩
  have := hb5.size
  have := hb7.size
  omega
 have HR : Hid (Row w7 w.heap.size 31 #[.slice a k cap]) := (K1.out.1.below hb5 hlt).below hb7 (Nat.lt_of_lt_of_le hlt hb5.size)
 go_wp2
 obtain ⟨B, hB⟩ : ∃ B, w7.heap.size = B := ⟨_, rfl⟩
 obtain ⟨w8, HW8⟩ : ∃ w8, Hid (w8 = (w7.alloc (.cells #[.string x] 9)).alloc (.cells #[.int .i64 0] 3)) := ⟨_, rfl⟩
 have HN : Hid (Row w8 w.heap.size 31 #[.slice a k cap] ∧ Row w8 B 9 #[.string x] ∧ Row w8 (B + 1) 3 #[.int .i64 ((0 : Nat) : Int)] ∧ Below w.heap.size w w8 ∧ w8.heap.size = B + 2 ∧ w.heap.size < B) := by
  rw [HW8.out, ← hB]
  refine ⟨(HR.out.alloc _).alloc _, (Row.new w7 _ _).alloc _, ?_, (HB.out.1.alloc HB.out.1.size _).alloc (by have := HB.out.1.size; simp; omega) _, by simp, HB.out.2⟩
  have := Row.new (w7.alloc (.cells #[.string x] 9)) #[.int .i64 ((0 : Nat) : Int)] 3
  rw [show (w7.alloc (.cells #[.string x] 9)).heap.size = w7.heap.size + 1 by simp] at this
  exact this
 rw [← HW8.out, hB]
 clear hB HB HR hb5 hb7 h50 hc hlt h16' hkr'
 refine (wpIn_wide (n := 2)).1 ?_
 refine wpIn_rangeM (recv := SpV (i : Int) (n : Int)) (gf := 118) (by rfl) (enters_of Tryz.func118 (by kernel_rfl) rfl) (joins_iter i n hi.1 hi.2) (fun _ => rfl)
  (fun s W => Below w.heap.size w W ∧ Row W w.heap.size 31 #[.slice a k cap] ∧ ∃ (y : ByteArray) (c : Nat), Row W B 9 #[.string y] ∧ Row W (B + 1) 3 #[.int .i64 (c : Int)] ∧ y.size = 16 ∧ c + pl s.1 s.2 = k ∧ pr y s.1 s.2 S c = pr x i n S 0) ?abide ?start ?round ?done
 case abide =>
  rintro s A A' j h1 h2 ⟨hb, hr0, y, c, hr1, hr2, hy, hc, hp⟩ hg
  have hn := HN.out.2.2.2.2
  exact ⟨below_grown hb hg hb.size (by omega), hr0.grown hg (by omega), y, c, hr1.grown hg (by omega), hr2.grown hg (by omega), hy, hc, hp⟩
 case start =>
  obtain ⟨h1, h2, h3, h4, _, _⟩ := HN.out
  exact ⟨h4, h1, x, 0, h2, h3, Hx.out, by rw [Gt.pl_nm, Nat.zero_add]; exact Kk.out.symm, by rw [Gt.pr_nm]⟩
 case round =>
  rintro l s W hok ⟨hb, hr0, y, c, hr1, hr2, hy, hc, hp⟩ hlt
  have hsem := Oper.semAt_some
  have hfn := wideFn
  have hdp := wideDepth
  gi_wp2
  refine ⟨World.grownBy.refl _ _, ?_⟩
  intro W2 hg2 hs2
  have hn := HN.out.2.2.2.2
  have r0 := hr0.grown hg2 (by omega)
  have r1 := hr1.grown hg2 (by omega)
  have r2 := hr2.grown hg2 (by omega)
  have hb2 := below_grown hb hg2 hb.size (by omega)
  have c0 := r0.cell 0
  have c1 := r1.cell 0
  have c2 := r2.cell 0
  simp at c0 c1 c2
  have hmx := Tryz.mixed
  have hck : c < k := by
   have h1 := hok.1
   rw [Gt.pl_yes s.1 (by omega) hok.2.1] at hc
   omega
  have hC : Hid (c + 1 + pl (jNx s).1 (jNx s).2 = k) := by
   have h1 := hok.1
   rw [Gt.pl_yes s.1 (by omega) hok.2.1] at hc
   show _ = _
   rw [Gt.pl_nm]
   omega
  have hcki : (c : Int) < (k : Int) := by omega
  obtain ⟨c1, hc1⟩ : ∃ c1, c + 1 = c1 := ⟨_, rfl⟩
  have hw1 : IntKind.i64.wrap ((c : Int) + 1) = (c1 : Int) := by rw [IntKind.wrap_i64]; omega
  rw [hc1] at hC
  have hs1 := hok.1
  have h16 := KS.out c hck
  obtain ⟨b', off, rfl, hcc⟩ := (KH.out.below hb2) c hck
  have hS2 : Hid (w8.heap.size + 2 < W2.heap.size) := by rw [hs2]; exact hlt
  clear hr0 hr1 hr2 hg2 hs2 hb hc
  by_cases hev : s.1 % 2 = 0
  ·have hlq : ((s.1 : Nat) : Int) < ((nb s.1 : Nat) : Int) := by unfold nb; rw [if_pos hev]; omega
   have HJ : Hid (∀ w0, Calls Tryz.prog 119 #[.string y, .string (S c)] w0 fun e w' => e = .returned (.string (jn y (S c))) ∧ Below w0.heap.size w0 w') := fun w0 => join_any _ _ w0 (by omega) (by omega)
   have HP : Hid (pr (jn y (S c)) (jNx s).1 (jNx s).2 S c1 = pr x i n S 0) := by
    show _ = _
    rw [Gt.pr_nm, ← hp, ← hc1, Gt.pr_yes y s.1 S c (by omega) hok.2.1, if_pos hev]
   have HZ : Hid ((jn y (S c)).size = 16) := Gt.jn_size _ _
   generalize jn y (S c) = z at HJ HP HZ
   generalize S c = sc at HJ hcc
   generalize nb s.1 = q at hlq
   generalize s.1 = p at hlq
   clear hp hev hc1
   gi_wp2_with fail
   gi_region_with_o (gi_at_call 119; refine (CallsIn.inRound l (callsIn_wide.2 (HJ.out _))).mono ?_; rintro e w9 ⟨rfl, hb9'⟩; have hb9 := below_of_drew hb9'; clear hb9'; have g1 := (r1.below hb9 r1.lt).cell 0; have f1 := (r1.below hb9 r1.lt).free 0; simp at g1; have HW := round_set (z := z) (c1 := c1) hb2 hb9 r0 r1 r2 hn.2; have g2 := HW.out.1.cell 0; have f2 := HW.out.1.free 0; simp at g2)
   all_goals gi_wp2
   all_goals exact ⟨HW.out.2.1, fun j h1 h2 => HW.out.2.2.1 j (by omega) (by have := hS2.out; omega), HW.out.2.2.2.1, HW.out.2.2.2.2.1, z, c1, HW.out.2.2.2.2.2.1, HW.out.2.2.2.2.2.2, HZ.out, hC.out, HP.out⟩
  ·have hlq : ¬ ((s.1 : Nat) : Int) < ((nb s.1 : Nat) : Int) := by unfold nb; rw [if_neg hev]; omega
   have HJ : Hid (∀ w0, Calls Tryz.prog 119 #[.string (S c), .string y] w0 fun e w' => e = .returned (.string (jn (S c) y)) ∧ Below w0.heap.size w0 w') := fun w0 => join_any _ _ w0 (by omega) (by omega)
   have HP : Hid (pr (jn (S c) y) (jNx s).1 (jNx s).2 S c1 = pr x i n S 0) := by
    show _ = _
    rw [Gt.pr_nm, ← hp, ← hc1, Gt.pr_yes y s.1 S c (by omega) hok.2.1, if_neg hev]
   have HZ : Hid ((jn (S c) y).size = 16) := Gt.jn_size _ _
   generalize jn (S c) y = z at HJ HP HZ
   generalize S c = sc at HJ hcc
   generalize nb s.1 = q at hlq
   generalize s.1 = p at hlq
   clear hp hev hc1
   gi_wp2_with fail
   gi_region_with_o (gi_at_call 119; refine (CallsIn.inRound l (callsIn_wide.2 (HJ.out _))).mono ?_; rintro e w9 ⟨rfl, hb9'⟩; have hb9 := below_of_drew hb9'; clear hb9'; have g1 := (r1.below hb9 r1.lt).cell 0; have f1 := (r1.below hb9 r1.lt).free 0; simp at g1; have HW := round_set (z := z) (c1 := c1) hb2 hb9 r0 r1 r2 hn.2; have g2 := HW.out.1.cell 0; have f2 := HW.out.1.free 0; simp at g2)
   all_goals gi_wp2
   all_goals exact ⟨HW.out.2.1, fun j h1 h2 => HW.out.2.2.1 j (by omega) (by have := hS2.out; omega), HW.out.2.2.2.1, HW.out.2.2.2.2.1, z, c1, HW.out.2.2.2.2.2.1, HW.out.2.2.2.2.2.2, HZ.out, hC.out, HP.out⟩
 case done =>
  rintro s W hf ⟨hb, hr0, y, c, hr1, hr2, hy, hc, hp⟩ hK
  have e0 := hr1.cell 0
  simp at e0
  have hyy : Hid (y = pr x i n S 0) := by rw [Gt.pr_one _ _ _ _ hf] at hp; exact hp
  go_wp2
  refine ⟨by simp, .inl ⟨_, _, rfl, run_takeDeferred hK, ?_⟩⟩
  exact ⟨_, results_tmp2 rfl _ _ _, by rw [← hyy.out]; rfl, below_grown hb (grownBy_put _ _ _) hb.size (by have := HN.out; omega)⟩
end Go.Proofs.YtihklfkhjpnjkaaGreatDoor
namespace Go.Proofs.YtihklfkhjpnjkaaGreatDoor
open Gt (nb hf nm pl pr jn)
theorem prB_parts {x : ByteArray} {i n : Int} {k : Nat} {S : Nat → ByteArray} (h : prB x i n k S = true) : x.size = 16 ∧ (k : Int) = plI i n ∧ ∀ j, j < k → (S j).size = 16 := by
 unfold prB at h
 simp only [Bool.and_eq_true, decide_eq_true_eq, aS_iff] at h
 exact ⟨h.1.1, h.1.2, h.2⟩
theorem plI_in {i n : Int} (h : 0 ≤ plI i n) : inT i n = true := by
 unfold plI at h
 by_cases e : inT i n = true
 ·exact e
 ·rw [if_neg e] at h; omega
theorem proofRoot_any (x : ByteArray) (i n : Int) (a : Option Addr) (k cap : Nat) (S : Nat → ByteArray) (w : World) (h : TxtAt w a k S) (hk : k ≤ 1048576) (hL : ∀ i, i < k → (S i).size ≤ maxLen) :
  Calls Tryz.prog 80 #[.string x, .int .i64 i, .int .i64 n, .slice a k cap] w fun e w' => e = .returned (.tuple #[.string (prS x i n k S), .bool (prB x i n k S)]) ∧ Below w.heap.size w w' := by
 unfold prS
 cases hB : prB x i n k S with
 | false => exact proofRoot_no x i n a k cap S w h hk hL hB
 | true =>
  obtain ⟨h1, h2, h3⟩ := prB_parts hB
  have hin := plI_in (i := i) (n := n) (by omega)
  obtain ⟨i', rfl⟩ : ∃ i' : Nat, i = (i' : Int) := ⟨i.toNat, by simp [inT] at hin; omega⟩
  obtain ⟨n', rfl⟩ : ∃ n' : Nat, n = (n' : Int) := ⟨n.toNat, by simp [inT] at hin; omega⟩
  exact proofRoot_in x i' n' a k cap S w h hin h1 (by unfold plI at h2; rw [if_pos hin] at h2; simp at h2; omega) h3
end Go.Proofs.YtihklfkhjpnjkaaGreatDoor
namespace Go.Proofs.YtihklfkhjpnjkaaGreatDoor
def pvB (r x : ByteArray) (i n : Int) (k : Nat) (S : Nat → ByteArray) : Bool := prB x i n k S && decide (prS x i n k S = r)
theorem proved_any (r x : ByteArray) (i n : Int) (a : Option Addr) (k cap : Nat) (S : Nat → ByteArray) (w : World) (h : TxtAt w a k S) (hk : k ≤ 1048576) (hL : ∀ i, i < k → (S i).size ≤ maxLen) :
  Calls Tryz.prog 36 #[.string r, .string x, .int .i64 i, .int .i64 n, .slice a k cap] w fun e w' => e = .returned (.bool (pvB r x i n k S)) ∧ Below w.heap.size w w' := by
 have KP : Hid (Calls Tryz.prog 80 #[.string x, .int .i64 i, .int .i64 n, .slice a k cap] w fun e w' => e = .returned (.tuple #[.string (prS x i n k S), .bool (prB x i n k S)]) ∧ Below w.heap.size w w') := proofRoot_any x i n a k cap S w h hk hL
 unfold pvB
 clear h hL
 generalize prS x i n k S = z at KP
 generalize prB x i n k S = d at KP
 cases d with
 | false =>
  go_enter Tryz.func36, Tryz.ntmps36
  go_wp2_with fail
  refine KP.out.mono ?_
  rintro e w1 ⟨rfl, hb⟩
  go_wp2
  go_ret
  exact ⟨rfl, hb⟩
 | true =>
  by_cases hz : z = r
  ·subst hz
   have hq := ba_beq z
   go_enter Tryz.func36, Tryz.ntmps36
   go_wp2_with fail
   refine KP.out.mono ?_
   rintro e w1 ⟨rfl, hb⟩
   go_wp2
   go_ret
   exact ⟨by simp, hb⟩
  ·have hq := ba_ne hz
   have HZ : Hid (decide (z = r) = false) := by show _ = _; simpa using hz
   clear hz
   go_enter Tryz.func36, Tryz.ntmps36
   go_wp2_with fail
   refine KP.out.mono ?_
   rintro e w1 ⟨rfl, hb⟩
   go_wp2
   go_ret
   exact ⟨by rw [HZ.out]; rfl, hb⟩
end Go.Proofs.YtihklfkhjpnjkaaGreatDoor
