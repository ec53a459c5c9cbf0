import Derived.Test.YtihklfkhjpnjkaaGreatDoorU23
import Derived.Test.YtihklfkhjpnjkaaGreatDoorU24
import Derived.Test.YtihklfkhjpnjkaaGreatDoorU10
import Derived.Test.YtihklfkhjpnjkaaGreatDoorU18
set_option maxHeartbeats 8000000
set_option maxRecDepth 2000
open Go.ChangeShapes Go.WideShapes Go.ChangeAt Go.RowKit
namespace Go.Proofs.YtihklfkhjpnjkaaGreatDoor
open Go.ChangeShapes Go.WideShapes Go.ChangeAt Go.RowKit Go.Shelf
open Gt (hf up rt)
def rtS (n : Nat) (S : Nat → ByteArray) : ByteArray := if lvB n S = true then rt n S else ⟨#[]⟩
theorem lvB_parts {n : Nat} {S : Nat → ByteArray} (h : lvB n S = true) : 1 ≤ n ∧ n ≤ 64 ∧ ∀ i, i < n → (S i).size = 16 := by
 unfold lvB at h
 rw [Bool.and_eq_true] at h
 have h2 := h.2
 unfold inB at h2
 simp at h2
 exact ⟨by omega, by omega, aS_iff.1 h.1⟩
theorem padT_at {n i : Nat} (S : Nat → ByteArray) (h : i < n) : padT n S i = S i := if_pos h
theorem root_no (a : Option Addr) (n cap : Nat) (S : Nat → ByteArray) (w : World) (h : TxtAt w a n S) (hn : n ≤ 1048576) (hL : ∀ i, i < n → (S i).size ≤ maxLen) (hno : lvB n S = false) :
  Calls Tryz.prog 72 #[.slice a n cap] w fun e w' => e = .returned (.tuple #[.string ⟨#[]⟩, .bool false]) ∧ Below w.heap.size w w' := by
 have KL : Hid (Calls Tryz.prog 104 #[.slice a n cap] w fun e w' => e = .returned (.tuple #[RwV noT 0, .bool false]) ∧ Below w.heap.size w w') := leafRow_no a n cap S w h hn hL hno
 clear h hL hno
 go_enter Tryz.func72, Tryz.ntmps72
 go_wp2_with fail
 refine KL.out.mono ?_
 rintro e w1 ⟨rfl, hb1⟩
 have HB : Hid (Below w.heap.size w (w1.alloc (.cells (rowC noT 0) 119))) := hb1.alloc hb1.size _
 have HF : Hid ((w1.alloc (.cells (rowC noT 0) 119)).setRow w1.heap.size (rowC noT 0) = w1.alloc (.cells (rowC noT 0) 119)) := setRow_alloc _ _ _ _
 go_wp2_with (first | (refine p_alloc (by rfl) (by rfl) ?_) | (refine p_store (by rfl) _ _ (by rfl) w1.heap.size (by rfl) noT 0 (by rfl) noT 0 (Row.new w1 _ _) ?_; rw [HF.out]))
 go_ret2
 exact ⟨rfl, HB.out⟩
theorem root_yes (a : Option Addr) (n cap : Nat) (S : Nat → ByteArray) (w : World) (h : TxtAt w a n S) (hyes : lvB n S = true) :
  Calls Tryz.prog 72 #[.slice a n cap] w fun e w' => e = .returned (.tuple #[.string (rt n S), .bool true]) ∧ Below w.heap.size w w' := by
 have KL : Hid (Calls Tryz.prog 104 #[.slice a n cap] w fun e w' => e = .returned (.tuple #[RwV (padT n S) n, .bool true]) ∧ Below w.heap.size w w') := leafRow_yes a n cap S w h hyes
 obtain ⟨h1, h64, h16⟩ := lvB_parts hyes
 obtain ⟨R, HR⟩ : ∃ R, Hid (rt n S = R) := ⟨_, rfl⟩
 have HT : Hid (rt n (padT n S) = R) := by show _ = _; rw [← HR.out]; exact Gt.rt_congr (by omega) (fun i hi => padT_at S hi)
 have H16 : Hid (∀ i, i < n → (padT n S i).size = 16) := fun i hi => by rw [padT_at S hi]; exact h16 i hi
 have HRs : Hid (R.size = 16) := by show _ = _; rw [← HR.out]; exact Gt.rt_size (by omega) h16
 rw [HR.out]
 clear h hyes h16 HR
 generalize padT n S = T at *
 refine (callsIn_wide (n := 2)).1 (callsIn_of_wp_marks Tryz.func72 rfl trivial (wpIn_wide.2 ?_) rfl)
 simp only [Tryz.ntmps72, List.size_toArray, List.length_cons, List.length_nil, Nat.reduceAdd, Nat.reduceSub, Array.replicate_succ, Array.replicate_zero, List.push_toArray, List.append_toArray, List.nil_append, List.cons_append]
 go_wp2_with fail
 refine KL.out.mono ?_
 rintro e w1 ⟨rfl, hb1⟩
 obtain ⟨w2, HW2⟩ : ∃ w2, Hid (w2 = w1.alloc (.cells (rowC T n) 119)) := ⟨_, rfl⟩
 have HF : Hid ((w1.alloc (.cells (rowC noT 0) 119)).setRow w1.heap.size (rowC T n) = w2) := by rw [HW2.out]; exact setRow_alloc _ _ _ _
 obtain ⟨B, hB⟩ : ∃ B, w1.heap.size = B := ⟨_, rfl⟩
 have K2 : Hid (Row w2 B 119 (rowC T n) ∧ Below w.heap.size w w2 ∧ w2.heap.size = B + 1 ∧ w.heap.size ≤ B) := by
  rw [HW2.out, ← hB]
  exact ⟨Row.new w1 _ _, hb1.alloc hb1.size _, by simp, hb1.size⟩
 have K3 : Hid (Row (w2.alloc (.cells #[.string ⟨#[]⟩] 9)) B 119 (rowC T n)) := K2.out.1.alloc _
 have hz2 := K2.out.2.2.1
 go_wp2_with (first | (refine p_alloc (by rfl) (by rfl) ?_) | (refine p_store (by rfl) _ _ (by rfl) w1.heap.size (by rfl) T n (by rfl) noT 0 (Row.new w1 _ _) ?_; rw [HF.out]) | (refine p_load (by rfl) _ (by rfl) B (by rfl) T n K3.out ?_))
 obtain ⟨w8, HW8⟩ : ∃ w8, Hid (w8 = w2.alloc (.cells #[.string ⟨#[]⟩] 9)) := ⟨_, rfl⟩
 have HN : Hid (Row w8 (B + 1) 9 #[.string ⟨#[]⟩] ∧ Below w.heap.size w w8 ∧ w8.heap.size = B + 2 ∧ w.heap.size ≤ B) := by
  rw [HW8.out]
  obtain ⟨a1, a2, a3, a4⟩ := K2.out
  refine ⟨?_, a2.alloc (by omega) _, by simp; omega, a4⟩
  have := Row.new w2 #[.string ⟨#[]⟩] 9
  rw [a3] at this
  exact this
 rw [← HW8.out]
 clear hB hz2 hb1
 refine (wpIn_wide (n := 2)).1 ?_
 refine wpIn_rangeM (recv := RwV T n) (gf := 105) (by rfl) (enters_of Tryz.func105 (by kernel_rfl) rfl) (rows_iter T n h1 h64 H16.out) (fun _ => rfl)
  (fun s W => Below w.heap.size w W ∧ ∃ r : ByteArray, Row W (B + 1) 9 #[.string r] ∧ (s.1 = false → rt s.2.1 s.2.2 = R) ∧ (s.1 = true → r = R)) ?abide ?start ?round ?done
 case abide =>
  rintro s A A' j h1 h2 ⟨hb, r, hr, hp, hq⟩ hg
  have hn := HN.out.2.2
  exact ⟨below_grown hb hg hb.size (by omega), r, hr.grown hg (by omega), hp, hq⟩
 case start => exact ⟨HN.out.2.1, _, HN.out.1, fun _ => HT.out, fun e => by cases e⟩
 case round =>
  rintro l ⟨d, m, T'⟩ W hok ⟨hb, r, hr, hp, hq⟩ hlt
  have hn := HN.out.2.2
  have hd : d = false := hok.1
  have hp2 := hp hd
  have HX : Hid (R = rt m T') := hp2.symm
  have HO : Hid (rOk (d, m, T')) := hok
  clear hp hq hp2 hok
  have hsem := Oper.semAt_some
  have HF2 : Hid ((W.alloc (.cells (rowC noT 0) 119)).setRow W.heap.size (rowC T' m) = W.alloc (.cells (rowC T' m) 119)) := setRow_alloc _ _ _ _
  go_simp
  gi_wp2_with (first | (refine i_alloc (by rfl) (by rfl) ?_) | (refine i_store (by rfl) _ _ (by rfl) W.heap.size (by rfl) T' m (by rfl) noT 0 (Row.new W _ _) ?_; rw [HF2.out]))
  refine ⟨World.grownBy_alloc _ _ _, ?_⟩
  intro W2 hg2 hs2
  have r1 := (hr.alloc (.cells (rowC T' m) 119)).grown hg2 (by omega)
  have rX := (Row.new W (rowC T' m) 119).grown hg2 (by omega)
  have hb2 := below_grown (hb.alloc hb.size (.cells (rowC T' m) 119)) hg2 (by simp; have := hb.size; omega) (by omega)
  have c1 := r1.cell 0
  have f1 := r1.free 0
  have cX : W2.cell? ⟨W.heap.size, 0, none⟩ = some (.string (T' 0)) := by rw [rX.cell 0, rowC_get _ _ _ (by omega)]
  simp at c1
  have HR1 : Hid (Row (W2.setCell ⟨B + 1, 0, none⟩ (.string (T' 0))) (B + 1) 9 #[.string (T' 0)]) := r1.set 0 (.string (T' 0))
  have HB1 : Hid (Below w.heap.size w (W2.setCell ⟨B + 1, 0, none⟩ (.string (T' 0)))) := hb2.setCell (by simp; omega) _
  have HE : Hid (((rNx (d, m, T')).1 = false → rt (rNx (d, m, T')).2.1 (rNx (d, m, T')).2.2 = R) ∧ ((rNx (d, m, T')).1 = true → T' 0 = R)) := by
   show _ ∧ _
   unfold rNx
   by_cases e : m ≤ 1
   ·rw [if_pos e]
    refine ⟨fun x => (by cases x), fun _ => ?_⟩
    rw [HX.out, Gt.rt_one _ e]
   ·rw [if_neg e]
    refine ⟨fun _ => ?_, fun x => (by cases x)⟩
    rw [HX.out, Gt.rt_more _ e]
  generalize T' 0 = t0 at cX HR1 HB1 HE
  clear hd HX HO hg2 hs2 hr
  gi_wp2
  exact ⟨by simp, fun j h1 h2 => Below.heap_setCell _ _ _ _ (by simp; omega), HB1.out, t0, HR1.out, HE.out⟩
 case done =>
  rintro s W hf ⟨hb, r, hr, hp, hq⟩ hK
  obtain rfl : r = R := hq hf
  have e0 := hr.cell 0
  simp at e0
  have KC : Hid (∀ w0, Calls Tryz.prog 74 #[.string r] w0 fun e w' => e = .returned (.string r) ∧ Below w0.heap.size w0 w') := fun w0 => clone_any r w0 (by have := HRs.out; omega)
  go_wp2_with fail
  refine (KC.out _).mono ?_
  rintro e w9 ⟨rfl, hb9⟩
  have hK9 : w9.heap[w8.heap.size]? = some (.deferred (some [])) := (hb9.block _ (Array.getElem?_eq_some_iff.1 hK).1).trans hK
  have HB9 : Hid (Below w.heap.size w w9) := hb.trans (hb9.mono hb.size)
  go_wp2
  refine ⟨by simp, .inl ⟨_, _, rfl, run_takeDeferred hK9, ?_⟩⟩
  exact ⟨_, results_tmp2 rfl _ _ _, rfl, below_grown HB9.out (grownBy_put _ _ _) HB9.out.size (by have := HN.out.2.2; omega)⟩
theorem root_any (a : Option Addr) (n cap : Nat) (S : Nat → ByteArray) (w : World) (h : TxtAt w a n S) (hn : n ≤ 1048576) (hL : ∀ i, i < n → (S i).size ≤ maxLen) :
  Calls Tryz.prog 72 #[.slice a n cap] w fun e w' => e = .returned (.tuple #[.string (rtS n S), .bool (lvB n S)]) ∧ Below w.heap.size w w' := by
 unfold rtS
 cases hB : lvB n S with
 | false => exact root_no a n cap S w h hn hL hB
 | true => exact root_yes a n cap S w h hB
end Go.Proofs.YtihklfkhjpnjkaaGreatDoor
namespace Go.Proofs.YtihklfkhjpnjkaaGreatDoor
open Go.ChangeShapes Go.WideShapes Go.ChangeAt Go.RowKit Go.Shelf
open Gt (hf up nb pl)
def pfB (n : Nat) (S : Nat → ByteArray) (i : Int) : Bool := lvB n S && inT i (n : Int)
def pfR (n : Nat) (S : Nat → ByteArray) (i : Int) : Nat := if pfB n S i = true then pl i.toNat n else 0
def pfF (n : Nat) (S : Nat → ByteArray) (i : Int) : Nat → ByteArray := Gt.pf n S i.toNat
structure Kp (X : Nat → Prop) (W W' : World) : Prop where
 os : W'.os = W.os
 tape : W'.tape = W.tape
 output : W'.output = W.output
 size : W.heap.size ≤ W'.heap.size
 block : ∀ j, j < W.heap.size → ¬ X j → W'.heap[j]? = W.heap[j]?
theorem Kp.trans {X : Nat → Prop} {A B C : World} (h : Kp X A B) (k : Kp X B C) : Kp X A C :=
 ⟨k.os.trans h.os, k.tape.trans h.tape, k.output.trans h.output, Nat.le_trans h.size k.size, fun j hj hx => (k.block j (Nat.lt_of_lt_of_le hj h.size) hx).trans (h.block j hj hx)⟩
theorem Kp.below {X : Nat → Prop} {A B : World} (h : Below A.heap.size A B) : Kp X A B := ⟨h.os, h.tape, h.output, h.size, fun j hj _ => h.block j hj⟩
theorem Kp.grown {X : Nat → Prop} {A B : World} {g : Nat} (h : A.grownBy B (some g)) (hx : X g) : Kp X A B := ⟨h.os, h.tape, h.output, h.size, fun j hj hn => h.block j hj (fun e => by cases e; exact hn hx)⟩
theorem Kp.set {X : Nat → Prop} (A : World) (g i : Nat) (v : Value) (hx : X g) : Kp X A (A.setCell ⟨g, i, none⟩ v) := Kp.grown (grown_set A g i v) hx
theorem Kp.row {X : Nat → Prop} {A B : World} {g : Nat} {t : TypeId} {cs : Array Value} (h : Kp X A B) (r : Row A g t cs) (hx : ¬ X g) : Row B g t cs := (h.block g r.lt hx).trans r
theorem Kp.base {X : Nat → Prop} {N : Nat} {w A B : World} (h : Kp X A B) (hb : Below N w A) (hN : N ≤ A.heap.size) (hx : ∀ j, j < N → ¬ X j) : Below N w B :=
 hb.trans ⟨h.os, h.tape, h.output, h.size, fun j hj => h.block j (by omega) (hx j hj)⟩
theorem app_one {W9 : World} {Bm Bs Bl G c cp : Nat} {vs vl : Array Value} {O : Nat → ByteArray} (z : ByteArray) (ho : OwnT W9 Bm (some ⟨G, 0, none⟩) c cp O) (rs : Row W9 Bs 124 vs) (rl : Row W9 Bl 31 vl) (hs : G ≠ Bs) (hl : G ≠ Bl) (hc : c ≤ 64) :
  ∃ g3 c3 w3, (Builtin.append_ #[31, 31] 31 #[.slice (some ⟨G, 0, none⟩) c cp, .slice (some ⟨W9.heap.size, 0, none⟩) 1 1]).run Tryz.prog (W9.alloc (.cells #[.string z] 9)) = .ok (.slice (some ⟨g3, 0, none⟩) (c + 1) c3) w3 ∧
   Hid (OwnT w3 Bm (some ⟨g3, 0, none⟩) (c + 1) c3 (fun j => if j = c then z else O j) ∧ Row w3 Bs 124 vs ∧ Row w3 Bl 31 vl ∧ (g3 = G ∨ W9.heap.size < g3) ∧ Kp (fun j => j = G ∨ j = Bs ∨ j = Bl) W9 w3) := by
 obtain ⟨i0, hi, hz0, hz1, hz2⟩ := info_parts Tryz.infoStr
 have hb := (World.ownsRow.lt ho _ rfl)
 obtain ⟨g3, c3, w3, hrun, hown3, hgrow3, hat3, hlt3⟩ := run_append_lies (P := Tryz.prog) (W9.alloc (.cells #[.string z] 9)) 31 31 Bm 9 i0 (.string ByteArray.empty) 1 16 Tryz.underlying31 hi hz0 hz1 hz2 rfl (by decide) (.slice (some ⟨G, 0, none⟩) c cp) c _ (World.ownsRow.alloc ho _) ⟨W9.heap.size, 0, none⟩ 1 1 [.string z] (by rfl) (World.news_of_block (cs := #[.string z]) (t := 9) (fr := (0, 0)) (heap_alloc_new W9 _)) (by simp [Value.oneCell']) (by omega) (by unfold maxLen; omega) (by omega) (by simp; omega) (W9.heap.size + 1) (by simp)
 have hgr : (W9.alloc (.cells #[.string z] 9)).grownBy w3 (some G) := hgrow3
 refine ⟨g3, c3, w3, hrun, ?_, (rs.alloc _).grown hgr (Ne.symm hs), (rl.alloc _).grown hgr (Ne.symm hl), ?_, ?_⟩
 ·have hx : sL (fun j => if j = c then z else O j) (c + 1) = sL O c ++ [Value.string z] := by
   rw [sL_snoc, sL_congr (S' := O) (fun i hi => by rw [if_neg (by omega)])]
   simp
  unfold OwnT
  rw [hx]
  exact hown3
 ·rcases hat3 with h | h
  ·left; have h' : some G = some g3 := h; cases h'; rfl
  ·right; omega
 ·exact (Kp.below ((Below.refl _ W9).alloc (Nat.le_refl _) _)).trans (Kp.grown hgr (.inl rfl))
theorem proof_no (a : Option Addr) (n cap : Nat) (S : Nat → ByteArray) (i : Int) (w : World) (h : TxtAt w a n S) (hn : n ≤ 1048576) (hL : ∀ i, i < n → (S i).size ≤ maxLen) (hno : pfB n S i = false) :
  Calls Tryz.prog 73 #[.slice a n cap, .int .i64 i] w fun e w' => ∃ v, e = .returned (.tuple #[v, .bool false]) ∧ ResT w w' v 0 (pfF n S i) ∧ Below w.heap.size w w' := by
 have KL : Hid (∃ (T : Nat → ByteArray) (m : Nat), Calls Tryz.prog 104 #[.slice a n cap] w fun e w' => e = .returned (.tuple #[RwV T m, .bool (lvB n S)]) ∧ Below w.heap.size w w') := by
  cases hB : lvB n S with
  | false => exact ⟨_, _, leafRow_no a n cap S w h hn hL hB⟩
  | true => exact ⟨_, _, leafRow_yes a n cap S w h hB⟩
 obtain ⟨T, m, KL2⟩ := KL.out
 have KC : Hid (Calls Tryz.prog 104 #[.slice a n cap] w fun e w' => e = .returned (.tuple #[RwV T m, .bool (lvB n S)]) ∧ Below w.heap.size w w') := KL2
 clear KL KL2 h hL
 obtain ⟨F, HF⟩ : ∃ F, Hid (pfF n S i = F) := ⟨_, rfl⟩
 rw [HF.out]
 unfold pfB at hno
 have KT : Hid (∀ w0, Calls Tryz.prog 106 #[SpV i (n : Int)] w0 fun e w' => e = .returned (.bool (inT i (n : Int))) ∧ Below w0.heap.size w0 w') := fun w0 => isInTree_any i (n : Int) w0
 cases hB : lvB n S with
 | false =>
  rw [hB] at KC
  go_enter Tryz.func73, Tryz.ntmps73
  go_wp2_with fail
  refine KC.out.mono ?_
  rintro e w1 ⟨rfl, hb1⟩
  have HS : Hid ((w1.alloc (.cells (rowC noT 0) 119)).setRow w1.heap.size (rowC T m) = w1.alloc (.cells (rowC T m) 119)) := setRow_alloc _ _ _ _
  go_wp2_with (first | (refine p_alloc (by rfl) (by rfl) ?_) | (refine p_store (by rfl) _ _ (by rfl) w1.heap.size (by rfl) T m (by rfl) noT 0 (Row.new w1 _ _) ?_; rw [HS.out]))
  go_ret2
  have HL := litT ((w1.alloc (.cells (rowC T m) 119)).alloc (.cells #[.int .i64 i, .int .i64 (n : Int)] 124)) F
  simp only [World.size_alloc] at HL
  exact ⟨_, rfl, ⟨_, _, rfl, HL.base (by have := hb1.size; omega)⟩, ((hb1.alloc hb1.size _).alloc (by simp; have := hb1.size; omega) _).alloc (by simp; have := hb1.size; omega) _⟩
 | true =>
  rw [hB] at KC hno
  have hin : inT i (n : Int) = false := by simpa using hno
  rw [hin] at KT
  go_enter Tryz.func73, Tryz.ntmps73
  go_wp2_with fail
  refine KC.out.mono ?_
  rintro e w1 ⟨rfl, hb1⟩
  have HS : Hid ((w1.alloc (.cells (rowC noT 0) 119)).setRow w1.heap.size (rowC T m) = w1.alloc (.cells (rowC T m) 119)) := setRow_alloc _ _ _ _
  go_wp2_with (first | (refine p_alloc (by rfl) (by rfl) ?_) | (refine p_store (by rfl) _ _ (by rfl) w1.heap.size (by rfl) T m (by rfl) noT 0 (Row.new w1 _ _) ?_; rw [HS.out]) | (go_at_call 106; refine (KT.out _).mono ?_; rintro e w5 ⟨rfl, hb5⟩))
  go_ret2
  have hb := below2 ((hb1.alloc hb1.size (.cells (rowC T m) 119)).alloc (by simp; have := hb1.size; omega) _) hb5
  exact ⟨_, rfl, ⟨_, _, rfl, (litT _ F).base (by have := hb.size; omega)⟩, hb.alloc hb.size _⟩
end Go.Proofs.YtihklfkhjpnjkaaGreatDoor
namespace Go.Proofs.YtihklfkhjpnjkaaGreatDoor
open Gt (hf up rt)
theorem sL_news {w : World} {b off n : Nat} {S : Nat → ByteArray} (hc : ∀ i, i < n → w.cell? ⟨b, off + i, none⟩ = some (.string (S i))) : ∀ j u, (sL S n)[j]? = some u → w.cell? ((⟨b, off, none⟩ : Addr).add j) = some u := by
 intro j u hu
 have hj : j < n := by
  have := (List.getElem?_eq_some_iff.1 hu).1
  rwa [sL_len] at this
 rw [sL_get _ _ _ hj] at hu
 cases hu
 have ea : (⟨b, off, none⟩ : Addr).add j = ⟨b, off + j, none⟩ := by unfold Addr.add; split <;> simp_all
 rw [ea]
 exact hc j hj
theorem sL_one (S : Nat → ByteArray) (n : Nat) : ∀ u ∈ sL S n, u.oneCell' = true := by
 intro u hu
 unfold sL at hu
 simp at hu
 obtain ⟨i, _, rfl⟩ := hu
 rfl
theorem sRoot_any (a : Option Addr) (n cap : Nat) (S : Nat → ByteArray) (w : World) (h : TxtAt w a n S) (hn : n ≤ 1048576) (hL : ∀ i, i < n → (S i).size ≤ maxLen) :
  Calls Tryz.prog 78 #[.slice a n cap] w fun e w' => e = .returned (.tuple #[.string (rtS n S), .bool (lvB n S)]) ∧ Below w.heap.size w w' := by
 have KV : Hid (Calls Tryz.prog 114 #[.slice a n cap] w fun e w' => e = .returned (.bool (lvB n S)) ∧ w' = w) := sLeaves_any a n cap S w h hn hL
 unfold rtS
 cases hB : lvB n S with
 | false =>
  rw [hB] at KV
  clear h hL hB
  go_enter Tryz.func78, Tryz.ntmps78
  go_wp2_with (go_at_call 114; refine KV.out.mono ?_; rintro e w' ⟨rfl, hw⟩; obtain rfl := hw.symm)
  go_ret2
  exact ⟨rfl, Below.refl _ _⟩
 | true =>
  rw [hB] at KV
  obtain ⟨h1, h64, h16⟩ := lvB_parts hB
  obtain ⟨i0, hi, hz0, hz1, hz2⟩ := info_parts Tryz.infoStr
  obtain ⟨b, off, rfl, hcw⟩ := h.some (by omega)
  have lbw : b < w.heap.size := block_lt_of_cell (hcw 0 (by omega))
  have HN : Hid (∀ j u, (sL S n)[j]? = some u → (w.alloc (.cells #[] 9)).cell? ((⟨b, off, none⟩ : Addr).add j) = some u) := sL_news (fun i hi => by
   have hb : Below w.heap.size w (w.alloc (.cells #[] 9)) := (Below.refl _ _).alloc (Nat.le_refl _) _
   exact (hb.cell (p := ⟨b, off + i, none⟩) lbw).trans (hcw i hi))
  have KL : Hid (OwnT (w.alloc (.cells #[] 9)) w.heap.size (some ⟨w.heap.size, 0, none⟩) 0 0 S) := litT w _
  have H1 : Hid (∀ u ∈ sL S n, u.oneCell' = true) := sL_one S n
  have H16 : Hid (∀ i, i < n → (S i).size = 16) := h16
  obtain ⟨Z, HZ⟩ : ∃ Z, Hid (rt n S = Z) := ⟨_, rfl⟩
  rw [if_pos rfl, HZ.out]
  clear h hL hB hcw h16
  go_enter Tryz.func78, Tryz.ntmps78
  go_wp2_with (first | (go_at_call 114; refine KV.out.mono ?_; rintro e w' ⟨rfl, hw⟩; obtain rfl := hw.symm) | (at_builtin; refine wpList_append_all _ (by rfl) _ _ 31 (by rfl) w.heap.size 9 i0 (.string ByteArray.empty) 1 16 Tryz.underlying31 hi hz0 hz1 hz2 rfl (by decide) w.heap.size 0 0 _ (by rfl) KL.out ⟨b, off, none⟩ n cap (sL S n) (by rfl) (by rw [sL_len]; omega) HN.out H1.out (by unfold maxLen; omega) (by omega) (by simp) ?_; intro g3 cap3 w3 hown3 hgrow3))
  have HO : Hid (OwnT w3 w.heap.size (some ⟨g3, 0, none⟩) n cap3 S) := by
   have hx : sL S 0 ++ sL S n = sL S n := rfl
   rw [hx, Nat.zero_add] at hown3
   exact hown3
  have HB : Hid (Below w.heap.size w w3) := ((Below.refl _ w).alloc (Nat.le_refl _) _).grown (show World.grownBy _ w3 (some w.heap.size) from hgrow3) (by simp) (fun j hj => by cases hj; exact Nat.le_refl _)
  clear hown3 hgrow3 KL HN H1 KV
  go_loopg [4] n (fun gk v wr => ∃ (m G c : Nat) (R : Nat → ByteArray), m = gk ∧ 1 ≤ m ∧ m ≤ 64 ∧ v = .slice (some ⟨G, 0, none⟩) m c ∧ OwnT wr w.heap.size (some ⟨G, 0, none⟩) m c R ∧ Hid (∀ i, i < m → (R i).size = 16) ∧ Hid (rt m R = Z) ∧ Below w.heap.size w wr)
  case atStart => exact ⟨n, g3, cap3, S, rfl, h1, h64, rfl, HO.out, H16, HZ, HB.out⟩
  case round =>
   obtain ⟨m, G, c, R, rfl, hm1, hm64, rfl, hown, HS, HR, hbel⟩ := hrel
   clear HO HB H16 HZ
   by_cases e1 : m ≤ 1
   ·have e1' : ¬ (1 : Int) < (m : Int) := by omega
    have hc0 := (OwnT.at hown).some (by omega)
    obtain ⟨b', off', eq, hcc⟩ := hc0
    cases eq
    have c0 := hcc 0 (by omega)
    have HE : Hid (R 0 = Z) := by have := HR.out; rw [Gt.rt_one _ e1] at this; exact this
    have hm0 : 0 < m := by omega
    simp only [Nat.add_zero] at c0
    clear hown hcc
    generalize R 0 = r0 at c0 HE
    go_wp2
    go_ret2
    exact ⟨by rw [← HE.out]; rfl, hbel⟩
   ·have e1' : (1 : Int) < (m : Int) := by omega
    have KU : Hid (Calls Tryz.prog 115 #[.slice (some ⟨G, 0, none⟩) m c] wr fun e w' => ∃ g c, e = .returned (.slice (some ⟨g, 0, none⟩) (hf m) c) ∧ OwnT w' wr.heap.size (some ⟨g, 0, none⟩) (hf m) c (up m R) ∧ Below wr.heap.size wr w') := sUp_any _ m c R wr (OwnT.at hown) hm64 HS.out
    have HS2 : Hid (∀ i, i < hf m → (up m R i).size = 16) := Gt.up_size HS.out
    have HR2 : Hid (rt (hf m) (up m R) = Z) := by have := HR.out; rw [Gt.rt_more _ e1] at this; exact this
    have hlt : 1 ≤ hf m ∧ hf m < m := by unfold hf; omega
    generalize hf m = m' at *
    generalize up m R = R' at *
    clear hown
    go_wp2_with fail
    refine KU.out.mono ?_
    rintro e w9 ⟨g9, c9, rfl, ho9, hb9⟩
    have HO9 : Hid (OwnT w9 w.heap.size (some ⟨g9, 0, none⟩) m' c9 R') := ho9.base hbel.size
    have HB9 : Hid (Below w.heap.size w w9) := hbel.trans (hb9.mono hbel.size)
    clear ho9 hb9
    go_wp2
    go_roundg m'
    case measure => exact hlt.2
    case rel => exact ⟨m', g9, c9, R', rfl, hlt.1, by omega, rfl, HO9.out, HS2, HR2, HB9.out⟩
end Go.Proofs.YtihklfkhjpnjkaaGreatDoor
