import Derived.Test.YtmhcdkbgjjibeaaGreatDoorG10
import Derived.Test.YtmhcdkbgjjibeaaGreatDoorG5
import Derived.Test.YtmhcdkbgjjibeaaGreatDoorG13
set_option maxHeartbeats 8000000
set_option maxRecDepth 2000
open Go.ChangeShapes Go.WideShapes Go.ChangeAt Go.RowKit
namespace Go.Proofs.YtmhcdkbgjjibeaaGreatDoor
open Go.ChangeShapes Go.WideShapes Go.ChangeAt Go.RowKit Go.Shelf
open Gt (hf up rt)
def rtS (n : Nat) (S : Nat → ByteArray) : ByteArray := if lvB n S = true then rt n S else ⟨#[]⟩
theorem lvB_parts {n : Nat} {S : Nat → ByteArray} (h : lvB n S = true) : 1 ≤ n ∧ n ≤ 64 ∧ ∀ i, i < n → (S i).size = 16 := by
 unfold lvB at h
 rw [Bool.and_eq_true] at h
 have h2 := h.2
 unfold inB at h2
 simp at h2
 exact ⟨by omega, by omega, aS_iff.1 h.1⟩
theorem padT_at {n i : Nat} (S : Nat → ByteArray) (h : i < n) : padT n S i = S i := if_pos h
theorem root_no (a : Option Addr) (n cap : Nat) (S : Nat → ByteArray) (w : World) (h : TxtAt w a n S) (hn : n ≤ 1048576) (hL : ∀ i, i < n → (S i).size ≤ maxLen) (hno : lvB n S = false) :
  Calls Tryz.prog 105 #[.slice a n cap] w fun e w' => e = .returned (.tuple #[.string ⟨#[]⟩, .bool false]) ∧ Below w.heap.size w w' := by
 have KL : Hid (Calls Tryz.prog 150 #[.slice a n cap] w fun e w' => e = .returned (.tuple #[RwV noT 0, .bool false]) ∧ Below w.heap.size w w') := leafRow_no a n cap S w h hn hL hno
 clear h hL hno
 go_enter Tryz.func105, Tryz.ntmps105
 go_wp2_with fail
 refine KL.out.mono ?_
 rintro e w1 ⟨rfl, hb1⟩
 have HB : Hid (Below w.heap.size w (w1.alloc (.cells (rowC noT 0) 225))) := hb1.alloc hb1.size _
 have HF : Hid ((w1.alloc (.cells (rowC noT 0) 225)).setRow w1.heap.size (rowC noT 0) = w1.alloc (.cells (rowC noT 0) 225)) := setRow_alloc _ _ _ _
 go_wp2_with (first | (refine p_alloc (by rfl) (by rfl) ?_) | (refine p_store (by rfl) _ _ (by rfl) w1.heap.size (by rfl) noT 0 (by rfl) noT 0 (Row.new w1 _ _) ?_; rw [HF.out]))
 go_ret2
 exact ⟨rfl, HB.out⟩
theorem root_yes (a : Option Addr) (n cap : Nat) (S : Nat → ByteArray) (w : World) (h : TxtAt w a n S) (hyes : lvB n S = true) :
  Calls Tryz.prog 105 #[.slice a n cap] w fun e w' => e = .returned (.tuple #[.string (rt n S), .bool true]) ∧ Below w.heap.size w w' := by
 have KL : Hid (Calls Tryz.prog 150 #[.slice a n cap] w fun e w' => e = .returned (.tuple #[RwV (padT n S) n, .bool true]) ∧ Below w.heap.size w w') := leafRow_yes a n cap S w h hyes
 obtain ⟨h1, h64, h16⟩ := lvB_parts hyes
 obtain ⟨R, HR⟩ : ∃ R, Hid (rt n S = R) := ⟨_, rfl⟩
 have HT : Hid (rt n (padT n S) = R) := by show _ = _; rw [← HR.out]; exact Gt.rt_congr (by omega) (fun i hi => padT_at S hi)
 have H16 : Hid (∀ i, i < n → (padT n S i).size = 16) := fun i hi => by rw [padT_at S hi]; exact h16 i hi
 have HRs : Hid (R.size = 16) := by show _ = _; rw [← HR.out]; exact Gt.rt_size (by omega) h16
 rw [HR.out]
 clear h hyes h16 HR
 generalize padT n S = T at *
 refine (callsIn_wide (n := 2)).1 (callsIn_of_wp_marks Tryz.func105 rfl trivial (wpIn_wide.2 ?_) rfl)
 simp only [Tryz.ntmps105, List.size_toArray, List.length_cons, List.length_nil, Nat.reduceAdd, Nat.reduceSub, Array.replicate_succ, Array.replicate_zero, List.push_toArray, List.append_toArray, List.nil_append, List.cons_append]
 go_wp2_with fail
 refine KL.out.mono ?_
 rintro e w1 ⟨rfl, hb1⟩
 obtain ⟨w2, HW2⟩ : ∃ w2, Hid (w2 = w1.alloc (.cells (rowC T n) 225)) := ⟨_, rfl⟩
 have HF : Hid ((w1.alloc (.cells (rowC noT 0) 225)).setRow w1.heap.size (rowC T n) = w2) := by rw [HW2.out]; exact setRow_alloc _ _ _ _
 obtain ⟨B, hB⟩ : ∃ B, w1.heap.size = B := ⟨_, rfl⟩
 have K2 : Hid (Row w2 B 225 (rowC T n) ∧ Below w.heap.size w w2 ∧ w2.heap.size = B + 1 ∧ w.heap.size ≤ B) := by
  rw [HW2.out, ← hB]
  exact ⟨Row.new w1 _ _, hb1.alloc hb1.size _, by simp, hb1.size⟩
 have K3 : Hid (Row (w2.alloc (.cells #[.string ⟨#[]⟩] 9)) B 225 (rowC T n)) := K2.out.1.alloc _
 have hz2 := K2.out.2.2.1
 go_wp2_with (first | (refine p_alloc (by rfl) (by rfl) ?_) | (refine p_store (by rfl) _ _ (by rfl) w1.heap.size (by rfl) T n (by rfl) noT 0 (Row.new w1 _ _) ?_; rw [HF.out]) | (refine p_load (by rfl) _ (by rfl) B (by rfl) T n K3.out ?_))
 obtain ⟨w8, HW8⟩ : ∃ w8, Hid (w8 = w2.alloc (.cells #[.string ⟨#[]⟩] 9)) := ⟨_, rfl⟩
 have HN : Hid (Row w8 (B + 1) 9 #[.string ⟨#[]⟩] ∧ Below w.heap.size w w8 ∧ w8.heap.size = B + 2 ∧ w.heap.size ≤ B) := by
  rw [HW8.out]
  obtain ⟨a1, a2, a3, a4⟩ := K2.out
  refine ⟨?_, a2.alloc (by omega) _, by simp; omega, a4⟩
  have := Row.new w2 #[.string ⟨#[]⟩] 9
  rw [a3] at this
  exact this
 rw [← HW8.out]
 clear hB hz2 hb1
 refine (wpIn_wide (n := 2)).1 ?_
 refine wpIn_rangeM (recv := RwV T n) (gf := 151) (by rfl) (enters_of Tryz.func151 (by kernel_rfl) rfl) (rows_iter T n h1 h64 H16.out) (fun _ => rfl)
  (fun s W => Below w.heap.size w W ∧ ∃ r : ByteArray, Row W (B + 1) 9 #[.string r] ∧ (s.1 = false → rt s.2.1 s.2.2 = R) ∧ (s.1 = true → r = R)) ?abide ?start ?round ?done
 case abide =>
  rintro s A A' j h1 h2 ⟨hb, r, hr, hp, hq⟩ hg
  have hn := HN.out.2.2
  exact ⟨below_grown hb hg hb.size (by omega), r, hr.grown hg (by omega), hp, hq⟩
 case start => exact ⟨HN.out.2.1, _, HN.out.1, fun _ => HT.out, fun e => by cases e⟩
 case round =>
  rintro l ⟨d, m, T'⟩ W hok ⟨hb, r, hr, hp, hq⟩ hlt
  have hn := HN.out.2.2
  have hd : d = false := hok.1
  have hp2 := hp hd
  have HX : Hid (R = rt m T') := hp2.symm
  have HO : Hid (rOk (d, m, T')) := hok
  clear hp hq hp2 hok
  have hsem := Oper.semAt_some
  have HF2 : Hid ((W.alloc (.cells (rowC noT 0) 225)).setRow W.heap.size (rowC T' m) = W.alloc (.cells (rowC T' m) 225)) := setRow_alloc _ _ _ _
  go_simp
  gi_wp2_with (first | (refine i_alloc (by rfl) (by rfl) ?_) | (refine i_store (by rfl) _ _ (by rfl) W.heap.size (by rfl) T' m (by rfl) noT 0 (Row.new W _ _) ?_; rw [HF2.out]))
  refine ⟨World.grownBy_alloc _ _ _, ?_⟩
  intro W2 hg2 hs2
  have r1 := (hr.alloc (.cells (rowC T' m) 225)).grown hg2 (by omega)
  have rX := (Row.new W (rowC T' m) 225).grown hg2 (by omega)
  have hb2 := below_grown (hb.alloc hb.size (.cells (rowC T' m) 225)) hg2 (by simp; have := hb.size; omega) (by omega)
  have c1 := r1.cell 0
  have f1 := r1.free 0
  have cX : W2.cell? ⟨W.heap.size, 0, none⟩ = some (.string (T' 0)) := by rw [rX.cell 0, rowC_get _ _ _ (by omega)]
  simp at c1
  have HR1 : Hid (Row (W2.setCell ⟨B + 1, 0, none⟩ (.string (T' 0))) (B + 1) 9 #[.string (T' 0)]) := r1.set 0 (.string (T' 0))
  have HB1 : Hid (Below w.heap.size w (W2.setCell ⟨B + 1, 0, none⟩ (.string (T' 0)))) := hb2.setCell (by simp; omega) _
  have HE : Hid (((rNx (d, m, T')).1 = false → rt (rNx (d, m, T')).2.1 (rNx (d, m, T')).2.2 = R) ∧ ((rNx (d, m, T')).1 = true → T' 0 = R)) := by
   show _ ∧ _
   unfold rNx
   by_cases e : m ≤ 1
   ·rw [if_pos e]
    refine ⟨fun x => (by cases x), fun _ => ?_⟩
    rw [HX.out, Gt.rt_one _ e]
   ·rw [if_neg e]
    refine ⟨fun _ => ?_, fun x => (by cases x)⟩
    rw [HX.out, Gt.rt_more _ e]
  generalize T' 0 = t0 at cX HR1 HB1 HE
  clear hd HX HO hg2 hs2 hr
  gi_wp2
  exact ⟨by simp, fun j h1 h2 => Below.heap_setCell _ _ _ _ (by simp; omega), HB1.out, t0, HR1.out, HE.out⟩
 case done =>
  rintro s W hf ⟨hb, r, hr, hp, hq⟩ hK
  obtain rfl : r = R := hq hf
  have e0 := hr.cell 0
  simp at e0
  have KC : Hid (∀ w0, Calls Tryz.prog 116 #[.string r] w0 fun e w' => e = .returned (.string r) ∧ Below w0.heap.size w0 w') := fun w0 => clone_any r w0 (by have := HRs.out; omega)
  go_wp2_with fail
  refine (KC.out _).mono ?_
  rintro e w9 ⟨rfl, hb9⟩
  have hK9 : w9.heap[w8.heap.size]? = some (.deferred (some [])) := (hb9.block _ (Array.getElem?_eq_some_iff.1 hK).1).trans hK
  have HB9 : Hid (Below w.heap.size w w9) := hb.trans (hb9.mono hb.size)
  go_wp2
  refine ⟨by simp, .inl ⟨_, _, rfl, run_takeDeferred hK9, ?_⟩⟩
  exact ⟨_, results_tmp2 rfl _ _ _, rfl, below_grown HB9.out (grownBy_put _ _ _) HB9.out.size (by have := HN.out.2.2; omega)⟩
theorem root_any (a : Option Addr) (n cap : Nat) (S : Nat → ByteArray) (w : World) (h : TxtAt w a n S) (hn : n ≤ 1048576) (hL : ∀ i, i < n → (S i).size ≤ maxLen) :
  Calls Tryz.prog 105 #[.slice a n cap] w fun e w' => e = .returned (.tuple #[.string (rtS n S), .bool (lvB n S)]) ∧ Below w.heap.size w w' := by
 unfold rtS
 cases hB : lvB n S with
 | false => exact root_no a n cap S w h hn hL hB
 | true => exact root_yes a n cap S w h hB
end Go.Proofs.YtmhcdkbgjjibeaaGreatDoor
namespace Go.Proofs.YtmhcdkbgjjibeaaGreatDoor
open Go.ChangeShapes Go.WideShapes Go.ChangeAt Go.RowKit Go.Shelf
open Gt (hf up nb pl)
def pfB (n : Nat) (S : Nat → ByteArray) (i : Int) : Bool := lvB n S && inT i (n : Int)
def pfR (n : Nat) (S : Nat → ByteArray) (i : Int) : Nat := if pfB n S i = true then pl i.toNat n else 0
def pfF (n : Nat) (S : Nat → ByteArray) (i : Int) : Nat → ByteArray := Gt.pf n S i.toNat
end Go.Proofs.YtmhcdkbgjjibeaaGreatDoor
namespace Go.Proofs.YtmhcdkbgjjibeaaGreatDoor
open Gt (hf up rt)
theorem sL_news {w : World} {b off n : Nat} {S : Nat → ByteArray} (hc : ∀ i, i < n → w.cell? ⟨b, off + i, none⟩ = some (.string (S i))) : ∀ j u, (sL S n)[j]? = some u → w.cell? ((⟨b, off, none⟩ : Addr).add j) = some u := by
 intro j u hu
 have hj : j < n := by
  have := (List.getElem?_eq_some_iff.1 hu).1
  rwa [sL_len] at this
 rw [sL_get _ _ _ hj] at hu
 cases hu
 have ea : (⟨b, off, none⟩ : Addr).add j = ⟨b, off + j, none⟩ := by unfold Addr.add; split <;> simp_all
 rw [ea]
 exact hc j hj
theorem sL_one (S : Nat → ByteArray) (n : Nat) : ∀ u ∈ sL S n, u.oneCell' = true := by
 intro u hu
 unfold sL at hu
 simp at hu
 obtain ⟨i, _, rfl⟩ := hu
 rfl
theorem sRoot_any (a : Option Addr) (n cap : Nat) (S : Nat → ByteArray) (w : World) (h : TxtAt w a n S) (hn : n ≤ 1048576) (hL : ∀ i, i < n → (S i).size ≤ maxLen) :
  Calls Tryz.prog 88 #[.slice a n cap] w fun e w' => e = .returned (.tuple #[.string (rtS n S), .bool (lvB n S)]) ∧ Below w.heap.size w w' := by
 have KV : Hid (Calls Tryz.prog 127 #[.slice a n cap] w fun e w' => e = .returned (.bool (lvB n S)) ∧ w' = w) := sLeaves_any a n cap S w h hn hL
 unfold rtS
 cases hB : lvB n S with
 | false =>
  rw [hB] at KV
  clear h hL hB
  go_enter Tryz.func88, Tryz.ntmps88
  go_wp2_with (go_at_call 127; refine KV.out.mono ?_; rintro e w' ⟨rfl, hw⟩; obtain rfl := hw.symm)
  go_ret2
  exact ⟨rfl, Below.refl _ _⟩
 | true =>
  rw [hB] at KV
  obtain ⟨h1, h64, h16⟩ := lvB_parts hB
  obtain ⟨i0, hi, hz0, hz1, hz2⟩ := info_parts Tryz.infoStr
  obtain ⟨b, off, rfl, hcw⟩ := h.some (by omega)
  have lbw : b < w.heap.size := block_lt_of_cell (hcw 0 (by omega))
  have HN : Hid (∀ j u, (sL S n)[j]? = some u → (w.alloc (.cells #[] 9)).cell? ((⟨b, off, none⟩ : Addr).add j) = some u) := sL_news (fun i hi => by
   have hb : Below w.heap.size w (w.alloc (.cells #[] 9)) := (Below.refl _ _).alloc (Nat.le_refl _) _
   exact (hb.cell (p := ⟨b, off + i, none⟩) lbw).trans (hcw i hi))
  have KL : Hid (OwnT (w.alloc (.cells #[] 9)) w.heap.size (some ⟨w.heap.size, 0, none⟩) 0 0 S) := litT w _
  have H1 : Hid (∀ u ∈ sL S n, u.oneCell' = true) := sL_one S n
  have H16 : Hid (∀ i, i < n → (S i).size = 16) := h16
  obtain ⟨Z, HZ⟩ : ∃ Z, Hid (rt n S = Z) := ⟨_, rfl⟩
  rw [if_pos rfl, HZ.out]
  clear h hL hB hcw h16
  go_enter Tryz.func88, Tryz.ntmps88
  go_wp2_with (first | (go_at_call 127; refine KV.out.mono ?_; rintro e w' ⟨rfl, hw⟩; obtain rfl := hw.symm) | (at_builtin; refine wpList_append_all _ (by rfl) _ _ 46 (by rfl) w.heap.size 9 i0 (.string ByteArray.empty) 1 16 Tryz.underlying46 hi hz0 hz1 hz2 rfl (by decide) w.heap.size 0 0 _ (by rfl) KL.out ⟨b, off, none⟩ n cap (sL S n) (by rfl) (by rw [sL_len]; omega) HN.out H1.out (by unfold maxLen; omega) (by omega) (by simp) ?_; intro g3 cap3 w3 hown3 hgrow3))
  have HO : Hid (OwnT w3 w.heap.size (some ⟨g3, 0, none⟩) n cap3 S) := by
   have hx : sL S 0 ++ sL S n = sL S n := rfl
   rw [hx, Nat.zero_add] at hown3
   exact hown3
  have HB : Hid (Below w.heap.size w w3) := ((Below.refl _ w).alloc (Nat.le_refl _) _).grown (show World.grownBy _ w3 (some w.heap.size) from hgrow3) (by simp) (fun j hj => by cases hj; exact Nat.le_refl _)
  clear hown3 hgrow3 KL HN H1 KV
  go_loopg [4] n (fun gk v wr => ∃ (m G c : Nat) (R : Nat → ByteArray), m = gk ∧ 1 ≤ m ∧ m ≤ 64 ∧ v = .slice (some ⟨G, 0, none⟩) m c ∧ OwnT wr w.heap.size (some ⟨G, 0, none⟩) m c R ∧ Hid (∀ i, i < m → (R i).size = 16) ∧ Hid (rt m R = Z) ∧ Below w.heap.size w wr)
  case atStart => exact ⟨n, g3, cap3, S, rfl, h1, h64, rfl, HO.out, H16, HZ, HB.out⟩
  case round =>
   obtain ⟨m, G, c, R, rfl, hm1, hm64, rfl, hown, HS, HR, hbel⟩ := hrel
   clear HO HB H16 HZ
   by_cases e1 : m ≤ 1
   ·have e1' : ¬ (1 : Int) < (m : Int) := by omega
    have hc0 := (OwnT.at hown).some (by omega)
    obtain ⟨b', off', eq, hcc⟩ := hc0
    cases eq
    have c0 := hcc 0 (by omega)
    have HE : Hid (R 0 = Z) := by have := HR.out; rw [Gt.rt_one _ e1] at this; exact this
    have hm0 : 0 < m := by omega
    simp only [Nat.add_zero] at c0
    clear hown hcc
    generalize R 0 = r0 at c0 HE
    go_wp2
    go_ret2
    exact ⟨by rw [← HE.out]; rfl, hbel⟩
   ·have e1' : (1 : Int) < (m : Int) := by omega
    have KU : Hid (Calls Tryz.prog 128 #[.slice (some ⟨G, 0, none⟩) m c] wr fun e w' => ∃ g c, e = .returned (.slice (some ⟨g, 0, none⟩) (hf m) c) ∧ OwnT w' wr.heap.size (some ⟨g, 0, none⟩) (hf m) c (up m R) ∧ Below wr.heap.size wr w') := sUp_any _ m c R wr (OwnT.at hown) hm64 HS.out
    have HS2 : Hid (∀ i, i < hf m → (up m R i).size = 16) := Gt.up_size HS.out
    have HR2 : Hid (rt (hf m) (up m R) = Z) := by have := HR.out; rw [Gt.rt_more _ e1] at this; exact this
    have hlt : 1 ≤ hf m ∧ hf m < m := by unfold hf; omega
    generalize hf m = m' at *
    generalize up m R = R' at *
    clear hown
    go_wp2_with fail
    refine KU.out.mono ?_
    rintro e w9 ⟨g9, c9, rfl, ho9, hb9⟩
    have HO9 : Hid (OwnT w9 w.heap.size (some ⟨g9, 0, none⟩) m' c9 R') := ho9.base hbel.size
    have HB9 : Hid (Below w.heap.size w w9) := hbel.trans (hb9.mono hbel.size)
    clear ho9 hb9
    go_wp2
    go_roundg m'
    case measure => exact hlt.2
    case rel => exact ⟨m', g9, c9, R', rfl, hlt.1, by omega, rfl, HO9.out, HS2, HR2, HB9.out⟩
end Go.Proofs.YtmhcdkbgjjibeaaGreatDoor
namespace Go.Proofs.YtmhcdkbgjjibeaaGreatDoor
open Go.ChangeShapes Go.WideShapes Go.ChangeAt Go.RowKit Go.Shelf
open Gt (hf up nb pl)
end Go.Proofs.YtmhcdkbgjjibeaaGreatDoor
namespace Go.Proofs.YtmhcdkbgjjibeaaGreatDoor
open Gt (hf up nb pl)
theorem sProof_any (a : Option Addr) (n cap : Nat) (S : Nat → ByteArray) (i : Int) (w : World) (h : TxtAt w a n S) (hn : n ≤ 1048576) (hL : ∀ i, i < n → (S i).size ≤ maxLen) :
  Calls Tryz.prog 89 #[.slice a n cap, .int .i64 i] w fun e w' => ∃ v, e = .returned (.tuple #[v, .bool (pfB n S i)]) ∧ ResT w w' v (pfR n S i) (pfF n S i) ∧ Below w.heap.size w w' := by
 have hb0 : Below w.heap.size w (w.alloc (.cells #[] 9)) := (Below.refl _ _).alloc (Nat.le_refl _) _
 have KV : Hid (Calls Tryz.prog 127 #[.slice a n cap] (w.alloc (.cells #[] 9)) fun e w' => e = .returned (.bool (lvB n S)) ∧ w' = w.alloc (.cells #[] 9)) := sLeaves_any a n cap S _ (h.below hb0) hn hL
 obtain ⟨PF, HPF⟩ : ∃ PF, Hid (pfF n S i = PF) := ⟨_, rfl⟩
 have KL0 : Hid (OwnT (w.alloc (.cells #[] 9)) w.heap.size (some ⟨w.heap.size, 0, none⟩) 0 0 PF) := litT w _
 have KB0 : Hid (Below w.heap.size w (w.alloc (.cells #[] 9))) := hb0
 rw [HPF.out]
 unfold pfR
 cases hV : lvB n S with
 | false =>
  rw [hV] at KV
  have hB : pfB n S i = false := by unfold pfB; rw [hV]; rfl
  rw [hB]
  clear h hL hB hV hb0
  go_enter Tryz.func89, Tryz.ntmps89
  go_wp2_with (go_at_call 127; refine KV.out.mono ?_; rintro e w' ⟨rfl, hw⟩; obtain rfl := hw.symm)
  go_ret2
  exact ⟨_, rfl, ⟨_, _, rfl, KL0.out⟩, KB0.out⟩
 | true =>
  rw [hV] at KV
  obtain ⟨h1, h64, h16⟩ := lvB_parts hV
  have hw1 : IntKind.i64.wrap ((n : Int) - 1) = (n : Int) - 1 := by rw [IntKind.wrap_i64]; omega
  by_cases hin : 0 ≤ i ∧ i ≤ (n : Int) - 1
  ·have KI : inB i 0 ((n : Int) - 1) = true := inB_true hin
   obtain ⟨i', rfl⟩ : ∃ i' : Nat, i = (i' : Int) := ⟨i.toNat, by omega⟩
   have hB : pfB n S (i' : Int) = true := by unfold pfB; rw [hV]; simp [inT]; omega
   rw [hB, if_pos rfl]
   simp only [Int.toNat_natCast]
   obtain ⟨L, HL⟩ : ∃ L, Hid (pl i' n = L) := ⟨_, rfl⟩
   have hL6 : L ≤ 6 := by rw [← HL.out]; exact Gt.pl_le 6 _ _ (by omega)
   rw [HL.out]
   have HP0 : Hid (∀ j, Gt.pf n S i' j = PF j) := fun j => by rw [← HPF.out]; rfl
   obtain ⟨i0, hi, hz0, hz1, hz2⟩ := info_parts Tryz.infoStr
   obtain ⟨b, off, rfl, hcw⟩ := h.some (by omega)
   have lbw : b < w.heap.size := block_lt_of_cell (hcw 0 (by omega))
   obtain ⟨w1, HW1⟩ : ∃ w1, Hid (w1 = w.alloc (.cells #[] 9)) := ⟨_, rfl⟩
   rw [← HW1.out] at KV KL0 KB0
   have hs1 : Hid (w1.heap.size = w.heap.size + 1) := by show _ = _; rw [HW1.out]; simp
   have HN : Hid (∀ j u, (sL S n)[j]? = some u → (w1.alloc (.cells #[] 9)).cell? ((⟨b, off, none⟩ : Addr).add j) = some u) := sL_news (fun i hi => by
    have hb : Below w.heap.size w (w1.alloc (.cells #[] 9)) := KB0.out.alloc (by have := hs1.out; omega) _
    exact (hb.cell (p := ⟨b, off + i, none⟩) lbw).trans (hcw i hi))
   have KL : Hid (OwnT (w1.alloc (.cells #[] 9)) w1.heap.size (some ⟨w1.heap.size, 0, none⟩) 0 0 S) := litT w1 _
   have H1 : Hid (∀ u ∈ sL S n, u.oneCell' = true) := sL_one S n
   have H16 : Hid (∀ i, i < n → (S i).size = 16) := h16
   clear h hL hB hV hb0 hcw h16
   go_enter Tryz.func89, Tryz.ntmps89
   go_wp2_with fail
   rw [← HW1.out]
   go_wp2_with (first | (go_at_call 127; refine KV.out.mono ?_; rintro e w' ⟨rfl, hw⟩; obtain rfl := hw.symm) | (go_at_call 83; refine (sIn_any _ _ _ _).mono ?_; rintro e w' ⟨rfl, hw⟩; obtain rfl := hw.symm) | (at_builtin; refine wpList_append_lies _ (by rfl) _ _ 46 (by rfl) w1.heap.size 9 i0 (.string ByteArray.empty) 1 16 Tryz.underlying46 hi hz0 hz1 hz2 rfl (by decide) (.slice (some ⟨w1.heap.size, 0, none⟩) 0 0) 0 _ (by rfl) KL.out ⟨b, off, none⟩ n cap (sL S n) (by rfl) (by rw [sL_len]; omega) HN.out H1.out (by omega) (by unfold maxLen; omega) (by omega) (by simp) (w1.heap.size + 1) (by simp) ?_; intro g3 cap3 w3 hown3 hgrow3 hat3 hlt3))
   have HS0 : Hid (OwnT w3 w.heap.size (some ⟨g3, 0, none⟩) n cap3 S ∧ OwnT w3 w.heap.size (some ⟨w.heap.size, 0, none⟩) 0 0 PF ∧ Below w.heap.size w w3 ∧ g3 ≠ w.heap.size) := by
    have hz := hs1.out
    have hgr : World.grownBy (w1.alloc (.cells #[] 9)) w3 (some w1.heap.size) := hgrow3
    have hx : sL S 0 ++ sL S n = sL S n := rfl
    rw [hx, Nat.zero_add] at hown3
    refine ⟨OwnT.base hown3 (by omega), own_kept (World.ownsRow.alloc KL0.out _) hgr (fun x e => by cases e; simp; omega), (KB0.out.alloc (by omega) _).grown hgr (by simp; omega) (fun j hj => by cases hj; omega), ?_⟩
    rcases hat3 with e | e
    ·have e' : some w1.heap.size = some g3 := e; cases e'; omega
    ·omega
   clear hown3 hgrow3 hat3 hlt3 KL HN H1 KV KL0 KB0 hs1
   try simp only [Nat.zero_add]
   go_loopg [1, 6, 7] n (fun gk vi vo vr wr => ∃ (m G c p Go k co : Nat) (R O : Nat → ByteArray), m = gk ∧ p < m ∧ m ≤ 64 ∧ vi = .int .i64 (p : Int) ∧ vo = .slice (some ⟨Go, 0, none⟩) k co ∧ vr = .slice (some ⟨G, 0, none⟩) m c ∧ OwnT wr w.heap.size (some ⟨G, 0, none⟩) m c R ∧ OwnT wr w.heap.size (some ⟨Go, 0, none⟩) k co O ∧ G ≠ Go ∧ k ≤ L ∧ Hid (∀ j, j < k → O j = PF j) ∧ Hid (k + pl p m = L) ∧ Hid (∀ j, Gt.pf m R p j = PF (k + j)) ∧ Hid (∀ i, i < m → (R i).size = 16) ∧ Below w.heap.size w wr)
   case atStart => exact ⟨n, g3, cap3, i', w.heap.size, 0, 0, S, PF, rfl, by omega, h64, rfl, rfl, rfl, HS0.out.1, HS0.out.2.1, HS0.out.2.2.2, by omega, fun j hj => by omega, by show 0 + _ = _; rw [Nat.zero_add]; exact HL.out, fun j => by rw [Nat.zero_add]; exact HP0.out j, H16, HS0.out.2.2.1⟩
   case round =>
    obtain ⟨m, G, c, p, Go, k, co, R, O, rfl, hp, hm64, rfl, rfl, rfl, hoR, hoO, hGG, hkL, HO, HC, HP, HS, hbel⟩ := hrel
    clear HS0 H16 HL HP0 hin hw1
    have hsz := hbel.size
    by_cases e1 : m ≤ 1
    ·have e1' : ¬ (1 : Int) < (m : Int) := by omega
     have HE : Hid (OwnT wr w.heap.size (some ⟨Go, 0, none⟩) L co PF) := by
      have := HC.out
      rw [Gt.pl_one p e1] at this
      have hkk : k = L := by omega
      rw [← hkk]
      exact hoO.congr HO.out
     have Hk : Hid (k = L) := by
      have := HC.out
      rw [Gt.pl_one p e1] at this
      show _ = _
      omega
     clear hoR hoO
     go_wp2
     go_ret2
     exact ⟨_, rfl, ⟨_, _, by rw [← Hk.out]; rfl, HE.out⟩, hbel⟩
    ·have e1' : (1 : Int) < (m : Int) := by omega
     obtain ⟨u1, u2, u3, u4, u5, u6, u7, u8, u9⟩ := up_nums p m hp hm64
     have hlt : p / 2 < hf m ∧ hf m < m := by unfold hf; omega
     have HS2 : Hid (∀ i, i < hf m → (up m R i).size = 16) := Gt.up_size HS.out
     have HU : Hid (∀ W, TxtAt W (some ⟨G, 0, none⟩) m R → Calls Tryz.prog 128 #[.slice (some ⟨G, 0, none⟩) m c] W fun e w' => ∃ g c, e = .returned (.slice (some ⟨g, 0, none⟩) (hf m) c) ∧ OwnT w' W.heap.size (some ⟨g, 0, none⟩) (hf m) c (up m R) ∧ Below W.heap.size W w') := fun W hW => sUp_any _ m c R W hW hm64 HS.out
     by_cases hnb : nb p < m
     ·have hnb' : ((nb p : Nat) : Int) < (m : Int) := by omega
      have HC2 : Hid (k + 1 + pl (p / 2) (hf m) = L) := by have := HC.out; rw [Gt.pl_yes p e1 hnb] at this; show _ = _; omega
      have HP2 : Hid (∀ j, Gt.pf (hf m) (up m R) (p / 2) j = PF (k + 1 + j)) := fun j => by rw [← Gt.pf_tl R p j e1 hnb, HP.out, show k + (j + 1) = k + 1 + j by omega]
      have HQ : Hid (R (nb p) = PF k) := by have := HP.out 0; rw [Gt.pf_hd R p e1 hnb] at this; exact this
      have hck : k + 1 ≤ L := by have := HC2.out; omega
      obtain ⟨b', off', eq, hcc⟩ := (OwnT.at hoR).some (by omega)
      cases eq
      have cq := hcc (nb p) hnb
      simp only [Nat.zero_add] at cq
      generalize R (nb p) = x at cq HQ
      generalize nb p = q at u4 hnb' cq
      generalize p / 2 = p' at u5 u6 hlt HC2 HP2
      generalize hf m = m' at u8 u9 hlt HC2 HP2 HS2 HU
      generalize up m R = R' at HP2 HS2 HU
      have KR : Hid (OwnT wr w.heap.size (some ⟨G, 0, none⟩) m c R) := hoR
      have KO : Hid (OwnT wr w.heap.size (some ⟨Go, 0, none⟩) k co O) := hoO
      have lGo := World.ownsRow.lt hoO _ rfl
      have lG := World.ownsRow.lt hoR _ rfl
      clear hoR hoO hcc hnb HC HP HS
      go_wp2_with (at_builtin; refine wpList_append_lies _ (by rfl) _ _ 46 (by rfl) w.heap.size 9 i0 (.string ByteArray.empty) 1 16 Tryz.underlying46 hi hz0 hz1 hz2 rfl (by decide) (.slice (some ⟨Go, 0, none⟩) k co) k _ (by rfl) (World.ownsRow.alloc KO.out _) ⟨wr.heap.size, 0, none⟩ 1 1 [.string x] (by rfl) (by rfl) (World.news_of_block (cs := #[.string x]) (t := 9) (fr := (0, 0)) (heap_alloc_new wr _)) (by simp [Value.oneCell']) (by omega) (by unfold maxLen; omega) (by omega) (by simp; omega) (wr.heap.size + 1) (by simp) ?_; intro g4 cap4 w4 hown4 hgrow4 hat4 hlt4)
      have hgr : World.grownBy (wr.alloc (.cells #[.string x] 9)) w4 (some Go) := hgrow4
      have KR4 : Hid (OwnT w4 w.heap.size (some ⟨G, 0, none⟩) m c R) := own_kept (World.ownsRow.alloc KR.out _) hgr (fun y e => by cases e; exact hGG)
      have KB4 : Hid (Below w.heap.size w w4) := (hbel.alloc hsz _).grown hgr (by simp; omega) (fun j hj => by cases hj; exact lGo.1)
      have KO4 : Hid (OwnT w4 w.heap.size (some ⟨g4, 0, none⟩) (k + 1) cap4 (fun j => if j = k then x else O j)) := by
       have hx : sL (fun j => if j = k then x else O j) (k + 1) = sL O k ++ [Value.string x] := by
        rw [sL_snoc, sL_congr (S' := O) (fun i hi => by rw [if_neg (by omega)])]
        simp
       show OwnT _ _ _ _ _ _
       unfold OwnT
       rw [hx]
       exact hown4
      clear hown4 hgrow4 hat4 hgr cq KR KO
      refine (HU.out _ (OwnT.at KR4.out)).mono ?_
      rintro e w9 ⟨g9, c9, rfl, ho9, hb9⟩
      have hsz4 := KB4.out.size
      have HR9 : Hid (OwnT w9 w.heap.size (some ⟨g9, 0, none⟩) m' c9 R') := ho9.base hsz4
      have hg9 := (World.ownsRow.lt ho9 _ rfl).1
      have HO9 : Hid (OwnT w9 w.heap.size (some ⟨g4, 0, none⟩) (k + 1) cap4 (fun j => if j = k then x else O j)) := KO4.out.below hb9
      have HB9 : Hid (Below w.heap.size w w9) := KB4.out.trans (hb9.mono hsz4)
      have HQQ : Hid (∀ j, j < k + 1 → (if j = k then x else O j) = PF j) := fun j hj => by
       by_cases e : j = k
       ·rw [if_pos e, e]; exact HQ.out
       ·rw [if_neg e]; exact HO.out j (by omega)
      clear ho9 hb9
      go_wp2
      go_roundg m'
      case measure => exact hlt.2
      case rel => exact ⟨m', g9, c9, p', g4, k + 1, cap4, R', _, rfl, hlt.1, by omega, rfl, rfl, rfl, HR9.out, HO9.out, by omega, hck, HQQ, HC2, HP2, HS2, HB9.out⟩
     ·have hnb' : ¬ ((nb p : Nat) : Int) < (m : Int) := by omega
      have HC2 : Hid (k + pl (p / 2) (hf m) = L) := by have := HC.out; rw [Gt.pl_no p e1 hnb] at this; exact this
      have HP2 : Hid (∀ j, Gt.pf (hf m) (up m R) (p / 2) j = PF (k + j)) := fun j => by rw [← Gt.pf_no R p j e1 hnb, HP.out]
      generalize nb p = q at u4 hnb'
      generalize p / 2 = p' at u5 u6 hlt HC2 HP2
      generalize hf m = m' at u8 u9 hlt HC2 HP2 HS2 HU
      generalize up m R = R' at HP2 HS2 HU
      have KR : Hid (OwnT wr w.heap.size (some ⟨G, 0, none⟩) m c R) := hoR
      have KO : Hid (OwnT wr w.heap.size (some ⟨Go, 0, none⟩) k co O) := hoO
      have lGo := World.ownsRow.lt hoO _ rfl
      clear hoR hoO HC HP HS
      go_wp2_with fail
      refine (HU.out _ (OwnT.at KR.out)).mono ?_
      rintro e w9 ⟨g9, c9, rfl, ho9, hb9⟩
      have HR9 : Hid (OwnT w9 w.heap.size (some ⟨g9, 0, none⟩) m' c9 R') := ho9.base hsz
      have hg9 := (World.ownsRow.lt ho9 _ rfl).1
      have HO9 : Hid (OwnT w9 w.heap.size (some ⟨Go, 0, none⟩) k co O) := KO.out.below hb9
      have HB9 : Hid (Below w.heap.size w w9) := hbel.trans (hb9.mono hsz)
      clear ho9 hb9
      go_wp2
      go_roundg m'
      case measure => exact hlt.2
      case rel => exact ⟨m', g9, c9, p', Go, k, co, R', O, rfl, hlt.1, by omega, rfl, rfl, rfl, HR9.out, HO9.out, by omega, hkL, HO, HC2, HP2, HS2, HB9.out⟩
  ·have KI : inB i 0 ((n : Int) - 1) = false := inB_false hin
   have hB : pfB n S i = false := by unfold pfB; rw [hV]; simp [inT]; omega
   rw [hB]
   clear h hL hB hV hb0
   go_enter Tryz.func89, Tryz.ntmps89
   go_wp2_with (first | (go_at_call 127; refine KV.out.mono ?_; rintro e w' ⟨rfl, hw⟩; obtain rfl := hw.symm) | (go_at_call 83; refine (sIn_any _ _ _ _).mono ?_; rintro e w' ⟨rfl, hw⟩; obtain rfl := hw.symm))
   go_ret2
   exact ⟨_, rfl, ⟨_, _, rfl, KL0.out⟩, KB0.out⟩
end Go.Proofs.YtmhcdkbgjjibeaaGreatDoor
namespace Go.Proofs.YtmhcdkbgjjibeaaGreatDoor
noncomputable def lvs (k : Int) (n : Nat) (S : Nat → ByteArray) : Nat → ByteArray := fun i => plf k (n : Int) (i : Int) (S i)
theorem lvs_le (k : Int) (n : Nat) (S : Nat → ByteArray) (i : Nat) : (lvs k n S i).size ≤ 16 := plf_le _ _ _ _
theorem Tryz.infoCut : (Tryz.prog.info? 91).map (·.size) = some 4 := by kernel_rfl
theorem bind_any (k : Int) (a : Option Addr) (n cap : Nat) (S : Nat → ByteArray) (w : World) (h : TxtAt w a n S) (hn : n ≤ 64) (hS : ∀ i, i < n → (S i).size ≤ 1048576) :
  Calls Tryz.prog 70 #[.int .i64 k, .slice a n cap] w fun e w' => ∃ G, e = .returned (.agg #[.int .i64 k, .slice a n cap, .slice (some ⟨G, 0, none⟩) n n, .string (rtS n (lvs k n S))]) ∧ OwnT w' w.heap.size (some ⟨G, 0, none⟩) n n (lvs k n S) ∧ Below w.heap.size w w' := by
 obtain ⟨i0, hi, hz0, hz1, hz2⟩ := info_parts Tryz.infoStr
 obtain ⟨B, HB⟩ : ∃ x, Hid (x = w.heap.size) := ⟨_, rfl⟩
 obtain ⟨w0, HW0⟩ : ∃ x, Hid (x = w.alloc (.cells #[.int .i64 0, .slice none 0 0, .slice none 0 0, .string ⟨#[]⟩] 91)) := ⟨_, rfl⟩
 have HR0 : Hid (Row w0 B 91 #[.int .i64 0, .slice none 0 0, .slice none 0 0, .string ⟨#[]⟩]) := by show Row _ _ _ _; rw [HW0.out, HB.out]; exact Row.new w _ _
 have hb0 : Below w.heap.size w w0 := by rw [HW0.out]; exact (Below.refl _ _).alloc (Nat.le_refl _) _
 have hlt0 : B < w0.heap.size := HR0.out.lt
 have KH : Hid (TxtAt w0 a n S) := h.below hb0
 have KB0 : Hid (Below w.heap.size w w0) := hb0
 have KS : Hid (∀ i, i < n → (S i).size ≤ 1048576) := hS
 obtain ⟨L, HL⟩ : ∃ L, Hid (lvs k n S = L) := ⟨_, rfl⟩
 have HL16 : Hid (∀ i, (L i).size ≤ 16) := fun i => by rw [← HL.out]; exact lvs_le _ _ _ _
 rw [HL.out]
 clear h hb0 hS
 go_enter Tryz.func70, Tryz.ntmps70
 go_wp2_with (at_make; rw [← HW0.out, ← HB.out]; refine wpList_make_full _ rfl _ _ 46 rfl w0.heap.size 9 i0 (.string ByteArray.empty) 1 Tryz.underlying46 hi hz0 hz1 .i64 .i64 _ _ n rfl rfl rfl rfl (by rw [hz2]; omega) (by unfold maxLen; omega) (Nat.le_refl _) ?_; intro w1 hown hgrow)
 have hb1 : Below w0.heap.size w0 w1 := (Below.refl _ _).grown hgrow (Nat.le_refl _) (by simp)
 obtain ⟨G, HG⟩ : ∃ x, Hid (x = w0.heap.size) := ⟨_, rfl⟩
 have K1 : Hid (OwnT w1 w0.heap.size (some ⟨G, 0, none⟩) n n (fun i => if i < 0 then L i else ByteArray.empty)) := by
  have e : sL (fun i => if i < 0 then L i else ByteArray.empty) n = List.replicate n (Value.string ByteArray.empty) := by rw [← sL_empty]; exact sL_congr (fun i _ => by simp)
  show OwnT _ _ _ _ _ _
  unfold OwnT
  rw [e, HG.out]
  simpa [Value.cells, toList_madeCells_one] using hown
 have KB1 : Hid (Below w0.heap.size w0 w1) := hb1
 rw [← HG.out]
 clear hown hgrow hb1 hi hz0 hz1 hz2
 go_loopw [15] (fun i wr => ∃ c : Nat, c ≤ n ∧ i = .int .i64 c ∧ OwnT wr w0.heap.size (some ⟨G, 0, none⟩) n n (fun i => if i < c then L i else ByteArray.empty) ∧ Below w0.heap.size w0 wr) (fun i _ => n - (intOf i).toNat)
 case atStart => exact ⟨0, Nat.zero_le _, rfl, K1.out, KB1.out⟩
 case round =>
  obtain ⟨c, hk, rfl, hown, hbel⟩ := hrel
  clear K1 KB1
  by_cases hlt : c < n
  ·have hki : (c : Int) < (n : Int) := by omega
   obtain ⟨b1, off1, rfl, hc1⟩ := (KH.out.below hbel) c hlt
   have KC : Hid (∀ W, Calls Tryz.prog 100 #[.int .i64 k, .int .i64 (n : Int), .int .i64 (c : Int), .string (S c)] W fun e w' => e = .returned (.string (L c)) ∧ Below W.heap.size W w') := fun W => by
    have := pieceLeaf_any k (n : Int) (c : Int) (S c) W (KS.out c hlt)
    rw [← HL.out]
    exact this
   have hgl := (World.ownsRow.lt hown _ rfl).2
   obtain ⟨old, hold⟩ : ∃ v, wr.cell? ⟨G, c, none⟩ = some v := by
    rw [World.ownsRow.cellAt hown c (by omega)]
    exact ⟨_, sL_get _ _ _ hlt⟩
   have hfr := World.ownsRow.frozenAt hown c
   have KO : Hid (OwnT wr w0.heap.size (some ⟨G, 0, none⟩) n n (fun i => if i < c then L i else ByteArray.empty)) := hown
   have KB : Hid (Below w0.heap.size w0 wr) := hbel
   have hGw : w0.heap.size ≤ G := by rw [HG.out]; exact Nat.le_refl _
   clear hown hbel
   generalize S c = sc at hc1 KC
   go_wp2_with fail
   refine Calls.mono (KC.out _) ?_
   rintro e w2 ⟨rfl, hb2⟩
   have hold2 := (hb2.cell (p := ⟨G, c, none⟩) hgl).trans hold
   have hfr2 := (World.frozen?_of_block (a := ⟨G, c, none⟩) (hb2.block _ hgl)).trans hfr
   have hst := World.ownsRow.stored (OwnT.below KO.out hb2) c (.string (L c))
   rw [sL_set _ _ _ _ hlt] at hst
   have HO : Hid (OwnT (w2.setCell ⟨G, c, none⟩ (.string (L c))) w0.heap.size (some ⟨G, 0, none⟩) n n (fun i => if i < c + 1 then L i else ByteArray.empty)) := OwnT.congr hst.1 (fun i _ => by
    by_cases e : i = c
    ·simp [e]
    ·by_cases e2 : i < c
     ·simp [e, e2, show i < c + 1 by omega]
     ·simp [e, e2, show ¬ i < c + 1 by omega])
   have HB' : Hid (Below w0.heap.size w0 (w2.setCell ⟨G, c, none⟩ (.string (L c)))) := (below2 KB.out hb2).setCell hGw _
   generalize L c = sv at HO HB'
   clear hst hold hfr KC KO KB hc1
   go_wp2
   go_roundw
   case rel => exact ⟨c + 1, by omega, by go_num, HO.out, HB'.out⟩
   case measure => simp [intOf] <;> omega
  ·obtain rfl : c = n := by omega
   have HO : Hid (OwnT wr w0.heap.size (some ⟨G, 0, none⟩) c c L) := hown.congr (fun i hi => if_pos hi)
   have HBl : Hid (Below w0.heap.size w0 wr) := hbel
   have KR : Hid (Calls Tryz.prog 105 #[.slice (some ⟨G, 0, none⟩) c c] wr fun e w' => e = .returned (.tuple #[.string (rtS c L), .bool (lvB c L)]) ∧ Below wr.heap.size wr w') := root_any _ _ _ L _ (OwnT.at HO.out) (by omega) (fun i _ => by have := HL16.out i; unfold maxLen; omega)
   obtain ⟨rt, HRT⟩ : ∃ rt, Hid (rtS c L = rt) := ⟨_, rfl⟩
   rw [HRT.out] at KR
   generalize lvB c L = okr at KR
   clear hown hbel KH
   go_wp2_with fail
   refine Calls.mono KR.out ?_
   rintro e w3 ⟨rfl, hb3⟩
   have hb13 := below2 HBl.out hb3
   have HR3 : Hid (Row w3 B 91 #[.int .i64 0, .slice none 0 0, .slice none 0 0, .string ⟨#[]⟩]) := HR0.out.below hb13 hlt0
   have HO3 : Hid (OwnT w3 w0.heap.size (some ⟨G, 0, none⟩) c c L) := OwnT.below HO.out hb3
   have q0 := HR3.out.cell 0
   have q1 := HR3.out.cell 1
   have q2 := HR3.out.cell 2
   have q3 := HR3.out.cell 3
   have f0 := HR3.out.free 0
   have f1 := HR3.out.free 1
   have f2 := HR3.out.free 2
   have f3 := HR3.out.free 3
   simp at q0 q1 q2 q3
   clear HO HBl hb3 KR
   have ZR : Hid (Row ((((w3.setCell ⟨B, 0, none⟩ (.int .i64 k)).setCell ⟨B, 1, none⟩ (.slice a c cap)).setCell ⟨B, 2, none⟩ (.slice (some ⟨G, 0, none⟩) c c)).setCell ⟨B, 3, none⟩ (.string rt)) B 91 #[.int .i64 k, .slice a c cap, .slice (some ⟨G, 0, none⟩) c c, .string rt]) := (((HR3.out.set 0 _).set 1 _).set 2 _).set 3 _
   have hGB : G ≠ B := by rw [HG.out]; omega
   have hBw : w.heap.size ≤ B := by rw [HB.out]; exact Nat.le_refl _
   have KB3 : Hid (Below w.heap.size w w3) := KB0.out.trans (hb13.mono KB0.out.size)
   have set1 : ∀ (W : World) (o : Nat) (v : Value), OwnT W w0.heap.size (some ⟨G, 0, none⟩) c c L → OwnT (W.setCell ⟨B, o, none⟩ v) w0.heap.size (some ⟨G, 0, none⟩) c c L := fun W o v hW => own_kept hW (grown_set _ _ _ _) (fun x e => by cases e; exact hGB)
   have ZO : Hid (OwnT ((((w3.setCell ⟨B, 0, none⟩ (.int .i64 k)).setCell ⟨B, 1, none⟩ (.slice a c cap)).setCell ⟨B, 2, none⟩ (.slice (some ⟨G, 0, none⟩) c c)).setCell ⟨B, 3, none⟩ (.string rt)) w.heap.size (some ⟨G, 0, none⟩) c c L) := OwnT.base (set1 _ _ _ (set1 _ _ _ (set1 _ _ _ (set1 _ _ _ HO3.out)))) KB0.out.size
   clear set1 hb13
   go_wp2
   refine bodyPost_ret (v := .agg #[.int .i64 k, .slice a c cap, .slice (some ⟨G, 0, none⟩) c c, .string rt]) (results_cell_row Tryz.results70 _ _ B 91 _ (0, 0) _ (by simp) ZR.out Tryz.underlying91 (by rfl) Tryz.infoCut) rfl ⟨G, by rw [HRT.out], ZO.out, ?_⟩
   exact Below.setCell (Below.setCell (Below.setCell (Below.setCell KB3.out hBw _) hBw _) hBw _) hBw _
end Go.Proofs.YtmhcdkbgjjibeaaGreatDoor
