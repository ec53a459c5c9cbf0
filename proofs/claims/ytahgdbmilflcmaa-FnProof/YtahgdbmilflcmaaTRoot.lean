/- The root over leaves, in the program. Conditions: at most 2^20 texts. -/
import Derived.Test.YtahgdbmilflcmaaTRows
import Derived.Test.YtahgdbmilflcmaaTLeafR
namespace Go.Proofs.Ytahgdbmilflcmaa
set_option maxRecDepth 2000
open Go.ChangeShapes Go.WideShapes Go.ChangeAt Go.RowKit Go.Shelf
open Gt (hf up rt)

/-- The root, or the empty text. -/
def rtS (n : Nat) (S : Nat → ByteArray) : ByteArray := if lvB n S = true then rt n S else ⟨#[]⟩
theorem lvB_parts {n : Nat} {S : Nat → ByteArray} (h : lvB n S = true) : 1 ≤ n ∧ n ≤ 64 ∧ ∀ i, i < n → (S i).size = 16 := by
  unfold lvB at h
  rw [Bool.and_eq_true] at h
  have h2 := h.2
  unfold inB at h2
  simp at h2
  exact ⟨by omega, by omega, aS_iff.1 h.1⟩
theorem padT_at {n i : Nat} (S : Nat → ByteArray) (h : i < n) : padT n S i = S i := if_pos h

set_option maxHeartbeats 2000000 in
theorem root_no (a : Option Addr) (n cap : Nat) (S : Nat → ByteArray) (w : World) (h : TxtAt w a n S) (hn : n ≤ 1048576) (hL : ∀ i, i < n → (S i).size ≤ maxLen) (hno : lvB n S = false) :
    Calls Try.prog 12 #[.slice a n cap] w fun e w' => e = .returned (.tuple #[.string ⟨#[]⟩, .bool false]) ∧ Below w.heap.size w w' := by
  have KL : Hid (Calls Try.prog 38 #[.slice a n cap] w fun e w' => e = .returned (.tuple #[RwV noT 0, .bool false]) ∧ Below w.heap.size w w') := leafRow_no a n cap S w h hn hL hno
  clear h hL hno
  go_enter Try.func12, Try.ntmps12
  go_wp2_with fail
  refine KL.out.mono ?_
  rintro e w1 ⟨rfl, hb1⟩
  have HB : Hid (Below w.heap.size w (w1.alloc (.cells (rowC noT 0) 61))) := hb1.alloc hb1.size _
  have HF : Hid ((w1.alloc (.cells (rowC noT 0) 61)).setRow w1.heap.size (rowC noT 0) = w1.alloc (.cells (rowC noT 0) 61)) := setRow_alloc _ _ _ _
  go_wp2_with (first | (refine p_alloc (by rfl) (by rfl) ?_) | (refine p_store (by rfl) _ _ (by rfl) w1.heap.size (by rfl) noT 0 (by rfl) noT 0 (Row.new w1 _ _) ?_; rw [HF.out]))
  go_ret2
  exact ⟨rfl, HB.out⟩

set_option maxHeartbeats 2000000 in
theorem root_yes (a : Option Addr) (n cap : Nat) (S : Nat → ByteArray) (w : World) (h : TxtAt w a n S) (hyes : lvB n S = true) :
    Calls Try.prog 12 #[.slice a n cap] w fun e w' => e = .returned (.tuple #[.string (rt n S), .bool true]) ∧ Below w.heap.size w w' := by
  have KL : Hid (Calls Try.prog 38 #[.slice a n cap] w fun e w' => e = .returned (.tuple #[RwV (padT n S) n, .bool true]) ∧ Below w.heap.size w w') := leafRow_yes a n cap S w h hyes
  obtain ⟨h1, h64, h16⟩ := lvB_parts hyes
  obtain ⟨R, HR⟩ : ∃ R, Hid (rt n S = R) := ⟨_, rfl⟩
  have HT : Hid (rt n (padT n S) = R) := by show _ = _; rw [← HR.out]; exact Gt.rt_congr (by omega) (fun i hi => padT_at S hi)
  have H16 : Hid (∀ i, i < n → (padT n S i).size = 16) := fun i hi => by rw [padT_at S hi]; exact h16 i hi
  have HRs : Hid (R.size = 16) := by show _ = _; rw [← HR.out]; exact Gt.rt_size (by omega) h16
  rw [HR.out]
  clear h hyes h16 HR
  generalize padT n S = T at *
  refine (callsIn_wide (n := 2)).1 (callsIn_of_wp_marks Try.func12 rfl trivial (wpIn_wide.2 ?_) rfl)
  simp only [Try.ntmps12, List.size_toArray, List.length_cons, List.length_nil, Nat.reduceAdd, Nat.reduceSub, Array.replicate_succ, Array.replicate_zero, List.push_toArray, List.append_toArray, List.nil_append, List.cons_append]
  go_wp2_with fail
  refine KL.out.mono ?_
  rintro e w1 ⟨rfl, hb1⟩
  obtain ⟨w2, HW2⟩ : ∃ w2, Hid (w2 = w1.alloc (.cells (rowC T n) 61)) := ⟨_, rfl⟩
  have HF : Hid ((w1.alloc (.cells (rowC noT 0) 61)).setRow w1.heap.size (rowC T n) = w2) := by rw [HW2.out]; exact setRow_alloc _ _ _ _
  obtain ⟨B, hB⟩ : ∃ B, w1.heap.size = B := ⟨_, rfl⟩
  have K2 : Hid (Row w2 B 61 (rowC T n) ∧ Below w.heap.size w w2 ∧ w2.heap.size = B + 1 ∧ w.heap.size ≤ B) := by
    rw [HW2.out, ← hB]
    exact ⟨Row.new w1 _ _, hb1.alloc hb1.size _, by simp, hb1.size⟩
  have K3 : Hid (Row (w2.alloc (.cells #[.string ⟨#[]⟩] 9)) B 61 (rowC T n)) := K2.out.1.alloc _
  have hz2 := K2.out.2.2.1
  go_wp2_with (first | (refine p_alloc (by rfl) (by rfl) ?_) | (refine p_store (by rfl) _ _ (by rfl) w1.heap.size (by rfl) T n (by rfl) noT 0 (Row.new w1 _ _) ?_; rw [HF.out]) | (refine p_load (by rfl) _ (by rfl) B (by rfl) T n K3.out ?_))
  obtain ⟨w8, HW8⟩ : ∃ w8, Hid (w8 = w2.alloc (.cells #[.string ⟨#[]⟩] 9)) := ⟨_, rfl⟩
  have HN : Hid (Row w8 (B + 1) 9 #[.string ⟨#[]⟩] ∧ Below w.heap.size w w8 ∧ w8.heap.size = B + 2 ∧ w.heap.size ≤ B) := by
    rw [HW8.out]
    obtain ⟨a1, a2, a3, a4⟩ := K2.out
    refine ⟨?_, a2.alloc (by omega) _, by simp; omega, a4⟩
    have := Row.new w2 #[.string ⟨#[]⟩] 9
    rw [a3] at this
    exact this
  rw [← HW8.out]
  clear hB hz2 hb1
  refine (wpIn_wide (n := 2)).1 ?_
  refine wpIn_rangeM (recv := RwV T n) (gf := 40) (by rfl) (enters_of Try.func40 (by kernel_rfl) rfl) (rows_iter T n h1 h64 H16.out) (fun _ => rfl)
    (fun s W => Below w.heap.size w W ∧ ∃ r : ByteArray, Row W (B + 1) 9 #[.string r] ∧ (s.1 = false → rt s.2.1 s.2.2 = R) ∧ (s.1 = true → r = R)) ?abide ?start ?round ?done
  case abide =>
    rintro s A A' j h1 h2 ⟨hb, r, hr, hp, hq⟩ hg
    have hn := HN.out.2.2
    exact ⟨below_grown hb hg hb.size (by omega), r, hr.grown hg (by omega), hp, hq⟩
  case start => exact ⟨HN.out.2.1, _, HN.out.1, fun _ => HT.out, fun e => by cases e⟩
  case round =>
    rintro l ⟨d, m, T'⟩ W hok ⟨hb, r, hr, hp, hq⟩ hlt
    have hn := HN.out.2.2
    have hd : d = false := hok.1
    have hp2 := hp hd
    have HX : Hid (R = rt m T') := hp2.symm
    have HO : Hid (rOk (d, m, T')) := hok
    clear hp hq hp2 hok
    have hsem := Oper.semAt_some
    have HF2 : Hid ((W.alloc (.cells (rowC noT 0) 61)).setRow W.heap.size (rowC T' m) = W.alloc (.cells (rowC T' m) 61)) := setRow_alloc _ _ _ _
    go_simp
    gi_wp2_with (first | (refine i_alloc (by rfl) (by rfl) ?_) | (refine i_store (by rfl) _ _ (by rfl) W.heap.size (by rfl) T' m (by rfl) noT 0 (Row.new W _ _) ?_; rw [HF2.out]))
    refine ⟨World.grownBy_alloc _ _ _, ?_⟩
    intro W2 hg2 hs2
    have r1 := (hr.alloc (.cells (rowC T' m) 61)).grown hg2 (by omega)
    have rX := (Row.new W (rowC T' m) 61).grown hg2 (by omega)
    have hb2 := below_grown (hb.alloc hb.size (.cells (rowC T' m) 61)) hg2 (by simp; have := hb.size; omega) (by omega)
    have c1 := r1.cell 0
    have f1 := r1.free 0
    have cX : W2.cell? ⟨W.heap.size, 0, none⟩ = some (.string (T' 0)) := by rw [rX.cell 0, rowC_get _ _ _ (by omega)]
    simp at c1
    have HR1 : Hid (Row (W2.setCell ⟨B + 1, 0, none⟩ (.string (T' 0))) (B + 1) 9 #[.string (T' 0)]) := r1.set 0 (.string (T' 0))
    have HB1 : Hid (Below w.heap.size w (W2.setCell ⟨B + 1, 0, none⟩ (.string (T' 0)))) := hb2.setCell (by simp; omega) _
    have HE : Hid (((rNx (d, m, T')).1 = false → rt (rNx (d, m, T')).2.1 (rNx (d, m, T')).2.2 = R) ∧ ((rNx (d, m, T')).1 = true → T' 0 = R)) := by
      show _ ∧ _
      unfold rNx
      by_cases e : m ≤ 1
      · rw [if_pos e]
        refine ⟨fun x => (by cases x), fun _ => ?_⟩
        rw [HX.out, Gt.rt_one _ e]
      · rw [if_neg e]
        refine ⟨fun _ => ?_, fun x => (by cases x)⟩
        rw [HX.out, Gt.rt_more _ e]
    generalize T' 0 = t0 at cX HR1 HB1 HE
    clear hd HX HO hg2 hs2 hr
    gi_wp2
    exact ⟨by simp, fun j h1 h2 => Below.heap_setCell _ _ _ _ (by simp; omega), HB1.out, t0, HR1.out, HE.out⟩
  case done =>
    rintro s W hf ⟨hb, r, hr, hp, hq⟩ hK
    obtain rfl : r = R := hq hf
    have e0 := hr.cell 0
    simp at e0
    have KC : Hid (∀ w0, Calls Try.prog 42 #[.string r] w0 fun e w' => e = .returned (.string r) ∧ Below w0.heap.size w0 w') := fun w0 => clone_any r w0 (by have := HRs.out; omega)
    go_wp2_with fail
    refine (KC.out _).mono ?_
    rintro e w9 ⟨rfl, hb9⟩
    have hK9 : w9.heap[w8.heap.size]? = some (.deferred (some [])) := (hb9.block _ (Array.getElem?_eq_some_iff.1 hK).1).trans hK
    have HB9 : Hid (Below w.heap.size w w9) := hb.trans (hb9.mono hb.size)
    go_wp2
    refine ⟨by simp, .inl ⟨_, _, rfl, run_takeDeferred hK9, ?_⟩⟩
    exact ⟨_, results_tmp2 rfl _ _ _, rfl, below_grown HB9.out (grownBy_put _ _ _) HB9.out.size (by have := HN.out.2.2; omega)⟩
theorem root_any (a : Option Addr) (n cap : Nat) (S : Nat → ByteArray) (w : World) (h : TxtAt w a n S) (hn : n ≤ 1048576) (hL : ∀ i, i < n → (S i).size ≤ maxLen) :
    Calls Try.prog 12 #[.slice a n cap] w fun e w' => e = .returned (.tuple #[.string (rtS n S), .bool (lvB n S)]) ∧ Below w.heap.size w w' := by
  unfold rtS
  cases hB : lvB n S with
  | false => exact root_no a n cap S w h hn hL hB
  | true => exact root_yes a n cap S w h hB
end Go.Proofs.Ytahgdbmilflcmaa
