/- Whether a net is right, in the program. Conditions: lists of at most 2^20, texts that can be. -/
import Derived.Test.YtpomffkpjldloaaGreatI37
import Derived.Test.YtpomffkpjldloaaGreatI31
import Derived.Test.YtpomffkpjldloaaGreatI25
import Derived.Lib.QuietBelow
import Derived.BigQuiet
namespace Go.Proofs.YtpomffkpjldloaaGreat
set_option maxRecDepth 2000
open Go.ChangeShapes Go.WideShapes Go.ChangeAt Go.RowKit Go.Sort

/-- F and the liars are so. -/
noncomputable def liB (f : Int) (zs : List Int) : Bool := decide ((zs.length : Int) ≤ f) && numB f zs
set_option maxHeartbeats 1000000 in
theorem areLiars_any (f : Int) (a : Option Addr) (cap : Nat) (zs : List Int) (w : World) (h : IntsAt w a zs.length zs) (hf : 1 ≤ f ∧ f ≤ 3) (hn : zs.length ≤ 1048576) :
    Calls Tryz.prog 38 #[.slice a zs.length cap, .int .i64 f] w fun e w' => e = .returned (.bool (liB f zs)) ∧ Below w.heap.size w w' := by
  have KA : Hid _ := areNodes_any 0 f (.slice none 0 0) a zs.length cap zs w h hf hn
  obtain ⟨n, HN⟩ : ∃ x, Hid (zs.length = x) := ⟨_, rfl⟩
  unfold liB
  rw [HN.out] at KA ⊢
  clear h hf
  by_cases hl : (n : Int) ≤ f
  · rw [decide_eq_true hl, Bool.true_and]
    go_enter Tryz.func38, Tryz.ntmps38
    go_wp2_with fail
    refine Calls.mono KA.out ?_
    rintro e w1 ⟨rfl, b1⟩
    go_wp2
    go_ret
    exact ⟨rfl, b1⟩
  · rw [decide_eq_false hl, Bool.false_and]
    go_enter Tryz.func38, Tryz.ntmps38
    go_wp2
    go_ret
    exact ⟨rfl, Below.refl _ _⟩
/-- A seat: a node and its badge. -/
def seD (d : Nd) (i : Nat) (f : Int) : Nat → Dt
  | 0 => .val (.int .i64 d.i)
  | 1 => .val (.int .i64 d.f)
  | 2 => slsD d.n d.S
  | 3 => .val (.int .i64 (i : Int))
  | _ => .val (.int .i64 f)
def sesD (n : Nat) (N : Nat → Nd) (f : Int) : Dt := .lst 84 5 n fun i => seD (N i) i f
def zcE : List Value := [.int .i64 0, .int .i64 0, .slice none 0 0, .int .i64 0, .int .i64 0]
theorem Tryz.infoSeZ : (Tryz.prog.info? 84).map (fun i => (i.zero, i.size, i.bytes)) = some (some (.agg zcE.toArray), 5, 56) := by kernel_rfl
theorem Tryz.infoSe : (Tryz.prog.info? 84).map (·.size) = some 5 := by kernel_rfl
set_option maxHeartbeats 4000000 in
theorem seats_any (f : Int) (a : Option Addr) (n c : Nat) (v2 v3 : Value) (N : Nat → Nd) (w : World) (h : Rd w (ndsD n N) (.slice a n c)) (hn : n ≤ 1048576) :
    Calls Tryz.prog 39 #[ntV f (.slice a n c) v2 v3] w fun e w' => ∃ g, e = .returned (.slice (some ⟨g, 0, none⟩) n n) ∧ Rd w' (sesD n N f) (.slice (some ⟨g, 0, none⟩) n n) ∧ Below w.heap.size w w' := by
  obtain ⟨i0, hi, hz0, hz1, hz2⟩ := info_parts Tryz.infoSeZ
  obtain ⟨A, HA⟩ : ∃ x, Hid (x = w.heap.size) := ⟨_, rfl⟩
  obtain ⟨w0, HW0⟩ : ∃ x, Hid (x = w.alloc (.cells #[.int .i64 f, .slice a n c, v2, v3] 36)) := ⟨_, rfl⟩
  have RA : Hid (Row w0 A 36 #[.int .i64 f, .slice a n c, v2, v3]) := by show Row _ _ _ _; rw [HW0.out, HA.out]; exact Row.new w _ _
  have hb0 : Below w.heap.size w w0 := by rw [HW0.out]; exact (Below.refl _ _).alloc (Nat.le_refl _) _
  have KB0 : Hid (Below w.heap.size w w0) := hb0
  have KH : Hid (Rd w0 (ndsD n N) (.slice a n c)) := h.below hb0
  obtain ⟨g, HG⟩ : ∃ x, Hid (x = w0.heap.size) := ⟨_, rfl⟩
  have x1 := RA.out.cell 1
  simp at x1
  clear h hb0
  go_enter Tryz.func39, Tryz.ntmps39
  go_wp2_with (at_make; rw [← HW0.out, ← HA.out]; refine wpList_make_full _ rfl _ _ 79 rfl w0.heap.size 84 i0 (.agg zcE.toArray) 5 Tryz.underlying79 hi hz0 hz1 .i64 .i64 _ _ n rfl rfl rfl rfl (by rw [hz2]; omega) (by unfold maxLen; omega) (Nat.le_refl _) ?_; intro w1 hown hgrow; have hb1 : Below w0.heap.size w0 w1 := (Below.refl _ _).grown hgrow (Nat.le_refl _) (by simp); have y1 := (hb1.cell (p := ⟨A, 1, none⟩) RA.out.lt).trans x1)
  have ho1 : w1.ownsRow w0.heap.size 84 5 (.slice (some ⟨g, 0, none⟩) n n) n (cL 5 (fun _ q => zcE.getD q undef) n) := by
    have e : (madeCells (Value.agg zcE.toArray).cells (n * 5)).toList = cL 5 (fun _ q => zcE.getD q undef) n := made_cL (zs := zcE) (by simp [zcE])
    rw [e] at hown
    rw [HG.out]
    exact hown
  rw [← HG.out]
  have KO1 : Hid (w1.ownsRow w0.heap.size 84 5 (.slice (some ⟨g, 0, none⟩) n n) n (cL 5 (fun _ q => zcE.getD q undef) n)) := ho1
  clear hown hgrow ho1
  go_loopw [13] (fun vi wr => ∃ k : Nat, k ≤ n ∧ vi = .int .i64 (k : Int) ∧ Hid (∃ y, wr.ownsRow w0.heap.size 84 5 (.slice (some ⟨g, 0, none⟩) n n) n (cL 5 y n) ∧ ∀ i, i < k → ∀ q, q < 5 → Rd w0 (seD (N i) i f q) (y i q)) ∧ Below w0.heap.size w0 wr) (fun vi _ => n - (intOf vi).toNat)
  case atStart => exact ⟨0, Nat.zero_le _, rfl, ⟨_, KO1.out, fun i hi => absurd hi (Nat.not_lt_zero _)⟩, hb1⟩
  case round =>
    obtain ⟨k, hk, rfl, HY, hbel⟩ := hrel
    clear KO1 hb1 y1 x1
    by_cases hlt : k < n
    · have hki : (k : Int) < (n : Int) := by omega
      obtain ⟨b1, f1, an, cn, rfl, _, R0, hr0⟩ := node_at KH.out hlt
      have R1 : Hid (wr.rangeAt b1 (f1 + k * 3) [.int .i64 (N k).i, .int .i64 (N k).f, .slice an (N k).n cn]) := fun j v hv => (hbel.cell (block_lt_of_cell (R0 j v hv))).trans (R0 j v hv)
      obtain ⟨w2, HW2⟩ : ∃ x, Hid (x = wr.alloc (.cells #[.int .i64 (N k).i, .int .i64 (N k).f, .slice an (N k).n cn] 68)) := ⟨_, rfl⟩
      have b2 : Below wr.heap.size wr w2 := by rw [HW2.out]; exact (Below.refl _ _).alloc (Nat.le_refl _) _
      obtain ⟨y, hoy, hry⟩ := HY.out
      have ho2 := ownsRow_below hoy b2
      have TH : Hid (w2.there g (k * 5) 5) := by
        intro j hj
        refine ⟨?_, World.ownsRow.frozenAt ho2 _⟩
        rw [World.ownsRow.cellAt ho2 _ (mid_lt hlt hj), cL_get _ _ _ _ _ hlt hj]
        rfl
      have x0 := (RA.out.below hbel RA.out.lt).cell 0
      have lA := (RA.out.below hbel RA.out.lt).lt
      simp at x0
      obtain ⟨w3, HW3⟩ : ∃ x, Hid (x = w2.setCells g (k * 5) [.int .i64 (N k).i, .int .i64 (N k).f, .slice an (N k).n cn, .int .i64 (k : Int), .int .i64 f]) := ⟨_, rfl⟩
      have HY3 : Hid (∃ y, w3.ownsRow w0.heap.size 84 5 (.slice (some ⟨g, 0, none⟩) n n) n (cL 5 y n) ∧ ∀ i, i < k + 1 → ∀ q, q < 5 → Rd w0 (seD (N i) i f q) (y i q)) := by
        rw [HW3.out]
        have := own_setCells hlt [.int .i64 (N k).i, .int .i64 (N k).f, .slice an (N k).n cn, .int .i64 (k : Int), .int .i64 f] 0 w2 y rfl ho2
        rw [Nat.add_zero] at this
        refine ⟨_, this, fun i hi q hq => ?_⟩
        by_cases e : i = k
        · subst e
          match q, hq with
          | 0, _ | 1, _ | 3, _ | 4, _ => simp [seD, Rd]
          | 2, _ => simpa [seD] using hr0
        · simp only [e, false_and, if_false]
          exact hry i (by omega) q hq
      have hgs : w0.heap.size ≤ g := by rw [HG.out]; exact Nat.le_refl _
      have KB3 : Hid (Below w0.heap.size w0 w3) := by show Below _ _ _; rw [HW3.out]; exact below_setCells (below2 hbel b2) hgs _ _
      clear HY hoy ho2 b2 R0 hr0 hbel hry hgs
      go_wp2_with (first | (refine wpList_load_mid (by rfl) 68 _ (by rfl) b1 (f1 + k * 3) (by rfl) [.int .i64 (N k).i, .int .i64 (N k).f, .slice an (N k).n cn] _ ?_ Tryz.underlying68 (by rfl) Tryz.infoNd ?_; exact R1.out) | (rw [← HW2.out]; refine wpList_store_mid (by rfl) 84 _ _ (by rfl) g (k * 5) #[.int .i64 (N k).i, .int .i64 (N k).f, .slice an (N k).n cn, .int .i64 (k : Int), .int .i64 f] (by rfl) (by rfl) ?_ Tryz.infoSe (by simp [Value.oneCell']) ?_; exact TH.out; rw [← HW3.out]))
      go_roundw
      case rel => exact ⟨k + 1, by omega, by go_num, HY3, KB3.out⟩
      case measure => simp [intOf]; omega
    · obtain rfl : k = n := by omega
      have HF : Hid (Rd wr (sesD k N f) (.slice (some ⟨g, 0, none⟩) k k)) := by
        obtain ⟨y, hoy, hry⟩ := HY.out
        refine ⟨_, _, rfl, fun i hi => ⟨g, 0, rfl, fun q hq => ⟨y i q, ?_, (hry i hi q hq).below hbel⟩⟩⟩
        rw [Nat.zero_add, World.ownsRow.cellAt hoy _ (mid_lt hi hq), cL_get _ _ _ _ _ hi hq]
      go_wp2
      go_ret
      exact ⟨g, rfl, HF.out, below2 KB0.out hbel⟩
set_option maxHeartbeats 2000000 in
theorem isRight_any (i0 f0 bi bf : Int) (an : Option Addr) (nn cn : Nat) (S : Nat → Sl) (w : World) (h : Rd w (slsD nn S) (.slice an nn cn)) (hn : nn ≤ 1048576) (hs : ∀ i, i < nn → SlN (S i)) :
    Calls Tryz.prog 40 #[.agg #[.int .i64 i0, .int .i64 f0, .slice an nn cn, .int .i64 bi, .int .i64 bf]] w fun e w' => e = .returned (.bool (decide (bi = i0 ∧ bf = f0) && ndB i0 f0 nn S)) ∧ Below w.heap.size w w' := by
  obtain ⟨w0, HW0⟩ : ∃ x, Hid (x = w.alloc (.cells #[.int .i64 i0, .int .i64 f0, .slice an nn cn, .int .i64 bi, .int .i64 bf] 84)) := ⟨_, rfl⟩
  have hb0 : Below w.heap.size w w0 := by rw [HW0.out]; exact (Below.refl _ _).alloc (Nat.le_refl _) _
  have KB0 : Hid (Below w.heap.size w w0) := hb0
  have KN : Hid _ := nodeOk_any i0 f0 an nn cn S w0 (h.below hb0) hn hs
  clear h hb0 hs
  by_cases e1 : bi = i0
  · by_cases e2 : bf = f0
    · rw [decide_eq_true ⟨e1, e2⟩, Bool.true_and]
      subst e1 e2
      go_enter Tryz.func40, Tryz.ntmps40
      go_wp2_with fail
      rw [← HW0.out]
      refine Calls.mono KN.out ?_
      rintro e w1 ⟨rfl, b1⟩
      go_wp2
      go_ret
      exact ⟨rfl, below2 KB0.out b1⟩
    · rw [decide_eq_false (fun h => e2 h.2), Bool.false_and]
      have e2' : (bf == f0) = false := by simp [e2]
      subst e1
      go_enter Tryz.func40, Tryz.ntmps40
      go_wp2
      rw [← HW0.out]
      go_ret
      exact ⟨rfl, KB0.out⟩
  · rw [decide_eq_false (fun h => e1 h.1), Bool.false_and]
    have e1' : (bi == i0) = false := by simp [e1]
    go_enter Tryz.func40, Tryz.ntmps40
    go_wp2
    rw [← HW0.out]
    go_ret
    exact ⟨rfl, KB0.out⟩
/-- What is asked of a net. -/
def NtP (f : Int) (n : Nat) (N : Nat → Nd) (zs : List Int) (m : Nat) : Prop := (1 ≤ f ∧ f ≤ 3) ∧ (n : Int) = 3 * f + 1 ∧ (zs.length : Int) ≤ f ∧ numB f zs = true ∧ m ≤ 3000 ∧ ∀ i, i < n → (N i).i = (i : Int) ∧ (N i).f = f ∧ NdP (N i).i (N i).f (N i).n (N i).S
noncomputable def ntB (f : Int) (n : Nat) (N : Nat → Nd) (zs : List Int) (m : Nat) : Bool := @decide (NtP f n N zs m) (Classical.propDecidable _)
theorem ntB_yes {f : Int} {n : Nat} {N : Nat → Nd} {zs : List Int} {m : Nat} (h : NtP f n N zs m) : ntB f n N zs m = true := by unfold ntB; exact @decide_eq_true _ (Classical.propDecidable _) h
theorem ntB_no {f : Int} {n : Nat} {N : Nat → Nd} {zs : List Int} {m : Nat} (h : ¬ NtP f n N zs m) : ntB f n N zs m = false := by unfold ntB; exact @decide_eq_false _ (Classical.propDecidable _) h
structure NdN (d : Nd) : Prop where
  n : d.n ≤ 1048576
  s : ∀ i, i < d.n → SlN (d.S i)
theorem seat_at {w : World} {n : Nat} {N : Nat → Nd} {f : Int} {a : Option Addr} {cap : Nat} (h : Rd w (sesD n N f) (.slice a n cap)) {k : Nat} (hk : k < n) :
    ∃ (b off : Nat) (an : Option Addr) (cn : Nat), a = some ⟨b, off, none⟩ ∧ w.rangeAt b (off + k * 5) [.int .i64 (N k).i, .int .i64 (N k).f, .slice an (N k).n cn, .int .i64 (k : Int), .int .i64 f] ∧ Rd w (slsD (N k).n (N k).S) (.slice an (N k).n cn) := by
  obtain ⟨b, off, y, ea, hy, hr⟩ := h.row hk
  have r2 : Rd w (slsD (N k).n (N k).S) (y 2) := hr 2 (by omega)
  obtain ⟨an, cn, e2⟩ := r2.shape
  rw [e2] at r2
  have g0 := hr 0 (by omega)
  have g1 := hr 1 (by omega)
  have g3 := hr 3 (by omega)
  have g4 := hr 4 (by omega)
  simp only [Rd, seD] at g0 g1 g3 g4
  refine ⟨b, off, an, cn, ea, fun j v hv => ?_, r2⟩
  have hj : j < 5 := (List.getElem?_eq_some_iff.1 hv).1
  have c := hy j hj
  rw [← Nat.add_assoc] at c
  rw [c, ← hv]
  match j, hj with
  | 0, _ => rw [g0]; rfl
  | 1, _ => rw [g1]; rfl
  | 2, _ => rw [e2]; rfl
  | 3, _ => rw [g3]; rfl
  | 4, _ => rw [g4]; rfl
set_option maxHeartbeats 8000000 in
theorem netOk_any (f : Int) (a : Option Addr) (n c : Nat) (l : Option Addr) (zs : List Int) (d : Nat) (e : Option Addr) (m g : Nat) (N : Nat → Nd) (w : World) (h1 : Rd w (ndsD n N) (.slice a n c)) (h2 : IntsAt w l zs.length zs) (hn : n ≤ 1048576) (hz : zs.length ≤ 1048576) (hN : ∀ i, i < n → NdN (N i)) :
    Calls Tryz.prog 18 #[.agg #[.int .i64 f, .slice a n c, .slice l zs.length d, .slice e m g]] w fun r w' => r = .returned (.bool (ntB f n N zs m)) ∧ Below w.heap.size w w' := by
  obtain ⟨A, HA⟩ : ∃ x, Hid (x = w.heap.size) := ⟨_, rfl⟩
  obtain ⟨w0, HW0⟩ : ∃ x, Hid (x = w.alloc (.cells #[.int .i64 f, .slice a n c, .slice l zs.length d, .slice e m g] 36)) := ⟨_, rfl⟩
  have RA : Hid (Row w0 A 36 #[.int .i64 f, .slice a n c, .slice l zs.length d, .slice e m g]) := by show Row _ _ _ _; rw [HW0.out, HA.out]; exact Row.new w _ _
  have hb0 : Below w.heap.size w w0 := by rw [HW0.out]; exact (Below.refl _ _).alloc (Nat.le_refl _) _
  have KB0 : Hid (Below w.heap.size w w0) := hb0
  have KH : Hid (Rd w0 (ndsD n N) (.slice a n c)) := h1.below hb0
  have KNN : Hid (∀ i, i < n → NdN (N i)) := hN
  have x0 := RA.out.cell 0
  have x1 := RA.out.cell 1
  have x2 := RA.out.cell 2
  have x3 := RA.out.cell 3
  simp at x0 x1 x2 x3
  have X0 : ∀ d os, (grow (redrawn w0 d) os).cell? ⟨A, 0, none⟩ = _ := fun d os => cell_regrown x0 d os
  have X1 : ∀ d os, (grow (redrawn w0 d) os).cell? ⟨A, 1, none⟩ = _ := fun d os => cell_regrown x1 d os
  have X2 : ∀ d os, (grow (redrawn w0 d) os).cell? ⟨A, 2, none⟩ = _ := fun d os => cell_regrown x2 d os
  have X3 : ∀ d os, (grow (redrawn w0 d) os).cell? ⟨A, 3, none⟩ = _ := fun d os => cell_regrown x3 d os
  have N1 : ∀ d os, Calls Tryz.prog 36 #[.int .i64 f] (grow (redrawn w0 d) os) fun e w' => e = .returned (.bool (fB f)) ∧ ∃ p : Regrown, w' = grow (redrawn w0 p.d) p.os := fun d os => Calls.regrown_of ((isF_any f _).mono fun e w' h => ⟨h.1, by rw [h.2]; exact Below.refl _ _⟩)
  by_cases hf : 1 ≤ f ∧ f ≤ 3
  case neg =>
    have e1 : fB f = false := decide_eq_false hf
    rw [e1] at N1
    have N2 := N1
    have N3 := N1
    rw [ntB_no (fun h => hf h.1)]
    go_enter Tryz.func18, Tryz.ntmps18
    go_wp2_with fail
    rw [← HW0.out, ← HA.out]
    refine wp_region_quiet_below (by kernel_rfl) (by kernel_rfl) ?_
    repeat (go_big_quiet_step (first | (with_reducible exact N1 _ _) | (with_reducible exact N2 _ _) | (with_reducible exact N3 _ _)))
    refine wpQuiet_nil ?_
    intro _ hw'
    obtain ⟨⟨dq, osq⟩, hw''⟩ := hw'
    subst hw''
    go_wp2
    go_ret
    exact ⟨rfl, below2 KB0.out (below_regrown w0 dq osq)⟩
  have e1 : fB f = true := decide_eq_true hf
  rw [e1] at N1
  obtain ⟨q, HQ⟩ : ∃ q : Int, Hid (3 * f + 1 = q) := ⟨_, rfl⟩
  have N2 : ∀ d os, Calls Tryz.prog 37 #[.int .i64 f] (grow (redrawn w0 d) os) fun e w' => e = .returned (.int .i64 q) ∧ ∃ p : Regrown, w' = grow (redrawn w0 p.d) p.os := fun d os => Calls.regrown_of ((nodeCount_any f _ hf).mono fun e w' h => ⟨by rw [h.1, HQ.out], by rw [h.2]; exact Below.refl _ _⟩)
  obtain ⟨b, HBL⟩ : ∃ x, Hid (liB f zs = x) := ⟨_, rfl⟩
  have N3 : ∀ d' os, Calls Tryz.prog 38 #[.slice l zs.length d, .int .i64 f] (grow (redrawn w0 d') os) fun e w' => e = .returned (.bool b) ∧ ∃ p : Regrown, w' = grow (redrawn w0 p.d) p.os := fun d' os => Calls.regrown_of (by have := areLiars_any f l d zs (grow (redrawn w0 d') os) ((h2.below hb0).below (below_regrown w0 d' os)) hf hz; rw [HBL.out] at this; exact this)
  have HF : Hid (1 ≤ f ∧ f ≤ 3) := hf
  clear hf e1 h1 h2 hN hb0
  by_cases hq : (n : Int) = q
  case neg =>
    have hq' : ((n : Int) != q) = true := by simp [hq]
    rw [ntB_no (fun h => hq (h.2.1.trans HQ.out))]
    go_enter Tryz.func18, Tryz.ntmps18
    go_wp2_with fail
    rw [← HW0.out, ← HA.out]
    refine wp_region_quiet_below (by kernel_rfl) (by kernel_rfl) ?_
    repeat (go_big_quiet_step (first | (with_reducible exact N1 _ _) | (with_reducible exact N2 _ _) | (with_reducible exact N3 _ _)))
    refine wpQuiet_nil ?_
    intro _ hw'
    obtain ⟨⟨dq, osq⟩, hw''⟩ := hw'
    subst hw''
    go_wp2
    go_ret
    exact ⟨rfl, below2 KB0.out (below_regrown w0 dq osq)⟩
  have hq' : ((n : Int) != q) = false := by simp [hq]
  cases b with
  | false =>
    rw [ntB_no (fun h => by have := HBL.out; unfold liB at this; rw [decide_eq_true h.2.2.1, h.2.2.2.1] at this; cases this)]
    go_enter Tryz.func18, Tryz.ntmps18
    go_wp2_with fail
    rw [← HW0.out, ← HA.out]
    refine wp_region_quiet_below (by kernel_rfl) (by kernel_rfl) ?_
    repeat (go_big_quiet_step (first | (with_reducible exact N1 _ _) | (with_reducible exact N2 _ _) | (with_reducible exact N3 _ _)))
    refine wpQuiet_nil ?_
    intro _ hw'
    obtain ⟨⟨dq, osq⟩, hw''⟩ := hw'
    subst hw''
    go_wp2
    go_ret
    exact ⟨rfl, below2 KB0.out (below_regrown w0 dq osq)⟩
  | true =>
  have HLB : Hid ((zs.length : Int) ≤ f ∧ numB f zs = true) := by
    have := HBL.out
    unfold liB at this
    rw [Bool.and_eq_true, decide_eq_true_eq] at this
    exact this
  by_cases hm : m ≤ 3000
  case neg =>
    have hm' : decide ((3000 : Int) < (m : Int)) = true := decide_eq_true (by omega)
    have hm2 : (m : Int) > 3000 := by omega
    rw [ntB_no (fun h => hm h.2.2.2.2.1)]
    go_enter Tryz.func18, Tryz.ntmps18
    go_wp2_with fail
    rw [← HW0.out, ← HA.out]
    refine wp_region_quiet_below (by kernel_rfl) (by kernel_rfl) ?_
    repeat (go_big_quiet_step (first | (with_reducible exact N1 _ _) | (with_reducible exact N2 _ _) | (with_reducible exact N3 _ _)))
    refine wpQuiet_nil ?_
    intro _ hw'
    obtain ⟨⟨dq, osq⟩, hw''⟩ := hw'
    subst hw''
    go_wp2
    go_ret
    exact ⟨rfl, below2 KB0.out (below_regrown w0 dq osq)⟩
  have hm' : decide ((3000 : Int) < (m : Int)) = false := decide_eq_false (by omega)
  have hm2 : ¬ (m : Int) > 3000 := by omega
  have HNQ : Hid ((n : Int) = 3 * f + 1) := hq.trans HQ.out.symm
  go_enter Tryz.func18, Tryz.ntmps18
  go_wp2_with fail
  rw [← HW0.out, ← HA.out]
  refine wp_region_quiet_below (by kernel_rfl) (by kernel_rfl) ?_
  repeat (go_big_quiet_step (first | (with_reducible exact N1 _ _) | (with_reducible exact N2 _ _) | (with_reducible exact N3 _ _)))
  refine wpQuiet_nil ?_
  intro _ hw'
  obtain ⟨⟨dq, osq⟩, hw''⟩ := hw'
  subst hw''
  have KB1 : Hid (Below w0.heap.size w0 (grow (redrawn w0 dq) osq)) := below_regrown w0 dq osq
  generalize grow (redrawn w0 dq) osq = w1 at *
  clear X0 X1 X2 X3 N1 N2 N3
  have HR1 : Hid (Row w1 A 36 #[.int .i64 f, .slice a n c, .slice l zs.length d, .slice e m g]) := RA.out.below KB1.out RA.out.lt
  have KS1 : Hid _ := seats_any f a n c (.slice l zs.length d) (.slice e m g) N w1 (KH.out.below KB1.out) hn
  go_wp2_with (refine wpList_load_row (by rfl) 36 _ (by rfl) A (by rfl) 36 #[.int .i64 f, .slice a n c, .slice l zs.length d, .slice e m g] (0, 0) _ ?_ Tryz.underlying36 (by rfl) Tryz.infoNt ?_; exact HR1.out)
  refine Calls.mono KS1.out ?_
  rintro e' w2 ⟨gs, rfl, RS, b2⟩
  have KR : Hid (Rd w2 (sesD n N f) (.slice (some ⟨gs, 0, none⟩) n n)) := RS
  have KB2 : Hid (Below w.heap.size w w2) := below2 KB0.out (below2 KB1.out b2)
  clear RS b2 x0 x1 x2 x3 KS1 HR1
  go_wp2_with fail
  go_loopw [35] (fun vi wr => ∃ k : Nat, k ≤ n ∧ vi = .int .i64 (k : Int) ∧ Hid (∀ i, i < k → (N i).i = (i : Int) ∧ (N i).f = f ∧ NdP (N i).i (N i).f (N i).n (N i).S) ∧ Below w2.heap.size w2 wr) (fun vi _ => n - (intOf vi).toNat)
  case atStart => exact ⟨0, Nat.zero_le _, rfl, fun i hi => absurd hi (Nat.not_lt_zero _), Below.refl _ _⟩
  case round =>
    obtain ⟨k, hk, rfl, HP, hbel⟩ := hrel
    by_cases hlt : k < n
    case neg =>
      obtain rfl : k = n := by omega
      have HY : Hid (ntB f k N zs m = true) := ntB_yes ⟨HF.out, HNQ.out, HLB.out.1, HLB.out.2, hm, HP.out⟩
      go_wp2
      go_ret
      exact ⟨ret_bool HY.out.symm, below2 KB2.out hbel⟩
    have hki : (k : Int) < (n : Int) := by omega
    obtain ⟨b1, f1, an, cn, ea, R1', hr1⟩ := seat_at (KR.out.below hbel) hlt
    cases ea
    have R1 : Hid (wr.rangeAt gs (0 + k * 5) [.int .i64 (N k).i, .int .i64 (N k).f, .slice an (N k).n cn, .int .i64 (k : Int), .int .i64 f]) := R1'
    rw [Nat.zero_add] at R1
    obtain ⟨w3, HW3⟩ : ∃ x, Hid (x = wr.alloc (.cells #[.int .i64 (N k).i, .int .i64 (N k).f, .slice an (N k).n cn, .int .i64 (k : Int), .int .i64 f] 84)) := ⟨_, rfl⟩
    have b3 : Below wr.heap.size wr w3 := by rw [HW3.out]; exact (Below.refl _ _).alloc (Nat.le_refl _) _
    have KIR : Hid _ := isRight_any (N k).i (N k).f (k : Int) f an (N k).n cn (N k).S w3 (hr1.below b3) (KNN.out k hlt).n (KNN.out k hlt).s
    have KB3 : Hid (Below w2.heap.size w2 w3) := below2 hbel b3
    obtain ⟨ans, HAN⟩ : ∃ x, Hid ((decide ((k : Int) = (N k).i ∧ f = (N k).f) && ndB (N k).i (N k).f (N k).n (N k).S) = x) := ⟨_, rfl⟩
    rw [HAN.out] at KIR
    clear R1' hr1 b3 hbel
    go_wp2_with (refine wpList_load_mid (by rfl) 84 _ (by rfl) gs (k * 5) (by rfl) [.int .i64 (N k).i, .int .i64 (N k).f, .slice an (N k).n cn, .int .i64 (k : Int), .int .i64 f] _ ?_ Tryz.underlying84 (by rfl) Tryz.infoSe ?_; exact R1.out)
    rw [← HW3.out]
    refine Calls.mono KIR.out ?_
    rintro e' w4 ⟨rfl, b4⟩
    have KB4 : Hid (Below w2.heap.size w2 w4) := below2 KB3.out b4
    clear b4 R1 KIR
    cases ans with
    | false =>
      have HN : Hid (ntB f n N zs m = false) := ntB_no fun h => by
        have hh := h.2.2.2.2.2 k hlt
        have := HAN.out
        rw [decide_eq_true ⟨hh.1.symm, hh.2.1.symm⟩, ndB_yes hh.2.2] at this
        cases this
      go_wp2
      go_ret
      exact ⟨ret_bool HN.out.symm, below2 KB2.out KB4.out⟩
    | true =>
      have HP2 : Hid (∀ i, i < k + 1 → (N i).i = (i : Int) ∧ (N i).f = f ∧ NdP (N i).i (N i).f (N i).n (N i).S) := fun i hi => by
        by_cases ei : i = k
        · subst ei
          have := HAN.out
          rw [Bool.and_eq_true, decide_eq_true_eq] at this
          refine ⟨this.1.1.symm, this.1.2.symm, ?_⟩
          exact Classical.byContradiction fun hc => by rw [ndB_no hc] at this; cases this.2
        · exact HP.out i (by omega)
      go_wp2
      go_roundw
      case rel => exact ⟨k + 1, by omega, by go_num, HP2, KB4.out⟩
      case measure => simp [intOf]; omega
end Go.Proofs.YtpomffkpjldloaaGreat
