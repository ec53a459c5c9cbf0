/- Lists of numbers, copied: slices.Clone, and the model's way. Condition: at most 2^20 numbers. -/
import Derived.Test.YtgiegoamcfjfmaaGreatJ31
import Derived.Test.YtgiegoamcfjfmaaGreatJ8
import Derived.Test.YtgiegoamcfjfmaaGreatJ19
import Derived.Deep.CutRange
namespace Go.Proofs.YtgiegoamcfjfmaaGreat
set_option maxRecDepth 2000
open Go.ChangeShapes Go.WideShapes Go.ChangeAt Go.RowKit

/-- The cells of a list that is read, as append asks for them. -/
theorem ints_news {w : World} {b off n : Nat} {zs : List Int} (h : IntsAt w (some ⟨b, off, none⟩) n zs) : ∀ (j : Nat) (u : Value), (zs.map (Value.int .i64))[j]? = some u → w.cell? ((⟨b, off, none⟩ : Addr).add j) = some u := fun j u hu => by
  have hj : j < zs.length := by
    have := (List.getElem?_eq_some_iff.1 hu).1
    simpa using this
  obtain ⟨b', off', e, hc⟩ := h.2 j (by rw [← h.1]; exact hj)
  cases e
  have ea : (⟨b, off, none⟩ : Addr).add j = ⟨b, off + j, none⟩ := by unfold Addr.add; split <;> simp_all
  rw [ea, hc, ← hu]
  simp [hj]
theorem ints_spot {w : World} {a : Addr} {n : Nat} {zs : List Int} (h : IntsAt w (some a) n zs) (hn : 0 < n) : a = ⟨a.block, a.off, none⟩ := by
  obtain ⟨b, off, e, _⟩ := h.2 0 hn
  cases e
  rfl
theorem slice_none (n c : Nat) (w : World) : Sem.run Tryz.prog (binOp BinOp.eql 60 (.slice none n c) (.slice none 0 0)) w = .ok (.bool true) w := by rfl
theorem slice_some (x : Addr) (n c : Nat) (w : World) : Sem.run Tryz.prog (binOp BinOp.eql 60 (.slice (some x) n c) (.slice none 0 0)) w = .ok (.bool false) w := by rfl
set_option maxHeartbeats 1000000 in
theorem cloneI_any (a : Option Addr) (cap : Nat) (zs : List Int) (w : World) (h : IntsAt w a zs.length zs) (hn : zs.length ≤ 1048576) :
    Calls Tryz.prog 126 #[.slice a zs.length cap] w fun e w' => ∃ a' c', e = .returned (.slice a' zs.length c') ∧ Ow w' w.heap.size (inD zs) (.slice a' zs.length c') (rng w.heap.size w'.heap.size) ∧ Below w.heap.size w w' := by
  obtain ⟨i0, hi, hz0, hz1, hz2⟩ : ∃ i0, Tryz.prog.info? 3 = some i0 ∧ i0.zero = some (.int .i64 0) ∧ i0.size = 1 ∧ i0.bytes = 8 := ⟨_, rfl, rfl, rfl, rfl⟩
  obtain ⟨n, HN⟩ : ∃ x, Hid (zs.length = x) := ⟨_, rfl⟩
  rw [HN.out] at h hn ⊢
  match a, h with
  | none, h =>
    have e0 : n = 0 := by
      by_cases h0 : n = 0
      · exact h0
      · obtain ⟨b, off, e, _⟩ := h.2 0 (by omega)
        cases e
    subst e0
    have ez : zs = [] := List.length_eq_zero_iff.1 HN.out
    subst ez
    have hsn := slice_none
    go_enter Tryz.func126, Tryz.ntmps126
    go_wp2
    go_ret
    exact ⟨none, 0, rfl, ow_ints (zs := []) (World.ownsRow_nil _ _ _ _) (fun x e => by cases e), Below.refl _ _⟩
  | some ad, h =>
    obtain ⟨b, off, sp⟩ := ad
    have HNW : Hid (∀ (j : Nat) (u : Value), (zs.map (Value.int .i64))[j]? = some u → w.cell? ((⟨b, off, sp⟩ : Addr).add j) = some u) := fun j u hu => by
      have hj : 0 < n := by
        have := (List.getElem?_eq_some_iff.1 hu).1
        have := HN.out
        simp at *
        omega
      have e := ints_spot h hj
      simp at e
      subst e
      exact ints_news h j u hu
    have HLL : Hid ((zs.map (Value.int .i64)).length = n * 1) := by show _ = _; simp [HN.out]
    have HO : Hid ((w.alloc (.cells #[] 3)).ownsRow w.heap.size 3 1 (.slice (some ⟨w.heap.size, 0, none⟩) 0 0) 0 []) := by
      have := World.ownsRow_lit (e := 3) (size := 1) (base := w.heap.size) w #[] 0 (by simp) (by unfold maxLen; omega) (by simp)
      exact this
    have HNA : Hid (∀ (j : Nat) (u : Value), (zs.map (Value.int .i64))[j]? = some u → (w.alloc (.cells #[] 3)).cell? ((⟨b, off, sp⟩ : Addr).add j) = some u) := fun j u hu => by
      have := HNW.out j u hu
      rw [((Below.refl w.heap.size w).alloc (Nat.le_refl _) _).cell (block_lt_of_cell this)]
      exact this
    have HB0 : Hid (Below w.heap.size w (w.alloc (.cells #[] 3))) := (Below.refl _ _).alloc (Nat.le_refl _) _
    clear h
    have hss := slice_some
    go_enter Tryz.func126, Tryz.ntmps126
    go_wp2_with (at_builtin; refine wpList_append_all _ (by rfl) _ _ 60 (by rfl) w.heap.size 3 i0 (.int .i64 0) 1 8 Tryz.underlying60 hi hz0 hz1 hz2 rfl (by decide) w.heap.size 0 0 [] (by rfl) ?_ ⟨b, off, sp⟩ n cap (zs.map (Value.int .i64)) (by rfl) ?_ ?_ (by simp [Value.oneCell']) (by unfold maxLen; omega) (by omega) (by simp) ?_; exact HO.out; exact HLL.out; exact HNA.out; intro g3 cap3 w3 hown3 hgrow3)
    have HB3 : Hid (Below w.heap.size w w3) := HB0.out.grown hgrow3 (by simp) (fun x hx => by cases hx; exact Nat.le_refl _)
    have HO3 : Hid (w3.ownsRow w.heap.size 3 1 (.slice (some ⟨g3, 0, none⟩) zs.length cap3) zs.length (zs.map (Value.int .i64))) := by
      show World.ownsRow _ _ _ _ _ _ _
      rw [HN.out]
      simpa using hown3
    have lg := World.ownsRow.lt HO3.out g3 rfl
    clear hown3 hgrow3
    go_wp2
    go_ret
    refine ⟨some ⟨g3, 0, none⟩, cap3, by simp, ?_, HB3.out⟩
    have := ow_ints HO3.out (F := rng w.heap.size w3.heap.size) (fun x e => by cases e; exact lg)
    rw [HN.out] at this
    exact this
end Go.Proofs.YtgiegoamcfjfmaaGreat
/- A piece, copied, in the program and in the model. Conditions: texts and lists of at most 2^20. Written by a program. -/
namespace Go.Proofs.YtgiegoamcfjfmaaGreat
set_option maxRecDepth 2000
open Go.ChangeShapes Go.WideShapes Go.ChangeAt Go.RowKit

set_option maxHeartbeats 4000000 in
theorem copiedP_any (r : ByteArray) (k n i : Int) (b : ByteArray) (a : Option Addr) (m c : Nat) (S : Nat → ByteArray) (w : World) (h : TxtAt w a m S) (hm : m ≤ 1048576) (hr : r.size ≤ 1048576) (hb : b.size ≤ 1048576) (hS : ∀ i, i < m → (S i).size ≤ 1048576) :
    Calls Tryz.prog 152 #[pcV r k n i b (.slice a m c)] w fun e w' => ∃ g, e = .returned (pcV r k n i b (.slice (some ⟨g, 0, none⟩) m m)) ∧ OwnT w' w.heap.size (some ⟨g, 0, none⟩) m m S ∧ Below w.heap.size w w' := by
  obtain ⟨i0, hi, hz0, hz1, hz2⟩ := info_parts Tryz.infoStr
  obtain ⟨A, HA⟩ : ∃ x, Hid (x = w.heap.size) := ⟨_, rfl⟩
  obtain ⟨D, HD⟩ : ∃ x, Hid (x = w.heap.size + 1) := ⟨_, rfl⟩
  obtain ⟨w0, HW0⟩ : ∃ x, Hid (x = (w.alloc (.cells (pcC r k n i b (.slice a m c)) 39)).alloc (.cells #[.string ⟨#[]⟩, .int .i64 0, .int .i64 0, .int .i64 0, .string ⟨#[]⟩, .slice none 0 0] 39)) := ⟨_, rfl⟩
  have RA : Hid (Row w0 A 39 (pcC r k n i b (.slice a m c))) := by show Row _ _ _ _; rw [HW0.out, HA.out]; exact Row.alloc (Row.new w _ _) _
  have RD : Hid (Row w0 D 39 #[.string ⟨#[]⟩, .int .i64 0, .int .i64 0, .int .i64 0, .string ⟨#[]⟩, .slice none 0 0]) := by
    show Row _ _ _ _
    rw [HW0.out, HD.out]
    have := Row.new (w.alloc (.cells (pcC r k n i b (.slice a m c)) 39)) #[.string ⟨#[]⟩, .int .i64 0, .int .i64 0, .int .i64 0, .string ⟨#[]⟩, .slice none 0 0] 39
    simpa using this
  have hb0 : Below w.heap.size w w0 := by rw [HW0.out]; exact ((Below.refl _ _).alloc (Nat.le_refl _) _).alloc (by simp) _
  have KB0 : Hid (Below w.heap.size w w0) := hb0
  have hAD : Hid (A ≠ D ∧ w.heap.size ≤ A ∧ w.heap.size ≤ D) := ⟨by have := HA.out; have := HD.out; omega, by have := HA.out; omega, by have := HD.out; omega⟩
  have KH : Hid (TxtAt w a m S) := h
  have KCr : Hid (∀ W, Calls Tryz.prog 91 #[.string r] W fun e w' => e = .returned (.string r) ∧ Below W.heap.size W w') := fun W => clone_any r W hr
  have KCb : Hid (∀ W, Calls Tryz.prog 91 #[.string b] W fun e w' => e = .returned (.string b) ∧ Below W.heap.size W w') := fun W => clone_any b W hb
  have KCS : Hid (∀ i, i < m → ∀ W, Calls Tryz.prog 91 #[.string (S i)] W fun e w' => e = .returned (.string (S i)) ∧ Below W.heap.size W w') := fun i hi W => clone_any (S i) W (hS i hi)
  clear h hb0 hr hb hS
  go_enter Tryz.func152, Tryz.ntmps152
  go_wp2_with fail
  rw [← HW0.out, ← HD.out, ← HA.out]
  go_cut [] from 6 to 13 (fun wx => Hid (Row wx A 39 (pcC r k n i b (.slice a m c)) ∧ Row wx D 39 #[.string ⟨#[]⟩, .int .i64 0, .int .i64 0, .int .i64 0, .string ⟨#[]⟩, .slice none 0 0] ∧ Below w.heap.size w wx))
  case first =>
    have lA := RA.out.lt
    have lD := RD.out.lt
    have q0 := RA.out.cell 0
    have q1 := RA.out.cell 1
    have q2 := RA.out.cell 2
    have q3 := RA.out.cell 3
    have q4 := RA.out.cell 4
    have q5 := RA.out.cell 5
    have f0 := RA.out.free 0
    have f4 := RA.out.free 4
    simp at q0 q1 q2 q3 q4 q5
    have KTW : Hid (∀ W, Below w0.heap.size w0 W → Row W A 39 (pcC r k n i b (.slice a m c)) ∧ Row W D 39 #[.string ⟨#[]⟩, .int .i64 0, .int .i64 0, .int .i64 0, .string ⟨#[]⟩, .slice none 0 0] ∧ Below w.heap.size w W) := fun W hW => ⟨RA.out.below hW lA, RD.out.below hW lD, below2 KB0.out hW⟩
    have KQ : Hid (∀ W, Below w0.heap.size w0 W → W.cell? ⟨A, 0, none⟩ = some (.string r) ∧ W.cell? ⟨A, 1, none⟩ = some (.int .i64 k) ∧ W.cell? ⟨A, 2, none⟩ = some (.int .i64 n) ∧ W.cell? ⟨A, 3, none⟩ = some (.int .i64 i) ∧ W.cell? ⟨A, 4, none⟩ = some (.string b) ∧ W.cell? ⟨A, 5, none⟩ = some (.slice a m c)) := fun W hW => by
      have := (KTW.out W hW).1
      have z0 := this.cell 0
      have z1 := this.cell 1
      have z2 := this.cell 2
      have z3 := this.cell 3
      have z4 := this.cell 4
      have z5 := this.cell 5
      simp at z0 z1 z2 z3 z4 z5
      exact ⟨z0, z1, z2, z3, z4, z5⟩
    have KF : Hid (∀ W, Below w0.heap.size w0 W → W.frozen? ⟨A, 0, none⟩ = false ∧ W.frozen? ⟨A, 4, none⟩ = false) := fun W hW => ⟨(KTW.out W hW).1.free 0, (KTW.out W hW).1.free 4⟩
    go_region_held3 (fun w' => w'.cell? ⟨A, 0, none⟩ = some (.string r) ∧ w'.cell? ⟨A, 1, none⟩ = some (.int .i64 k) ∧ w'.cell? ⟨A, 2, none⟩ = some (.int .i64 n) ∧ w'.cell? ⟨A, 3, none⟩ = some (.int .i64 i) ∧ w'.cell? ⟨A, 4, none⟩ = some (.string b) ∧ w'.cell? ⟨A, 5, none⟩ = some (.slice a m c)) (go_keep) ((first | (guard_hyp d1; go_at_call 91; refine Calls.mono (KCb.out _) ?_; rintro e w8 ⟨rfl, b8⟩; have b08 := below2 b07 b8; obtain ⟨t0, t1, t2, t3, t4, t5⟩ := KQ.out _ b08; have g0 := (KF.out _ b08).1; have g4 := (KF.out _ b08).2; have RB8 := (KTW.out _ b08).1.set 0 (.string r); have RC8 := RB8.set 4 (.string b); have s0 := RB8.cell 0; have v0 := RC8.cell 0; have s1 := RB8.cell 1; have v1 := RC8.cell 1; have s2 := RB8.cell 2; have v2 := RC8.cell 2; have s3 := RB8.cell 3; have v3 := RC8.cell 3; have s4 := RB8.cell 4; have v4 := RC8.cell 4; have s5 := RB8.cell 5; have v5 := RC8.cell 5; simp at s0 v0 s1 v1 s2 v2 s3 v3 s4 v4 s5 v5; clear RB8 RC8) | (go_at_call 91; refine Calls.mono (KCr.out _) ?_; rintro e w7 ⟨rfl, b7'⟩; have b07 := below_of_drew b7'; clear b7'; have d1 : Hid True := trivial; obtain ⟨p0, p1, p2, p3, p4, p5⟩ := KQ.out _ b07)))
    all_goals
      obtain ⟨RA8, RD8, B8⟩ := KTW.out _ b08
      go_wp2_with fail
      go_meet
      exact ⟨(RA8.set 0 _).set 4 _, (RD8.other 0 _ (Ne.symm hAD.out.1)).other 4 _ (Ne.symm hAD.out.1), (B8.setCell hAD.out.2.1 _).setCell hAD.out.2.1 _⟩
  obtain ⟨RAc, RDc, Bc⟩ := hcut.out
  clear hcut RA RD KB0 HW0 KCr KCb
  have RA : Hid (Row wc A 39 (pcC r k n i b (.slice a m c))) := RAc
  have RD : Hid (Row wc D 39 #[.string ⟨#[]⟩, .int .i64 0, .int .i64 0, .int .i64 0, .string ⟨#[]⟩, .slice none 0 0]) := RDc
  have KBc : Hid (Below w.heap.size w wc) := Bc
  have x5 := RAc.cell 5
  simp at x5
  obtain ⟨g, HG⟩ : ∃ x, Hid (x = wc.heap.size) := ⟨_, rfl⟩
  clear RAc RDc Bc
  go_wp2_with (at_make; refine wpList_make_full _ rfl _ _ 25 rfl wc.heap.size 9 i0 (.string ByteArray.empty) 1 Tryz.underlying25 hi hz0 hz1 .i64 .i64 _ _ m rfl rfl rfl rfl (by rw [hz2]; omega) (by unfold maxLen; omega) (Nat.le_refl _) ?_; intro w1 hown hgrow; have ho1 : OwnT w1 wc.heap.size (some ⟨wc.heap.size, 0, none⟩) m m (fun i => if i < 0 then S i else ByteArray.empty) := (by have e : sL (fun i => if i < 0 then S i else ByteArray.empty) m = List.replicate m (Value.string ByteArray.empty) := (by rw [← sL_empty]; exact sL_congr (fun i _ => by simp)); unfold OwnT; rw [e]; simpa [Value.cells, toList_madeCells_one] using hown); have hb1 : Below wc.heap.size wc w1 := (Below.refl _ _).grown hgrow (Nat.le_refl _) (by simp); have y5 := (hb1.cell (p := ⟨A, 5, none⟩) RA.out.lt).trans x5)
  rw [← HG.out] at ho1
  rw [← HG.out]
  clear hown hgrow
  go_loopw [21] (fun vi wr => ∃ q : Nat, q ≤ m ∧ vi = .int .i64 (q : Int) ∧ Hid (OwnT wr g (some ⟨g, 0, none⟩) m m (fun i => if i < q then S i else ByteArray.empty)) ∧ Below wc.heap.size wc wr) (fun vi _ => m - (intOf vi).toNat)
  case atStart => exact ⟨0, Nat.zero_le _, rfl, ho1, hb1⟩
  case round =>
    obtain ⟨q, hq, rfl, hown, hbel⟩ := hrel
    clear ho1 hb1 y5 x5
    by_cases hlt : q < m
    · obtain ⟨b', off', rfl, hc⟩ := (KH.out.below KBc.out).below hbel q hlt
      have hlti : (q : Int) < (m : Int) := by omega
      have KC1 : Hid _ := KCS.out q hlt
      obtain ⟨s, HS⟩ : ∃ x, Hid (S q = x) := ⟨_, rfl⟩
      rw [HS.out] at hc KC1
      have KB1 : Hid (Below wc.heap.size wc wr) := hbel
      clear hbel
      go_wp2_with fail
      refine Calls.mono (KC1.out _) ?_
      rintro e w2 ⟨rfl, b2⟩
      have hown2 : OwnT w2 g (some ⟨g, 0, none⟩) m m (fun i => if i < q then S i else ByteArray.empty) := hown.out.below b2
      obtain ⟨old, hold⟩ : ∃ v, w2.cell? ⟨g, q, none⟩ = some v := by
        rw [World.ownsRow.cellAt hown2 q (by omega)]
        exact ⟨_, sL_get _ _ _ hlt⟩
      have hfr := World.ownsRow.frozenAt hown2 q
      have hst := World.ownsRow.stored hown2 q (.string s)
      rw [sL_set _ _ _ _ hlt] at hst
      have HO : Hid (OwnT (w2.setCell ⟨g, q, none⟩ (.string s)) g (some ⟨g, 0, none⟩) m m (fun i => if i < q + 1 then S i else ByteArray.empty)) := OwnT.congr hst.1 (fun i _ => by
        by_cases e : i = q
        · simp [e, HS.out]
        · by_cases e2 : i < q
          · simp [e, e2, show i < q + 1 by omega]
          · simp [e, e2, show ¬ i < q + 1 by omega])
      have hne : Below wc.heap.size wc (w2.setCell ⟨g, q, none⟩ (.string s)) := (below2 KB1.out b2).setCell (by rw [HG.out]; exact Nat.le_refl _) _
      have KNE : Hid _ := hne
      clear hst hown2 hown b2 hne hc
      go_wp2
      go_roundw
      case rel => exact ⟨q + 1, by omega, by go_num, HO, KNE.out⟩
      case measure => simp [intOf]; omega
    · obtain rfl : q = m := by omega
      have HO : OwnT wr g (some ⟨g, 0, none⟩) q q S := hown.out.congr (fun i hi => if_pos hi)
      have RAr := RA.out.below hbel RA.out.lt
      have RDr := RD.out.below hbel RD.out.lt
      have hgA : A < g ∧ D < g := by rw [HG.out]; exact ⟨RA.out.lt, RD.out.lt⟩
      have HR3 : Hid (Row (((((((wr.setCell ⟨A, 5, none⟩ (.slice (some ⟨g, 0, none⟩) q q)).setCell ⟨D, 0, none⟩ (.string r)).setCell ⟨D, 1, none⟩ (.int .i64 k)).setCell ⟨D, 2, none⟩ (.int .i64 n)).setCell ⟨D, 3, none⟩ (.int .i64 i)).setCell ⟨D, 4, none⟩ (.string b)).setCell ⟨D, 5, none⟩ (.slice (some ⟨g, 0, none⟩) q q)) D 39 (pcC r k n i b (.slice (some ⟨g, 0, none⟩) q q))) := ((((((RDr.other 5 _ (Ne.symm hAD.out.1)).set 0 _).set 1 _).set 2 _).set 3 _).set 4 _).set 5 _
      have HO3 : Hid (OwnT (((((((wr.setCell ⟨A, 5, none⟩ (.slice (some ⟨g, 0, none⟩) q q)).setCell ⟨D, 0, none⟩ (.string r)).setCell ⟨D, 1, none⟩ (.int .i64 k)).setCell ⟨D, 2, none⟩ (.int .i64 n)).setCell ⟨D, 3, none⟩ (.int .i64 i)).setCell ⟨D, 4, none⟩ (.string b)).setCell ⟨D, 5, none⟩ (.slice (some ⟨g, 0, none⟩) q q)) w.heap.size (some ⟨g, 0, none⟩) q q S) := OwnT.base ((((((((HO.setFar hgA.1).setFar hgA.2).setFar hgA.2).setFar hgA.2).setFar hgA.2).setFar hgA.2).setFar hgA.2)) (by rw [HG.out]; exact KBc.out.size)
      have HB3 : Hid (Below w.heap.size w (((((((wr.setCell ⟨A, 5, none⟩ (.slice (some ⟨g, 0, none⟩) q q)).setCell ⟨D, 0, none⟩ (.string r)).setCell ⟨D, 1, none⟩ (.int .i64 k)).setCell ⟨D, 2, none⟩ (.int .i64 n)).setCell ⟨D, 3, none⟩ (.int .i64 i)).setCell ⟨D, 4, none⟩ (.string b)).setCell ⟨D, 5, none⟩ (.slice (some ⟨g, 0, none⟩) q q))) := (((((((below2 KBc.out hbel).setCell hAD.out.2.1 _).setCell hAD.out.2.2 _).setCell hAD.out.2.2 _).setCell hAD.out.2.2 _).setCell hAD.out.2.2 _).setCell hAD.out.2.2 _).setCell hAD.out.2.2 _
      have x0 := RAr.cell 0
      have x1 := RAr.cell 1
      have x2 := RAr.cell 2
      have x3 := RAr.cell 3
      have x4 := RAr.cell 4
      have x5 := RAr.cell 5
      have y0 := RDr.cell 0
      have y1 := RDr.cell 1
      have y2 := RDr.cell 2
      have y3 := RDr.cell 3
      have y4 := RDr.cell 4
      have y5 := RDr.cell 5
      have fA := RAr.free 5
      have f0 := RDr.free 0
      have f1 := RDr.free 1
      have f2 := RDr.free 2
      have f3 := RDr.free 3
      have f4 := RDr.free 4
      have f5 := RDr.free 5
      simp at x0 x1 x2 x3 x4 x5 y0 y1 y2 y3 y4 y5
      have hDA : ¬ D = A := fun e => hAD.out.1 e.symm
      have hAD' : ¬ A = D := hAD.out.1
      clear RAr RDr HO hbel hown
      go_wp2
      refine bodyPost_ret (v := pcV r k n i b (.slice (some ⟨g, 0, none⟩) q q)) (by
        have p0 := HR3.out.cell 0
        have p1 := HR3.out.cell 1
        have p2 := HR3.out.cell 2
        have p3 := HR3.out.cell 3
        have p4 := HR3.out.cell 4
        have p5 := HR3.out.cell 5
        simp at p0 p1 p2 p3 p4 p5
        simp [results, Tryz.results152, go_sem, p0, p1, p2, p3, p4, p5]) rfl ⟨g, rfl, HO3.out, HB3.out⟩
end Go.Proofs.YtgiegoamcfjfmaaGreat
