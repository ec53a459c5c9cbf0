import Derived.Test.YtodnodekheaacaaGreatDoorI30
import Derived.Test.YtodnodekheaacaaGreatDoorI28
set_option maxHeartbeats 8000000
set_option maxRecDepth 2000
open Go.ChangeShapes Go.WideShapes Go.ChangeAt Go.RowKit
namespace Go.Proofs.YtodnodekheaacaaGreatDoor
theorem catchM_panicking (p : Addr) (old : Value) (c : Int) (older : List PanicEntry) (w : World) (h : ErrT w) (hc : w.cell? p = some old) (hz : w.frozen? p = false) :
  CallsD Tryz.prog 37 #[.pointer (some p)] (.panicking ({ v := .iface 91 (.int .i64 c), recovered := false } :: older)) w fun e u' w' =>
   e = .returned (.tuple #[]) ∧ u' = .panicking ({ v := .iface 91 (.int .i64 c), recovered := true } :: older) ∧ ∃ W, Below w.heap.size w W ∧ w' = W.setCell p (.int .i64 c) := by
 refine callsD_of_wpS Tryz.func37 rfl fun c₀ cs hu => ?_
 apply wpS_region
 simp [wpOpsS, go_sem, recoverD, hu, Tryz.ntmps37]
 have lp := block_lt_of_cell hc
 refine Calls.mono (caught_fail c w h) ?_
 rintro e w' ⟨rfl, hb⟩
 have hc' := (hb.cell (p := p) lp).trans hc
 have hz' := (World.frozen?_of_block (a := p) (hb.block _ lp)).trans hz
 simp [go_sem, hc', hz', bodyPostS, results, Tryz.results37, storeCells, Addr.add]
 exact ⟨w', hb, rfl⟩
theorem catchM_idle (p : Addr) (old : Value) (w : World) (hc : w.cell? p = some old) (hz : w.frozen? p = false) :
  CallsD Tryz.prog 37 #[.pointer (some p)] .returning w fun e u' w' => e = .returned (.tuple #[]) ∧ u' = .returning ∧ w' = w.setCell p (.int .i64 0) := by
 refine callsD_of_wpS Tryz.func37 rfl fun c₀ cs hu => ?_
 apply wpS_region
 simp [wpOpsS, go_sem, recoverD, hu, Tryz.ntmps37]
 refine Calls.mono (caught_nil w) ?_
 rintro e w' ⟨rfl, rfl⟩
 simp [go_sem, hc, hz, bodyPostS, results, Tryz.results37, storeCells, Addr.add]
 cases c₀
 simp_all
abbrev pcZ : Array Value := #[.string ⟨#[]⟩, .int .i64 0, .int .i64 0, .int .i64 0, .string ⟨#[]⟩, .slice none 0 0]
def RmE (w w' : World) (root : ByteArray) (K : Nat) (Q : Nat → Pc) (idx : Int) (e : Ending) : Prop :=
 (¬ (Cm root K Q ∧ 0 ≤ idx ∧ idx < (Q 0).n) ∧ e = .returned (.tuple #[.agg pcZ, .int .i64 2])) ∨
 (Cm root K Q ∧ 0 ≤ idx ∧ idx < (Q 0).n ∧ ∃ v, e = .returned (.tuple #[pcV root (Q 0).k (Q 0).n idx (alQ K Q idx.toNat) v, .int .i64 0]) ∧ ResT w w' v (pfR (Q 0).n.toNat (lvs (Q 0).k (Q 0).n.toNat (alQ K Q)) idx) (pfF (Q 0).n.toNat (lvs (Q 0).k (Q 0).n.toNat (alQ K Q)) idx))
theorem remake_any (root : ByteArray) (a : Option Addr) (n cap : Nat) (A : Nat → Option Addr) (C : Nat → Nat) (P : Nat → Pc) (idx : Int) (w : World) (h : PiA w a n A C P) (hE : ErrT w) (hn : n ≤ 1048576) (hm : ∀ i, i < n → (P i).m ≤ 1048576) (hL : ∀ i, i < n → ∀ j, j < (P i).m → ((P i).S j).size ≤ maxLen) (hsort : SortOk P A C) :
  Calls Tryz.prog 10 #[.string root, .slice a n cap, .int .i64 idx] w fun e w' => Below w.heap.size w w' ∧ ((enB root n P = false ∧ e = .returned (.tuple #[.agg pcZ, .int .i64 1])) ∨ (enB root n P = true ∧ ∃ L : List Nat, L.Perm (gsel root P n) ∧ (∀ x y, x < y → y < L.length → (P (L.getD x 0)).i ≤ (P (L.getD y 0)).i) ∧ RmE w w' root (enK root n P).toNat (qL P L) idx e)) := by
 have hmf : ∀ (fn : Fn) (first cap : Array Value) (w : World), (Instr.makeFunc fn first cap).run Tryz.prog w = .ok (.func fn first cap) w := fun _ _ _ _ => rfl
 obtain ⟨B, HB⟩ : ∃ x, Hid (x = w.heap.size) := ⟨_, rfl⟩
 obtain ⟨w0, HW0⟩ : ∃ x, Hid (x = (w.alloc (.cells pcZ 30)).alloc (.cells #[.int .i64 0] 3)) := ⟨_, rfl⟩
 have HR0 : Row w0 B 30 pcZ := by rw [HW0.out, HB.out]; exact (Row.new w _ _).alloc _
 have c0 : w0.cell? ⟨B + 1, 0, none⟩ = some (.int .i64 0) := by rw [HW0.out, HB.out]; simp
 have f0 : w0.frozen? ⟨B + 1, 0, none⟩ = false := by rw [HW0.out, HB.out]; simp
 have b0 : Below w.heap.size w w0 := by rw [HW0.out]; exact ((Below.refl _ _).alloc (Nat.le_refl _) _).alloc (by simp) _
 have hBw : w.heap.size ≤ B := by rw [HB.out]; exact Nat.le_refl _
 have hBw1 : w.heap.size ≤ B + 1 := by omega
 have hs1 : Hid (w.heap.size + 1 = B + 1) := by show _ = _; rw [HB.out]
 have lB : B + 1 < w0.heap.size := block_lt_of_cell c0
 have KB0 : Hid (Below w.heap.size w w0) := b0
 have KE : Hid (ErrT w0) := hE.below b0
 have KEN : Hid _ := enough_any root a n cap A C P w0 (h.below b0) hn hm hL hsort
 have KD : Hid (∀ W, Below w0.heap.size w0 W → ErrT W ∧ W.cell? ⟨B + 1, 0, none⟩ = some (.int .i64 0) ∧ W.frozen? ⟨B + 1, 0, none⟩ = false ∧ Below w.heap.size w W ∧ Row W B 30 pcZ) := fun W hW => ⟨KE.out.below hW, (hW.cell (p := ⟨B + 1, 0, none⟩) lB).trans c0, (World.frozen?_of_block (a := ⟨B + 1, 0, none⟩) (hW.block _ lB)).trans f0, below2 KB0.out hW, HR0.below hW (by omega)⟩
 clear h hE hm hL hsort b0 c0 f0 HR0
 go_enter_defers Tryz.func10, Tryz.ntmps10
 go_wp2_with fail
 rw [← HW0.out, hs1.out, ← HB.out]
 refine Calls.mono KEN.out ?_
 rintro e w1 ⟨hb1, h1⟩
 rcases h1 with ⟨hen, rfl⟩ | ⟨hen, g, cc, L, rfl, hp, hso, hcc, hO⟩
 ·obtain ⟨d1, d2, d3, d4, d5⟩ := KD.out w1 hb1
  go_wp2
  refine leaves_cons (f := 37) (args := #[.pointer (some ⟨B + 1, 0, none⟩)]) (by simp) (by simp [go_sem]) ?_
  refine (catchM_panicking ⟨B + 1, 0, none⟩ _ 1 [] _ d1 d2 d3).mono ?_
  rintro e u' w'' ⟨rfl, rfl, W, hW, rfl⟩
  have z := World.cell?_setCell_same W ⟨B + 1, 0, none⟩ (.int .i64 1) ((hW.cell (p := ⟨B + 1, 0, none⟩) (block_lt_of_cell d2)).trans d2)
  have hR := d5.below hW d5.lt
  have q0 := hR.cell 0
  have q1 := hR.cell 1
  have q2 := hR.cell 2
  have q3 := hR.cell 3
  have q4 := hR.cell 4
  have q5 := hR.cell 5
  simp [pcZ] at q0 q1 q2 q3 q4 q5
  simp [Leaves, settle, results, Tryz.results10, go_sem, z, hen, q0, q1, q2, q3, q4, q5]
  exact (below2 d4 hW).setCell hBw1 _
 ·have hlen : L.length = (gsel root P n).length := hp.length_eq
  have hpart : n ≤ 64 ∧ gsel root P n ≠ [] ∧ enK root n P ≤ ((gsel root P n).length : Int) := by
   unfold enB at hen
   simp only [Bool.and_eq_true, decide_eq_true_eq] at hen
   exact ⟨hen.1.1, hen.1.2, hen.2⟩
  have hgl := gsel_len root P n
  have hg0 : 0 < (gsel root P n).length := List.length_pos_iff.2 hpart.2.1
  have hfst : (gsel root P n).getD 0 0 ∈ gsel root P n := getD_memL hg0
  have hk1 : 1 ≤ enK root n P := (pok_k (gsel_mem hfst).2.2).1
  have hL0 := (pok_k (gsel_mem (hp.mem_iff.1 (getD_memL (L := L) (j := 0) (by omega)))).2.2).2.2.2.2
  have HQb : Hid ((qL P L 0).b.size ≤ 1048576) := Nat.le_trans hL0 (by omega)
  obtain ⟨K, HK⟩ : ∃ x, Hid ((enK root n P).toNat = x) := ⟨_, rfl⟩
  have hK0 : 0 < K := by rw [← HK.out]; omega
  have hK64 : K ≤ 64 := by rw [← HK.out]; omega
  have hKL : K ≤ L.length := by rw [← HK.out]; omega
  rw [HK.out]
  obtain ⟨Q, HQ⟩ : ∃ x, Hid (qL P L = x) := ⟨_, rfl⟩
  have HCell : Hid (∀ W, Below w1.heap.size w1 W → ∀ j q, j < K → q < 6 → W.cell? ⟨g, j * 6 + q, none⟩ = some (cel (Q j) (.slice (A (L.getD j 0)) (Q j).m (C (L.getD j 0))) q)) := fun W hW j q hj hq => by
   rw [← HQ.out]
   exact OwnC.cell (OwnC.below hO hW) (by omega) hq
  have HQ0 : Hid ((Q 0).b.size ≤ 1048576) := by rw [← HQ.out]; exact HQb.out
  have HFin : Hid (∀ w' e, RmE w w' root K Q idx e → (enB root n P = false ∧ e = .returned (.tuple #[.agg pcZ, .int .i64 1])) ∨ (enB root n P = true ∧ ∃ L : List Nat, L.Perm (gsel root P n) ∧ (∀ x y, x < y → y < L.length → (P (L.getD x 0)).i ≤ (P (L.getD y 0)).i) ∧ RmE w w' root (enK root n P).toNat (qL P L) idx e)) := fun w' e he => .inr ⟨hen, L, hp, hso, by rw [HK.out, HQ.out]; exact he⟩
  have KCm : Hid _ := completed_any root g K cc Q (fun j => A (L.getD j 0)) (fun j => C (L.getD j 0)) w1 (HCell.out w1 (Below.refl _ _)) hK0 hK64 HQ0.out
  have KB1 : Hid (Below w0.heap.size w0 w1) := hb1
  clear hO hp hso hcc hb1 hlen hpart hgl hg0 hfst hk1 hL0 HQb HQ HK hen KEN
  go_wp2_with fail
  refine Calls.mono KCm.out ?_
  rintro e w2 ⟨hb2, h2⟩
  have hb12 := hb2
  have hb02 := below2 KB1.out hb2
  obtain ⟨N, HN⟩ : ∃ x, Hid ((Q 0).n.toNat = x) := ⟨_, rfl⟩
  rw [HN.out] at h2
  rcases h2 with ⟨hcm, rfl⟩ | ⟨hcm, a2, cap2, G, rfl, hO1, hO2⟩
  ·obtain ⟨d1, d2, d3, d4, d5⟩ := KD.out w2 hb02
   go_wp2
   refine leaves_cons (f := 37) (args := #[.pointer (some ⟨B + 1, 0, none⟩)]) (by simp) (by simp [go_sem]) ?_
   refine (catchM_panicking ⟨B + 1, 0, none⟩ _ 2 [] _ d1 d2 d3).mono ?_
   rintro e u' w'' ⟨rfl, rfl, W, hW, rfl⟩
   have z := World.cell?_setCell_same W ⟨B + 1, 0, none⟩ (.int .i64 2) ((hW.cell (p := ⟨B + 1, 0, none⟩) (block_lt_of_cell d2)).trans d2)
   have hf := HFin.out (W.setCell ⟨B + 1, 0, none⟩ (.int .i64 2)) _ (.inl ⟨fun h => hcm h.1, rfl⟩)
   have hR := d5.below hW d5.lt
   have q0 := hR.cell 0
   have q1 := hR.cell 1
   have q2 := hR.cell 2
   have q3 := hR.cell 3
   have q4 := hR.cell 4
   have q5 := hR.cell 5
   simp [pcZ] at q0 q1 q2 q3 q4 q5
   simp [Leaves, settle, results, Tryz.results10, go_sem, z, q0, q1, q2, q3, q4, q5]
   exact ⟨(below2 d4 hW).setCell hBw1 _, by simpa [pcZ] using hf⟩
  ·have hsp := sprOk_parts hcm.1.1
   have hnn : (N : Int) = (Q 0).n := by rw [← HN.out]; exact Int.toNat_of_nonneg (by omega)
   obtain ⟨D, HD⟩ : ∃ x, Hid (x = w2.heap.size) := ⟨_, rfl⟩
   obtain ⟨w3, HW3⟩ : ∃ x, Hid (x = w2.alloc (.cells #[.int .i64 (Q 0).k, .slice a2 N cap2, .slice (some ⟨G, 0, none⟩) N N, .string root] 53)) := ⟨_, rfl⟩
   have HR3 : Hid (Row w3 D 53 #[.int .i64 (Q 0).k, .slice a2 N cap2, .slice (some ⟨G, 0, none⟩) N N, .string root]) := by show Row _ _ _ _; rw [HW3.out, HD.out]; exact Row.new w2 _ _
   have b23 : Below w2.heap.size w2 w3 := by rw [HW3.out]; exact (Below.refl _ _).alloc (Nat.le_refl _) _
   have hb03 := below2 hb02 b23
   obtain ⟨d1, d2, d3, d4, d5⟩ := KD.out w3 hb03
   have HD5 : Hid (Row w3 B 30 pcZ) := d5
   have HCM : Hid (Cm root K Q) := hcm
   have HO1 : Hid (TxtAt w3 a2 N (alQ K Q)) := OwnT.at (hO1.below b23)
   have HO2 : Hid (TxtAt w3 (some ⟨G, 0, none⟩) N (lvs (Q 0).k N (alQ K Q))) := OwnT.at (hO2.below b23)
   by_cases hin : 0 ≤ idx ∧ idx < (N : Int)
   case neg =>
    have HFn : Hid (∀ w', _) := fun w' => HFin.out w' (.returned (.tuple #[.agg pcZ, .int .i64 2])) (.inl ⟨fun h => hin ⟨h.2.1, by omega⟩, rfl⟩)
    have KN : Hid _ := need_no 2 w3
    by_cases h0 : 0 ≤ idx
    ·have h1 : ¬ idx < (N : Int) := fun h => hin ⟨h0, h⟩
     have hd : Hid (decide (idx < (N : Int)) = false) := decide_eq_false h1
     clear hin hO1 hO2 HCell KCm hcm hb2 hb12 hb02 b23 d5 hnn
     have r1 := HR3.out.cell 1
     simp at r1
     go_wp2_with fail
     rw [← HW3.out, hd.out]
     refine Calls.mono KN.out ?_
     rintro e w' ⟨rfl, rfl⟩
     go_wp2
     refine leaves_cons (f := 37) (args := #[.pointer (some ⟨B + 1, 0, none⟩)]) (by simp) (by simp [go_sem]) ?_
     refine (catchM_panicking ⟨B + 1, 0, none⟩ _ 2 [] _ d1 d2 d3).mono ?_
     rintro e u' w'' ⟨rfl, rfl, W, hW, rfl⟩
     have z := World.cell?_setCell_same W ⟨B + 1, 0, none⟩ (.int .i64 2) ((hW.cell (p := ⟨B + 1, 0, none⟩) (block_lt_of_cell d2)).trans d2)
     have hf := HFn.out (W.setCell ⟨B + 1, 0, none⟩ (.int .i64 2))
     have hR := HD5.out.below hW HD5.out.lt
     have q0 := hR.cell 0
     have q1 := hR.cell 1
     have q2 := hR.cell 2
     have q3 := hR.cell 3
     have q4 := hR.cell 4
     have q5 := hR.cell 5
     simp [pcZ] at q0 q1 q2 q3 q4 q5
     simp [Leaves, settle, results, Tryz.results10, go_sem, z, q0, q1, q2, q3, q4, q5]
     exact ⟨(below2 d4 hW).setCell hBw1 _, by simpa [pcZ] using hf⟩
    ·clear HO1
     clear hin hO1 hO2 HCell KCm hcm hb2 hb12 hb02 b23 d5 hnn
     have r1 := HR3.out.cell 1
     simp at r1
     go_wp2_with fail
     rw [← HW3.out]
     refine Calls.mono KN.out ?_
     rintro e w' ⟨rfl, rfl⟩
     go_wp2
     refine leaves_cons (f := 37) (args := #[.pointer (some ⟨B + 1, 0, none⟩)]) (by simp) (by simp [go_sem]) ?_
     refine (catchM_panicking ⟨B + 1, 0, none⟩ _ 2 [] _ d1 d2 d3).mono ?_
     rintro e u' w'' ⟨rfl, rfl, W, hW, rfl⟩
     have z := World.cell?_setCell_same W ⟨B + 1, 0, none⟩ (.int .i64 2) ((hW.cell (p := ⟨B + 1, 0, none⟩) (block_lt_of_cell d2)).trans d2)
     have hf := HFn.out (W.setCell ⟨B + 1, 0, none⟩ (.int .i64 2))
     have hR := HD5.out.below hW HD5.out.lt
     have q0 := hR.cell 0
     have q1 := hR.cell 1
     have q2 := hR.cell 2
     have q3 := hR.cell 3
     have q4 := hR.cell 4
     have q5 := hR.cell 5
     simp [pcZ] at q0 q1 q2 q3 q4 q5
     simp [Leaves, settle, results, Tryz.results10, go_sem, z, q0, q1, q2, q3, q4, q5]
     exact ⟨(below2 d4 hW).setCell hBw1 _, by simpa [pcZ] using hf⟩
   ·obtain ⟨h0, h1⟩ := hin
    obtain ⟨i, rfl⟩ := Int.eq_ofNat_of_zero_le h0
    have hiN : i < N := by omega
    have hroot : root.size ≤ 1048576 := by
     rw [← hcm.2]
     unfold rtQ rtS
     split
     ·rename_i hlv
      have := lvB_parts hlv
      rw [Gt.rt_size (by omega) this.2.2]
      omega
     ·decide
    have KN : Hid _ := need_ok 2 w3
    have KP : Hid _ := piece_any (Q 0).k a2 N cap2 (alQ K Q) G (lvs (Q 0).k N (alQ K Q)) root i w3 HO1.out HO2.out hiN (by omega) (fun j => lvs_le _ _ _ _) hroot
    have HFy : Hid (∀ w' v, ResT w w' v (pfR N (lvs (Q 0).k N (alQ K Q)) (i : Int)) (pfF N (lvs (Q 0).k N (alQ K Q)) (i : Int)) → _) := fun w' v hv => HFin.out w' (.returned (.tuple #[pcV root (Q 0).k (N : Int) (i : Int) (alQ K Q i) v, .int .i64 0])) (.inr ⟨HCM.out, h0, by omega, v, by rw [hnn]; simp, by rw [HN.out]; exact hv⟩)
    clear hO1 hO2 HCell KCm hcm hb2 hb12 hb02 b23 d5 hnn hsp
    have r0 := HR3.out.cell 0
    have r1 := HR3.out.cell 1
    have r2 := HR3.out.cell 2
    have r3 := HR3.out.cell 3
    simp at r0 r1 r2 r3
    go_wp2_with fail
    rw [← HW3.out, ← HD.out]
    refine Calls.mono KN.out ?_
    rintro e w' ⟨rfl, rfl⟩
    go_wp2_with fail
    refine Calls.mono KP.out ?_
    rintro e w5 ⟨v5, rfl, hR5, hb5⟩
    obtain ⟨aP, cP, rfl, hO5⟩ := hR5
    have hb05 := below2 hb03 hb5
    obtain ⟨e1, e2, e3, e4, e5⟩ := KD.out w5 hb05
    have lw : B + 1 < w'.heap.size := block_lt_of_cell d2
    obtain ⟨m, HM⟩ : ∃ m, Hid (pfR N (lvs (Q 0).k N (alQ K Q)) (i : Int) = m) := ⟨_, rfl⟩
    obtain ⟨F, HF⟩ : ∃ m, Hid (pfF N (lvs (Q 0).k N (alQ K Q)) (i : Int) = m) := ⟨_, rfl⟩
    rw [HM.out, HF.out] at hO5 HFy
    rw [HM.out]
    obtain ⟨sb, HSB⟩ : ∃ m, Hid (alQ K Q i = m) := ⟨_, rfl⟩
    rw [HSB.out] at HFy
    rw [HSB.out]
    obtain ⟨w6, HW6⟩ : ∃ x, Hid (x = (((((((w5.setCell ⟨B, 0, none⟩ (.string root)).setCell ⟨B, 1, none⟩ (.int .i64 (Q 0).k)).setCell ⟨B, 2, none⟩ (.int .i64 (N : Int))).setCell ⟨B, 3, none⟩ (.int .i64 (i : Int))).setCell ⟨B, 4, none⟩ (.string sb)).setCell ⟨B, 5, none⟩ (.slice aP m cP)).setCell ⟨B + 1, 0, none⟩ (.int .i64 0))) := ⟨_, rfl⟩
    have HR6 : Hid (Row w6 B 30 (pcC root (Q 0).k (N : Int) (i : Int) sb (.slice aP m cP))) := by
     show Row _ _ _ _
     rw [HW6.out]
     exact Row.other ((((((e5.set 0 _).set 1 _).set 2 _).set 3 _).set 4 _).set 5 _) _ _ (by omega)
    have B6 : Hid (Below w.heap.size w w6) := by
     show Below _ _ _
     rw [HW6.out]
     exact Below.setCell (Below.setCell (Below.setCell (Below.setCell (Below.setCell (Below.setCell (Below.setCell e4 hBw _) hBw _) hBw _) hBw _) hBw _) hBw _) hBw1 _
    have lB1 : B < w'.heap.size := by omega
    have O6 : Hid (OwnT w6 w'.heap.size aP m cP F) := by
     show OwnT _ _ _ _ _ _
     rw [HW6.out]
     exact OwnT.setFar (OwnT.setFar (OwnT.setFar (OwnT.setFar (OwnT.setFar (OwnT.setFar (OwnT.setFar hO5 lB1) lB1) lB1) lB1) lB1) lB1) lw
    have z6 : w6.cell? ⟨B + 1, 0, none⟩ = some (.int .i64 0) := by
     rw [HW6.out]
     refine World.cell?_setCell_same (u := .int .i64 0) _ _ _ ?_
     simp [World.cell?_setCell_other, e2]
    have f6 : w6.frozen? ⟨B + 1, 0, none⟩ = false := by
     rw [HW6.out]
     simpa using e3
    have q0 := e5.cell 0
    have q1 := e5.cell 1
    have q2 := e5.cell 2
    have q3 := e5.cell 3
    have q4 := e5.cell 4
    have q5 := e5.cell 5
    have f0 := e5.free 0
    have f1 := e5.free 1
    have f2 := e5.free 2
    have f3 := e5.free 3
    have f4 := e5.free 4
    have f5 := e5.free 5
    simp [pcZ] at q0 q1 q2 q3 q4 q5
    clear r0 r1 r2 r3 hO5 d1 d2 d3 d4 hb5 e5 KP KN
    go_wp2
    rw [← HW6.out]
    refine leaves_cons (f := 37) (args := #[.pointer (some ⟨B + 1, 0, none⟩)]) (by simp) (by simp [go_sem]) ?_
    refine (catchM_idle ⟨B + 1, 0, none⟩ _ _ z6 f6).mono ?_
    rintro e u' w'' ⟨rfl, rfl, rfl⟩
    have z := World.cell?_setCell_same w6 ⟨B + 1, 0, none⟩ (.int .i64 0) z6
    have hR := Row.other HR6.out (k := B + 1) 0 (.int .i64 0) (by omega)
    have p0 := hR.cell 0
    have p1 := hR.cell 1
    have p2 := hR.cell 2
    have p3 := hR.cell 3
    have p4 := hR.cell 4
    have p5 := hR.cell 5
    simp at p0 p1 p2 p3 p4 p5
    have hf := HFy.out (w6.setCell ⟨B + 1, 0, none⟩ (.int .i64 0)) _ ⟨_, _, rfl, OwnT.base (OwnT.setFar O6.out lw) (by omega)⟩
    simp [Leaves, settle, results, Tryz.results10, go_sem, z, p0, p1, p2, p3, p4, p5]
    exact ⟨B6.out.setCell hBw1 _, by simpa using hf⟩
end Go.Proofs.YtodnodekheaacaaGreatDoor
