import Derived.Test.YtodnodekheaacaaGreatDoorG28
import Derived.Test.YtodnodekheaacaaGreatDoorG26
import Derived.Test.YtodnodekheaacaaGreatDoorG29
set_option maxHeartbeats 8000000
set_option maxRecDepth 2000
open Go.ChangeShapes Go.WideShapes Go.ChangeAt Go.RowKit
namespace Go.Proofs.YtodnodekheaacaaGreatDoor
theorem catchM_panicking (p : Addr) (old : Value) (c : Int) (older : List PanicEntry) (w : World) (h : ErrT w) (hc : w.cell? p = some old) (hz : w.frozen? p = false) :
  CallsD Tryz.prog 37 #[.pointer (some p)] (.panicking ({ v := .iface 91 (.int .i64 c), recovered := false } :: older)) w fun e u' w' =>
   e = .returned (.tuple #[]) ∧ u' = .panicking ({ v := .iface 91 (.int .i64 c), recovered := true } :: older) ∧ ∃ W, Below w.heap.size w W ∧ w' = W.setCell p (.int .i64 c) := by
 refine callsD_of_wpS Tryz.func37 rfl fun c₀ cs hu => ?_
 apply wpS_region
 simp [wpOpsS, go_sem, recoverD, hu, Tryz.ntmps37]
 have lp := block_lt_of_cell hc
 refine Calls.mono (caught_fail c w h) ?_
 rintro e w' ⟨rfl, hb⟩
 have hc' := (hb.cell (p := p) lp).trans hc
 have hz' := (World.frozen?_of_block (a := p) (hb.block _ lp)).trans hz
 simp [go_sem, hc', hz', bodyPostS, results, Tryz.results37, storeCells, Addr.add]
 exact ⟨w', hb, rfl⟩
theorem catchM_idle (p : Addr) (old : Value) (w : World) (hc : w.cell? p = some old) (hz : w.frozen? p = false) :
  CallsD Tryz.prog 37 #[.pointer (some p)] .returning w fun e u' w' => e = .returned (.tuple #[]) ∧ u' = .returning ∧ w' = w.setCell p (.int .i64 0) := by
 refine callsD_of_wpS Tryz.func37 rfl fun c₀ cs hu => ?_
 apply wpS_region
 simp [wpOpsS, go_sem, recoverD, hu, Tryz.ntmps37]
 refine Calls.mono (caught_nil w) ?_
 rintro e w' ⟨rfl, rfl⟩
 simp [go_sem, hc, hz, bodyPostS, results, Tryz.results37, storeCells, Addr.add]
 cases c₀
 simp_all
abbrev pcZ : Array Value := #[.string ⟨#[]⟩, .int .i64 0, .int .i64 0, .int .i64 0, .string ⟨#[]⟩, .slice none 0 0]
def RmE (w w' : World) (root : ByteArray) (K : Nat) (Q : Nat → Pc) (idx : Int) (e : Ending) : Prop :=
 (¬ (Cm root K Q ∧ 0 ≤ idx ∧ idx < (Q 0).n) ∧ e = .returned (.tuple #[.agg pcZ, .int .i64 2])) ∨
 (Cm root K Q ∧ 0 ≤ idx ∧ idx < (Q 0).n ∧ ∃ v, e = .returned (.tuple #[pcV root (Q 0).k (Q 0).n idx (alQ K Q idx.toNat) v, .int .i64 0]) ∧ ResT w w' v (pfR (Q 0).n.toNat (lvs (Q 0).k (Q 0).n.toNat (alQ K Q)) idx) (pfF (Q 0).n.toNat (lvs (Q 0).k (Q 0).n.toNat (alQ K Q)) idx))
theorem remake_any (root : ByteArray) (a : Option Addr) (n cap : Nat) (A : Nat → Option Addr) (C : Nat → Nat) (P : Nat → Pc) (idx : Int) (w : World) (h : PiA w a n A C P) (hE : ErrT w) (hn : n ≤ 1048576) (hm : ∀ i, i < n → (P i).m ≤ 1048576) (hL : ∀ i, i < n → ∀ j, j < (P i).m → ((P i).S j).size ≤ maxLen) (hsort : SortOk P A C) :
  Calls Tryz.prog 10 #[.string root, .slice a n cap, .int .i64 idx] w fun e w' => Below w.heap.size w w' ∧ ((enB root n P = false ∧ e = .returned (.tuple #[.agg pcZ, .int .i64 1])) ∨ (enB root n P = true ∧ ∃ L : List Nat, L.Perm (gsel root P n) ∧ (∀ x y, x < y → y < L.length → (P (L.getD x 0)).i ≤ (P (L.getD y 0)).i) ∧ RmE w w' root (enK root n P).toNat (qL P L) idx e)) := by
 have hmf : ∀ (fn : Fn) (first cap : Array Value) (w : World), (Instr.makeFunc fn first cap).run Tryz.prog w = .ok (.func fn first cap) w := fun _ _ _ _ => rfl
 obtain ⟨B, HB⟩ : ∃ x, Hid (x = w.heap.size) := ⟨_, rfl⟩
 obtain ⟨w0, HW0⟩ : ∃ x, Hid (x = (w.alloc (.cells pcZ 30)).alloc (.cells #[.int .i64 0] 3)) := ⟨_, rfl⟩
 have HR0 : Row w0 B 30 pcZ := by rw [HW0.out, HB.out]; exact (Row.new w _ _).alloc _
 have c0 : w0.cell? ⟨B + 1, 0, none⟩ = some (.int .i64 0) := by rw [HW0.out, HB.out]; simp
 have f0 : w0.frozen? ⟨B + 1, 0, none⟩ = false := by rw [HW0.out, HB.out]; simp
 have b0 : Below w.heap.size w w0 := by rw [HW0.out]; exact ((Below.refl _ _).alloc (Nat.le_refl _) _).alloc (by simp) _
 have hBw : w.heap.size ≤ B := by rw [HB.out]; exact Nat.le_refl _
 have hBw1 : w.heap.size ≤ B + 1 := by omega
 have hs1 : Hid (w.heap.size + 1 = B + 1) := by show _ = _; rw [HB.out]
 have lB : B + 1 < w0.heap.size := block_lt_of_cell c0
 have KB0 : Hid (Below w.heap.size w w0) := b0
 have KE : Hid (ErrT w0) := hE.below b0
 have KEN : Hid _ := enough_any root a n cap A C P w0 (h.below b0) hn hm hL hsort
 have KD : Hid (∀ W, Below w0.heap.size w0 W → ErrT W ∧ W.cell? ⟨B + 1, 0, none⟩ = some (.int .i64 0) ∧ W.frozen? ⟨B + 1, 0, none⟩ = false ∧ Below w.heap.size w W ∧ Row W B 30 pcZ) := fun W hW => ⟨KE.out.below hW, (hW.cell (p := ⟨B + 1, 0, none⟩) lB).trans c0, (World.frozen?_of_block (a := ⟨B + 1, 0, none⟩) (hW.block _ lB)).trans f0, below2 KB0.out hW, HR0.below hW (by omega)⟩
 clear h hE hm hL hsort b0 c0 f0 HR0
 go_enter_defers Tryz.func10, Tryz.ntmps10
 go_wp2_with fail
 rw [← HW0.out, hs1.out, ← HB.out]
 refine Calls.mono KEN.out ?_
 rintro e w1 ⟨hb1, h1⟩
 rcases h1 with ⟨hen, rfl⟩ | ⟨hen, g, cc, L, rfl, hp, hso, hcc, hO⟩
 ·obtain ⟨d1, d2, d3, d4, d5⟩ := KD.out w1 hb1
  go_wp2
  refine leaves_cons (f := 37) (args := #[.pointer (some ⟨B + 1, 0, none⟩)]) (by simp) (by simp [go_sem]) ?_
  refine (catchM_panicking ⟨B + 1, 0, none⟩ _ 1 [] _ d1 d2 d3).mono ?_
  rintro e u' w'' ⟨rfl, rfl, W, hW, rfl⟩
  have z := World.cell?_setCell_same W ⟨B + 1, 0, none⟩ (.int .i64 1) ((hW.cell (p := ⟨B + 1, 0, none⟩) (block_lt_of_cell d2)).trans d2)
  have hR := d5.below hW d5.lt
  have q0 := hR.cell 0
  have q1 := hR.cell 1
  have q2 := hR.cell 2
  have q3 := hR.cell 3
  have q4 := hR.cell 4
  have q5 := hR.cell 5
  simp [pcZ] at q0 q1 q2 q3 q4 q5
  simp [Leaves, settle, results, Tryz.results10, go_sem, z, hen, q0, q1, q2, q3, q4, q5]
  exact (below2 d4 hW).setCell hBw1 _
 ·have hlen : L.length = (gsel root P n).length := hp.length_eq
  have hpart : n ≤ 64 ∧ gsel root P n ≠ [] ∧ enK root n P ≤ ((gsel root P n).length : Int) := by
   unfold enB at hen
   simp only [Bool.and_eq_true, decide_eq_true_eq] at hen
   exact ⟨hen.1.1, hen.1.2, hen.2⟩
  have hgl := gsel_len root P n
  have hg0 : 0 < (gsel root P n).length := List.length_pos_iff.2 hpart.2.1
  have hfst : (gsel root P n).getD 0 0 ∈ gsel root P n := getD_memL hg0
  have hk1 : 1 ≤ enK root n P := (pok_k (gsel_mem hfst).2.2).1
  have hL0 := (pok_k (gsel_mem (hp.mem_iff.1 (getD_memL (L := L) (j := 0) (by omega)))).2.2).2.2.2.2
  have HQb : Hid ((qL P L 0).b.size ≤ 1048576) := Nat.le_trans hL0 (by omega)
  obtain ⟨K, HK⟩ : ∃ x, Hid ((enK root n P).toNat = x) := ⟨_, rfl⟩
  have hK0 : 0 < K := by rw [← HK.out]; omega
  have hK64 : K ≤ 64 := by rw [← HK.out]; omega
  have hKL : K ≤ L.length := by rw [← HK.out]; omega
  rw [HK.out]
  obtain ⟨Q, HQ⟩ : ∃ x, Hid (qL P L = x) := ⟨_, rfl⟩
  have HCell : Hid (∀ W, Below w1.heap.size w1 W → ∀ j q, j < K → q < 6 → W.cell? ⟨g, j * 6 + q, none⟩ = some (cel (Q j) (.slice (A (L.getD j 0)) (Q j).m (C (L.getD j 0))) q)) := fun W hW j q hj hq => by
   rw [← HQ.out]
   exact OwnC.cell (OwnC.below hO hW) (by omega) hq
  have HQ0 : Hid ((Q 0).b.size ≤ 1048576) := by rw [← HQ.out]; exact HQb.out
  have HFin : Hid (∀ w' e, RmE w w' root K Q idx e → (enB root n P = false ∧ e = .returned (.tuple #[.agg pcZ, .int .i64 1])) ∨ (enB root n P = true ∧ ∃ L : List Nat, L.Perm (gsel root P n) ∧ (∀ x y, x < y → y < L.length → (P (L.getD x 0)).i ≤ (P (L.getD y 0)).i) ∧ RmE w w' root (enK root n P).toNat (qL P L) idx e)) := fun w' e he => .inr ⟨hen, L, hp, hso, by rw [HK.out, HQ.out]; exact he⟩
  have KCm : Hid _ := completed_any root g K cc Q (fun j => A (L.getD j 0)) (fun j => C (L.getD j 0)) w1 (HCell.out w1 (Below.refl _ _)) hK0 hK64 HQ0.out
  have KB1 : Hid (Below w0.heap.size w0 w1) := hb1
  clear hO hp hso hcc hb1 hlen hpart hgl hg0 hfst hk1 hL0 HQb HQ HK hen KEN
  go_wp2_with fail
  refine Calls.mono KCm.out ?_
  rintro e w2 ⟨hb2, h2⟩
  have hb12 := hb2
  have hb02 := below2 KB1.out hb2
  obtain ⟨N, HN⟩ : ∃ x, Hid ((Q 0).n.toNat = x) := ⟨_, rfl⟩
  rw [HN.out] at h2
  rcases h2 with ⟨hcm, rfl⟩ | ⟨hcm, a2, cap2, G, rfl, hO1, hO2⟩
  ·obtain ⟨d1, d2, d3, d4, d5⟩ := KD.out w2 hb02
   go_wp2
   refine leaves_cons (f := 37) (args := #[.pointer (some ⟨B + 1, 0, none⟩)]) (by simp) (by simp [go_sem]) ?_
   refine (catchM_panicking ⟨B + 1, 0, none⟩ _ 2 [] _ d1 d2 d3).mono ?_
   rintro e u' w'' ⟨rfl, rfl, W, hW, rfl⟩
   have z := World.cell?_setCell_same W ⟨B + 1, 0, none⟩ (.int .i64 2) ((hW.cell (p := ⟨B + 1, 0, none⟩) (block_lt_of_cell d2)).trans d2)
   have hf := HFin.out (W.setCell ⟨B + 1, 0, none⟩ (.int .i64 2)) _ (.inl ⟨fun h => hcm h.1, rfl⟩)
   have hR := d5.below hW d5.lt
   have q0 := hR.cell 0
   have q1 := hR.cell 1
   have q2 := hR.cell 2
   have q3 := hR.cell 3
   have q4 := hR.cell 4
   have q5 := hR.cell 5
   simp [pcZ] at q0 q1 q2 q3 q4 q5
   simp [Leaves, settle, results, Tryz.results10, go_sem, z, q0, q1, q2, q3, q4, q5]
   exact ⟨(below2 d4 hW).setCell hBw1 _, by simpa [pcZ] using hf⟩
  ·have hsp := sprOk_parts hcm.1.1
   have hnn : (N : Int) = (Q 0).n := by rw [← HN.out]; exact Int.toNat_of_nonneg (by omega)
   obtain ⟨D, HD⟩ : ∃ x, Hid (x = w2.heap.size) := ⟨_, rfl⟩
   obtain ⟨w3, HW3⟩ : ∃ x, Hid (x = w2.alloc (.cells #[.int .i64 (Q 0).k, .slice a2 N cap2, .slice (some ⟨G, 0, none⟩) N N, .string root] 53)) := ⟨_, rfl⟩
   have HR3 : Hid (Row w3 D 53 #[.int .i64 (Q 0).k, .slice a2 N cap2, .slice (some ⟨G, 0, none⟩) N N, .string root]) := by show Row _ _ _ _; rw [HW3.out, HD.out]; exact Row.new w2 _ _
   have b23 : Below w2.heap.size w2 w3 := by rw [HW3.out]; exact (Below.refl _ _).alloc (Nat.le_refl _) _
   have hb03 := below2 hb02 b23
   obtain ⟨d1, d2, d3, d4, d5⟩ := KD.out w3 hb03
   have HD5 : Hid (Row w3 B 30 pcZ) := d5
   have HCM : Hid (Cm root K Q) := hcm
   have HO1 : Hid (TxtAt w3 a2 N (alQ K Q)) := OwnT.at (hO1.below b23)
   have HO2 : Hid (TxtAt w3 (some ⟨G, 0, none⟩) N (lvs (Q 0).k N (alQ K Q))) := OwnT.at (hO2.below b23)
   by_cases hin : 0 ≤ idx ∧ idx < (N : Int)
   case neg =>
    have HFn : Hid (∀ w', _) := fun w' => HFin.out w' (.returned (.tuple #[.agg pcZ, .int .i64 2])) (.inl ⟨fun h => hin ⟨h.2.1, by omega⟩, rfl⟩)
    have KN : Hid _ := need_no 2 w3
    by_cases h0 : 0 ≤ idx
    ·have h1 : ¬ idx < (N : Int) := fun h => hin ⟨h0, h⟩
     have hd : Hid (decide (idx < (N : Int)) = false) := decide_eq_false h1
     clear hin hO1 hO2 HCell KCm hcm hb2 hb12 hb02 b23 d5 hnn
     have r1 := HR3.out.cell 1
     simp at r1
     go_wp2_with fail
     rw [← HW3.out, hd.out]
     refine Calls.mono KN.out ?_
     rintro e w' ⟨rfl, rfl⟩
     go_wp2
     refine leaves_cons (f := 37) (args := #[.pointer (some ⟨B + 1, 0, none⟩)]) (by simp) (by simp [go_sem]) ?_
     refine (catchM_panicking ⟨B + 1, 0, none⟩ _ 2 [] _ d1 d2 d3).mono ?_
     rintro e u' w'' ⟨rfl, rfl, W, hW, rfl⟩
     have z := World.cell?_setCell_same W ⟨B + 1, 0, none⟩ (.int .i64 2) ((hW.cell (p := ⟨B + 1, 0, none⟩) (block_lt_of_cell d2)).trans d2)
     have hf := HFn.out (W.setCell ⟨B + 1, 0, none⟩ (.int .i64 2))
     have hR := HD5.out.below hW HD5.out.lt
     have q0 := hR.cell 0
     have q1 := hR.cell 1
     have q2 := hR.cell 2
     have q3 := hR.cell 3
     have q4 := hR.cell 4
     have q5 := hR.cell 5
     simp [pcZ] at q0 q1 q2 q3 q4 q5
     simp [Leaves, settle, results, Tryz.results10, go_sem, z, q0, q1, q2, q3, q4, q5]
     exact ⟨(below2 d4 hW).setCell hBw1 _, by simpa [pcZ] using hf⟩
    ·clear HO1
     clear hin hO1 hO2 HCell KCm hcm hb2 hb12 hb02 b23 d5 hnn
     have r1 := HR3.out.cell 1
     simp at r1
     go_wp2_with fail
     rw [← HW3.out]
     refine Calls.mono KN.out ?_
     rintro e w' ⟨rfl, rfl⟩
     go_wp2
     refine leaves_cons (f := 37) (args := #[.pointer (some ⟨B + 1, 0, none⟩)]) (by simp) (by simp [go_sem]) ?_
     refine (catchM_panicking ⟨B + 1, 0, none⟩ _ 2 [] _ d1 d2 d3).mono ?_
     rintro e u' w'' ⟨rfl, rfl, W, hW, rfl⟩
     have z := World.cell?_setCell_same W ⟨B + 1, 0, none⟩ (.int .i64 2) ((hW.cell (p := ⟨B + 1, 0, none⟩) (block_lt_of_cell d2)).trans d2)
     have hf := HFn.out (W.setCell ⟨B + 1, 0, none⟩ (.int .i64 2))
     have hR := HD5.out.below hW HD5.out.lt
     have q0 := hR.cell 0
     have q1 := hR.cell 1
     have q2 := hR.cell 2
     have q3 := hR.cell 3
     have q4 := hR.cell 4
     have q5 := hR.cell 5
     simp [pcZ] at q0 q1 q2 q3 q4 q5
     simp [Leaves, settle, results, Tryz.results10, go_sem, z, q0, q1, q2, q3, q4, q5]
     exact ⟨(below2 d4 hW).setCell hBw1 _, by simpa [pcZ] using hf⟩
   ·obtain ⟨h0, h1⟩ := hin
    obtain ⟨i, rfl⟩ := Int.eq_ofNat_of_zero_le h0
    have hiN : i < N := by omega
    have hroot : root.size ≤ 1048576 := by
     rw [← hcm.2]
     unfold rtQ rtS
     split
     ·rename_i hlv
      have := lvB_parts hlv
      rw [Gt.rt_size (by omega) this.2.2]
      omega
     ·decide
    have KN : Hid _ := need_ok 2 w3
    have KP : Hid _ := piece_any (Q 0).k a2 N cap2 (alQ K Q) G (lvs (Q 0).k N (alQ K Q)) root i w3 HO1.out HO2.out hiN (by omega) (fun j => lvs_le _ _ _ _) hroot
    have HFy : Hid (∀ w' v, ResT w w' v (pfR N (lvs (Q 0).k N (alQ K Q)) (i : Int)) (pfF N (lvs (Q 0).k N (alQ K Q)) (i : Int)) → _) := fun w' v hv => HFin.out w' (.returned (.tuple #[pcV root (Q 0).k (N : Int) (i : Int) (alQ K Q i) v, .int .i64 0])) (.inr ⟨HCM.out, h0, by omega, v, by rw [hnn]; simp, by rw [HN.out]; exact hv⟩)
    clear hO1 hO2 HCell KCm hcm hb2 hb12 hb02 b23 d5 hnn hsp
    have r0 := HR3.out.cell 0
    have r1 := HR3.out.cell 1
    have r2 := HR3.out.cell 2
    have r3 := HR3.out.cell 3
    simp at r0 r1 r2 r3
    go_wp2_with fail
    rw [← HW3.out, ← HD.out]
    refine Calls.mono KN.out ?_
    rintro e w' ⟨rfl, rfl⟩
    go_wp2_with fail
    refine Calls.mono KP.out ?_
    rintro e w5 ⟨v5, rfl, hR5, hb5⟩
    obtain ⟨aP, cP, rfl, hO5⟩ := hR5
    have hb05 := below2 hb03 hb5
    obtain ⟨e1, e2, e3, e4, e5⟩ := KD.out w5 hb05
    have lw : B + 1 < w'.heap.size := block_lt_of_cell d2
    obtain ⟨m, HM⟩ : ∃ m, Hid (pfR N (lvs (Q 0).k N (alQ K Q)) (i : Int) = m) := ⟨_, rfl⟩
    obtain ⟨F, HF⟩ : ∃ m, Hid (pfF N (lvs (Q 0).k N (alQ K Q)) (i : Int) = m) := ⟨_, rfl⟩
    rw [HM.out, HF.out] at hO5 HFy
    rw [HM.out]
    obtain ⟨sb, HSB⟩ : ∃ m, Hid (alQ K Q i = m) := ⟨_, rfl⟩
    rw [HSB.out] at HFy
    rw [HSB.out]
    obtain ⟨w6, HW6⟩ : ∃ x, Hid (x = (((((((w5.setCell ⟨B, 0, none⟩ (.string root)).setCell ⟨B, 1, none⟩ (.int .i64 (Q 0).k)).setCell ⟨B, 2, none⟩ (.int .i64 (N : Int))).setCell ⟨B, 3, none⟩ (.int .i64 (i : Int))).setCell ⟨B, 4, none⟩ (.string sb)).setCell ⟨B, 5, none⟩ (.slice aP m cP)).setCell ⟨B + 1, 0, none⟩ (.int .i64 0))) := ⟨_, rfl⟩
    have HR6 : Hid (Row w6 B 30 (pcC root (Q 0).k (N : Int) (i : Int) sb (.slice aP m cP))) := by
     show Row _ _ _ _
     rw [HW6.out]
     exact Row.other ((((((e5.set 0 _).set 1 _).set 2 _).set 3 _).set 4 _).set 5 _) _ _ (by omega)
    have B6 : Hid (Below w.heap.size w w6) := by
     show Below _ _ _
     rw [HW6.out]
     exact Below.setCell (Below.setCell (Below.setCell (Below.setCell (Below.setCell (Below.setCell (Below.setCell e4 hBw _) hBw _) hBw _) hBw _) hBw _) hBw _) hBw1 _
    have lB1 : B < w'.heap.size := by omega
    have O6 : Hid (OwnT w6 w'.heap.size aP m cP F) := by
     show OwnT _ _ _ _ _ _
     rw [HW6.out]
     exact OwnT.setFar (OwnT.setFar (OwnT.setFar (OwnT.setFar (OwnT.setFar (OwnT.setFar (OwnT.setFar hO5 lB1) lB1) lB1) lB1) lB1) lB1) lw
    have z6 : w6.cell? ⟨B + 1, 0, none⟩ = some (.int .i64 0) := by
     rw [HW6.out]
     refine World.cell?_setCell_same (u := .int .i64 0) _ _ _ ?_
     simp [World.cell?_setCell_other, e2]
    have f6 : w6.frozen? ⟨B + 1, 0, none⟩ = false := by
     rw [HW6.out]
     simpa using e3
    have q0 := e5.cell 0
    have q1 := e5.cell 1
    have q2 := e5.cell 2
    have q3 := e5.cell 3
    have q4 := e5.cell 4
    have q5 := e5.cell 5
    have f0 := e5.free 0
    have f1 := e5.free 1
    have f2 := e5.free 2
    have f3 := e5.free 3
    have f4 := e5.free 4
    have f5 := e5.free 5
    simp [pcZ] at q0 q1 q2 q3 q4 q5
    clear r0 r1 r2 r3 hO5 d1 d2 d3 d4 hb5 e5 KP KN
    go_wp2
    rw [← HW6.out]
    refine leaves_cons (f := 37) (args := #[.pointer (some ⟨B + 1, 0, none⟩)]) (by simp) (by simp [go_sem]) ?_
    refine (catchM_idle ⟨B + 1, 0, none⟩ _ _ z6 f6).mono ?_
    rintro e u' w'' ⟨rfl, rfl, rfl⟩
    have z := World.cell?_setCell_same w6 ⟨B + 1, 0, none⟩ (.int .i64 0) z6
    have hR := Row.other HR6.out (k := B + 1) 0 (.int .i64 0) (by omega)
    have p0 := hR.cell 0
    have p1 := hR.cell 1
    have p2 := hR.cell 2
    have p3 := hR.cell 3
    have p4 := hR.cell 4
    have p5 := hR.cell 5
    simp at p0 p1 p2 p3 p4 p5
    have hf := HFy.out (w6.setCell ⟨B + 1, 0, none⟩ (.int .i64 0)) _ ⟨_, _, rfl, OwnT.base (OwnT.setFar O6.out lw) (by omega)⟩
    simp [Leaves, settle, results, Tryz.results10, go_sem, z, p0, p1, p2, p3, p4, p5]
    exact ⟨B6.out.setCell hBw1 _, by simpa using hf⟩
def ChE (w' : World) (root : ByteArray) (n : Nat) (P : Nat → Pc) (A : Nat → Option Addr) (C : Nat → Nat) (e : Ending) : Prop :=
 (enB root n P = false ∧ ∃ v, e = .returned (.tuple #[v, .bool false])) ∨
 (enB root n P = true ∧ ∃ (g cc : Nat) (L : List Nat), e = .returned (.tuple #[.slice (some ⟨g, 0, none⟩) (enK root n P).toNat cc, .bool true]) ∧ L.Perm (gsel root P n) ∧ (∀ x y, x < y → y < L.length → (P (L.getD x 0)).i ≤ (P (L.getD y 0)).i) ∧ (∀ j q, j < (enK root n P).toNat → q < 6 → w'.cell? ⟨g, j * 6 + q, none⟩ = some (celp P A C (L.getD j 0) q)))
def ChOk (root : ByteArray) (a : Option Addr) (n cap : Nat) (P : Nat → Pc) (A : Nat → Option Addr) (C : Nat → Nat) (w : World) : Prop :=
 ∀ W, Below w.heap.size w W → Calls Tryz.prog 31 #[.string root, .slice a n cap] W fun e w' => Below W.heap.size W w' ∧ ChE w' root n P A C e
theorem en_parts {root : ByteArray} {n : Nat} {P : Nat → Pc} {L : List Nat} (hen : enB root n P = true) (hp : L.Perm (gsel root P n)) : 0 < (enK root n P).toNat ∧ (enK root n P).toNat ≤ 64 ∧ (enK root n P).toNat ≤ L.length ∧ (qL P L 0).b.size ≤ 1048576 := by
 have hlen : L.length = (gsel root P n).length := hp.length_eq
 have hpart : n ≤ 64 ∧ gsel root P n ≠ [] ∧ enK root n P ≤ ((gsel root P n).length : Int) := by
  unfold enB at hen
  simp only [Bool.and_eq_true, decide_eq_true_eq] at hen
  exact ⟨hen.1.1, hen.1.2, hen.2⟩
 have hgl := gsel_len root P n
 have hg0 : 0 < (gsel root P n).length := List.length_pos_iff.2 hpart.2.1
 have hk1 : 1 ≤ enK root n P := (pok_k (gsel_mem (getD_memL hg0)).2.2).1
 have hL0 := (pok_k (gsel_mem (hp.mem_iff.1 (getD_memL (L := L) (j := 0) (by omega)))).2.2).2.2.2.2
 exact ⟨by omega, by omega, by omega, Nat.le_trans hL0 (by omega)⟩
theorem sRemake_any (root : ByteArray) (a : Option Addr) (n cap : Nat) (A : Nat → Option Addr) (C : Nat → Nat) (P : Nat → Pc) (idx : Int) (w : World) (hch : ChOk root a n cap P A C w) :
  Calls Tryz.prog 15 #[.string root, .slice a n cap, .int .i64 idx] w fun e w' => Below w.heap.size w w' ∧ ((enB root n P = false ∧ e = .returned (.tuple #[.agg pcZ, .int .i64 1])) ∨ (enB root n P = true ∧ ∃ L : List Nat, L.Perm (gsel root P n) ∧ (∀ x y, x < y → y < L.length → (P (L.getD x 0)).i ≤ (P (L.getD y 0)).i) ∧ RmE w w' root (enK root n P).toNat (qL P L) idx e)) := by
 obtain ⟨B, HB⟩ : ∃ x, Hid (x = w.heap.size) := ⟨_, rfl⟩
 obtain ⟨w0, HW0⟩ : ∃ x, Hid (x = w.alloc (.cells pcZ 30)) := ⟨_, rfl⟩
 have HR0 : Hid (Row w0 B 30 pcZ) := by show Row _ _ _ _; rw [HW0.out, HB.out]; exact Row.new w _ _
 have b0 : Below w.heap.size w w0 := by rw [HW0.out]; exact (Below.refl _ _).alloc (Nat.le_refl _) _
 have hBw : w.heap.size ≤ B := by rw [HB.out]; exact Nat.le_refl _
 have KB0 : Hid (Below w.heap.size w w0) := b0
 have KCH : Hid _ := hch w0 b0
 clear hch b0
 go_enter Tryz.func15, Tryz.ntmps15
 go_wp2_with fail
 rw [← HW0.out, ← HB.out]
 refine Calls.mono KCH.out ?_
 rintro e w1 ⟨hb1, h1⟩
 have HR1 : Hid (Row w1 B 30 pcZ) := HR0.out.below hb1 HR0.out.lt
 have KB1 : Hid (Below w.heap.size w w1) := below2 KB0.out hb1
 rcases h1 with ⟨hen, v1, rfl⟩ | ⟨hen, g, cc, L, rfl, hp, hso, hcell⟩
 ·have q0 := HR1.out.cell 0
  have q1 := HR1.out.cell 1
  have q2 := HR1.out.cell 2
  have q3 := HR1.out.cell 3
  have q4 := HR1.out.cell 4
  have q5 := HR1.out.cell 5
  have f0 := HR1.out.free 0
  have f1 := HR1.out.free 1
  have f2 := HR1.out.free 2
  have f3 := HR1.out.free 3
  have f4 := HR1.out.free 4
  have f5 := HR1.out.free 5
  simp [pcZ] at q0 q1 q2 q3 q4 q5
  clear KCH hb1
  obtain ⟨w6, HW6⟩ : ∃ x, Hid (x = ((((((w1.setCell ⟨B, 0, none⟩ (.string ⟨#[]⟩)).setCell ⟨B, 1, none⟩ (.int .i64 0)).setCell ⟨B, 2, none⟩ (.int .i64 0)).setCell ⟨B, 3, none⟩ (.int .i64 0)).setCell ⟨B, 4, none⟩ (.string ⟨#[]⟩)).setCell ⟨B, 5, none⟩ (.slice none 0 0))) := ⟨_, rfl⟩
  have HR6 : Row w6 B 30 pcZ := by rw [HW6.out]; exact ((((((HR1.out.set 0 _).set 1 _).set 2 _).set 3 _).set 4 _).set 5 _)
  have B6 : Hid (Below w.heap.size w w6) := by show Below _ _ _; rw [HW6.out]; exact Below.setCell (Below.setCell (Below.setCell (Below.setCell (Below.setCell (Below.setCell KB1.out hBw _) hBw _) hBw _) hBw _) hBw _) hBw _
  have p0 := HR6.cell 0
  have p1 := HR6.cell 1
  have p2 := HR6.cell 2
  have p3 := HR6.cell 3
  have p4 := HR6.cell 4
  have p5 := HR6.cell 5
  simp [pcZ] at p0 p1 p2 p3 p4 p5
  go_wp2
  rw [← HW6.out]
  refine bodyPost_ret (v := .tuple #[.agg pcZ, .int .i64 1]) (by simp [results, Tryz.results15, go_sem, pcZ, p0, p1, p2, p3, p4, p5]) rfl ⟨B6.out, .inl ⟨hen, rfl⟩⟩
 ·obtain ⟨k0, k64, kL, kb⟩ := en_parts hen hp
  obtain ⟨K, HK⟩ : ∃ x, Hid ((enK root n P).toNat = x) := ⟨_, rfl⟩
  obtain ⟨Q, HQ⟩ : ∃ x, Hid (qL P L = x) := ⟨_, rfl⟩
  have HFin : Hid (∀ w' e, RmE w w' root K Q idx e → (enB root n P = false ∧ e = .returned (.tuple #[.agg pcZ, .int .i64 1])) ∨ (enB root n P = true ∧ ∃ L : List Nat, L.Perm (gsel root P n) ∧ (∀ x y, x < y → y < L.length → (P (L.getD x 0)).i ≤ (P (L.getD y 0)).i) ∧ RmE w w' root (enK root n P).toNat (qL P L) idx e)) := fun w' e he => .inr ⟨hen, L, hp, hso, by rw [HK.out, HQ.out]; exact he⟩
  rw [HK.out] at k0 k64 hcell
  rw [HK.out]
  rw [HQ.out] at kb
  have KBO : Hid _ := sBod_any root g K cc Q (fun j => A (L.getD j 0)) (fun j => C (L.getD j 0)) w1 (fun j q hj hq => by rw [← HQ.out]; exact hcell j q hj hq) k0 k64 kb
  clear hcell hp hso hen HK HQ KCH hb1
  go_wp2_with fail
  refine Calls.mono KBO.out ?_
  rintro e w2 ⟨hb2, h2⟩
  have HR2 : Hid (Row w2 B 30 pcZ) := HR1.out.below hb2 HR1.out.lt
  have KB2 : Hid (Below w.heap.size w w2) := below2 KB1.out hb2
  have q0 := HR2.out.cell 0
  have q1 := HR2.out.cell 1
  have q2 := HR2.out.cell 2
  have q3 := HR2.out.cell 3
  have q4 := HR2.out.cell 4
  have q5 := HR2.out.cell 5
  have f0 := HR2.out.free 0
  have f1 := HR2.out.free 1
  have f2 := HR2.out.free 2
  have f3 := HR2.out.free 3
  have f4 := HR2.out.free 4
  have f5 := HR2.out.free 5
  simp [pcZ] at q0 q1 q2 q3 q4 q5
  rcases h2 with ⟨hcm, g', rfl⟩ | ⟨hcm, v, rfl, hP⟩
  ·have hf := fun w' => HFin.out w' (.returned (.tuple #[.agg pcZ, .int .i64 2])) (.inl ⟨fun h => hcm h.1, rfl⟩)
   have HFn : Hid (∀ w', _) := hf
   clear hf KBO hb2
   obtain ⟨w6, HW6⟩ : ∃ x, Hid (x = ((((((w2.setCell ⟨B, 0, none⟩ (.string ⟨#[]⟩)).setCell ⟨B, 1, none⟩ (.int .i64 0)).setCell ⟨B, 2, none⟩ (.int .i64 0)).setCell ⟨B, 3, none⟩ (.int .i64 0)).setCell ⟨B, 4, none⟩ (.string ⟨#[]⟩)).setCell ⟨B, 5, none⟩ (.slice none 0 0))) := ⟨_, rfl⟩
   have HR6 : Row w6 B 30 pcZ := by rw [HW6.out]; exact ((((((HR2.out.set 0 _).set 1 _).set 2 _).set 3 _).set 4 _).set 5 _)
   have B6 : Hid (Below w.heap.size w w6) := by show Below _ _ _; rw [HW6.out]; exact Below.setCell (Below.setCell (Below.setCell (Below.setCell (Below.setCell (Below.setCell KB2.out hBw _) hBw _) hBw _) hBw _) hBw _) hBw _
   have p0 := HR6.cell 0
   have p1 := HR6.cell 1
   have p2 := HR6.cell 2
   have p3 := HR6.cell 3
   have p4 := HR6.cell 4
   have p5 := HR6.cell 5
   simp [pcZ] at p0 p1 p2 p3 p4 p5
   go_wp2
   rw [← HW6.out]
   refine bodyPost_ret (v := .tuple #[.agg pcZ, .int .i64 2]) (by simp [results, Tryz.results15, go_sem, pcZ, p0, p1, p2, p3, p4, p5]) rfl ⟨B6.out, HFn.out _⟩
  ·obtain ⟨g5, c5, A5, C5, rfl, hO5⟩ := hP
   have hsp := sprOk_parts hcm.1.1
   obtain ⟨N, HN⟩ : ∃ x, Hid ((Q 0).n.toNat = x) := ⟨_, rfl⟩
   rw [HN.out] at hO5
   rw [HN.out]
   have hnn : (Q 0).n = (N : Int) := by rw [← HN.out]; exact (Int.toNat_of_nonneg (by omega)).symm
   have hN : 0 < N ∧ N ≤ 64 := by omega
   have HCM : Hid (Cm root K Q) := hcm
   have HO5 : Hid (OwnP w2 w1.heap.size (some ⟨g5, 0, none⟩) N c5 A5 C5 (cutP (Q 0).k N (alQ K Q))) := hO5
   clear hO5 KBO hb2 hcm
   by_cases hin : 0 ≤ idx ∧ idx < (N : Int)
   ·obtain ⟨h0, h1⟩ := hin
    obtain ⟨i, rfl⟩ := Int.eq_ofNat_of_zero_le h0
    have hiN : i < N := by omega
    have hib : inB (i : Int) 0 ((N : Int) - 1) = true := by unfold inB; exact decide_eq_true (by omega)
    have KI : Hid _ := sIn_any (i : Int) 0 ((N : Int) - 1) w2
    rw [hib] at KI
    have hx := fun q (hq : q < 6) => OwnC.cell HO5.out.1 (i := i) (q := q) hiN hq
    have HRt : Hid ((cutP (Q 0).k N (alQ K Q) i).r = root) := by show (cutP (Q 0).k N (alQ K Q) i).r = root; rw [← HCM.out.2]; unfold rtQ; rw [HN.out]; rfl
    have HOp := HO5.out.2.1 i hiN
    have lA : ∀ x, A5 i = some x → x.block ≠ B := fun x e => by
     have h := HOp
     rw [e] at h
     have h1 := (World.ownsRow.lt h x.block rfl).1
     have h2 := HR1.out.lt
     omega
    have x0 := hx 0 (by omega)
    have x1 := hx 1 (by omega)
    have x2 := hx 2 (by omega)
    have x3 := hx 3 (by omega)
    have x4 := hx 4 (by omega)
    have x5 := hx 5 (by omega)
    simp only [cel, Nat.add_zero] at x0 x1 x2 x3 x4 x5
    rw [HRt.out] at x0
    rw [show (cutP (Q 0).k N (alQ K Q) i).k = (Q 0).k from rfl] at x1
    rw [show (cutP (Q 0).k N (alQ K Q) i).n = (N : Int) from rfl] at x2
    rw [show (cutP (Q 0).k N (alQ K Q) i).i = (i : Int) from rfl] at x3
    rw [show (cutP (Q 0).k N (alQ K Q) i).b = alQ K Q i from rfl] at x4
    have HFy : Hid (∀ w' v, ResT w w' v (cutP (Q 0).k N (alQ K Q) i).m (cutP (Q 0).k N (alQ K Q) i).S → _) := fun w' v hv => HFin.out w' (.returned (.tuple #[pcV root (Q 0).k (N : Int) (i : Int) (alQ K Q i) v, .int .i64 0])) (.inr ⟨HCM.out, h0, by omega, v, by rw [hnn]; simp, by rw [HN.out]; exact hv⟩)
    obtain ⟨m, HM⟩ : ∃ m, Hid ((cutP (Q 0).k N (alQ K Q) i).m = m) := ⟨_, rfl⟩
    obtain ⟨F, HF⟩ : ∃ m, Hid ((cutP (Q 0).k N (alQ K Q) i).S = m) := ⟨_, rfl⟩
    rw [HM.out] at x5 HOp HFy
    rw [HF.out] at HOp HFy
    obtain ⟨sb, HSB⟩ : ∃ m, Hid (alQ K Q i = m) := ⟨_, rfl⟩
    rw [HSB.out] at x4 HFy
    obtain ⟨ap, HAP⟩ : ∃ m, Hid (A5 i = m) := ⟨_, rfl⟩
    obtain ⟨cp, HCP⟩ : ∃ m, Hid (C5 i = m) := ⟨_, rfl⟩
    rw [HAP.out, HCP.out] at x5 HOp
    rw [HAP.out] at lA
    have KOp : Hid (OwnT w2 w.heap.size ap m cp F) := OwnT.base HOp KB1.out.size
    clear hx hib hnn HOp HRt
    go_wp2_with fail
    refine Calls.mono KI.out ?_
    rintro e w' ⟨rfl, rfl⟩
    obtain ⟨w6, HW6⟩ : ∃ x, Hid (x = ((((((w'.setCell ⟨B, 0, none⟩ (.string root)).setCell ⟨B, 1, none⟩ (.int .i64 (Q 0).k)).setCell ⟨B, 2, none⟩ (.int .i64 (N : Int))).setCell ⟨B, 3, none⟩ (.int .i64 (i : Int))).setCell ⟨B, 4, none⟩ (.string sb)).setCell ⟨B, 5, none⟩ (.slice ap m cp))) := ⟨_, rfl⟩
    have HR6 : Row w6 B 30 (pcC root (Q 0).k (N : Int) (i : Int) sb (.slice ap m cp)) := by rw [HW6.out]; exact ((((((HR2.out.set 0 _).set 1 _).set 2 _).set 3 _).set 4 _).set 5 _)
    have B6 : Hid (Below w.heap.size w w6) := by show Below _ _ _; rw [HW6.out]; exact Below.setCell (Below.setCell (Below.setCell (Below.setCell (Below.setCell (Below.setCell KB2.out hBw _) hBw _) hBw _) hBw _) hBw _) hBw _
    have p0 := HR6.cell 0
    have p1 := HR6.cell 1
    have p2 := HR6.cell 2
    have p3 := HR6.cell 3
    have p4 := HR6.cell 4
    have p5 := HR6.cell 5
    simp at p0 p1 p2 p3 p4 p5
    have set1 : ∀ (W : World) (o : Nat) (v : Value), OwnT W w.heap.size ap m cp F → OwnT (W.setCell ⟨B, o, none⟩ v) w.heap.size ap m cp F := fun W o v hW => own_kept hW (grown_set _ _ _ _) lA
    have O6 : Hid (OwnT w6 w.heap.size ap m cp F) := by show OwnT _ _ _ _ _ _; rw [HW6.out]; exact set1 _ _ _ (set1 _ _ _ (set1 _ _ _ (set1 _ _ _ (set1 _ _ _ (set1 _ _ _ KOp.out)))))
    clear set1 lA
    go_wp2
    rw [← HW6.out]
    refine bodyPost_ret (v := .tuple #[pcV root (Q 0).k (N : Int) (i : Int) sb (.slice ap m cp), .int .i64 0]) (by simp [results, Tryz.results15, go_sem, p0, p1, p2, p3, p4, p5]) rfl ⟨B6.out, HFy.out _ _ ⟨_, _, rfl, O6.out⟩⟩
   ·have hib : inB idx 0 ((N : Int) - 1) = false := by unfold inB; exact decide_eq_false (by omega)
    have HFn : Hid (∀ w', _) := fun w' => HFin.out w' (.returned (.tuple #[.agg pcZ, .int .i64 2])) (.inl ⟨fun h => hin ⟨h.2.1, by omega⟩, rfl⟩)
    have KI : Hid _ := sIn_any idx 0 ((N : Int) - 1) w2
    rw [hib] at KI
    clear hin hib hnn
    go_wp2_with fail
    refine Calls.mono KI.out ?_
    rintro e w' ⟨rfl, rfl⟩
    obtain ⟨w6, HW6⟩ : ∃ x, Hid (x = ((((((w'.setCell ⟨B, 0, none⟩ (.string ⟨#[]⟩)).setCell ⟨B, 1, none⟩ (.int .i64 0)).setCell ⟨B, 2, none⟩ (.int .i64 0)).setCell ⟨B, 3, none⟩ (.int .i64 0)).setCell ⟨B, 4, none⟩ (.string ⟨#[]⟩)).setCell ⟨B, 5, none⟩ (.slice none 0 0))) := ⟨_, rfl⟩
    have HR6 : Row w6 B 30 pcZ := by rw [HW6.out]; exact ((((((HR2.out.set 0 _).set 1 _).set 2 _).set 3 _).set 4 _).set 5 _)
    have B6 : Hid (Below w.heap.size w w6) := by show Below _ _ _; rw [HW6.out]; exact Below.setCell (Below.setCell (Below.setCell (Below.setCell (Below.setCell (Below.setCell KB2.out hBw _) hBw _) hBw _) hBw _) hBw _) hBw _
    have p0 := HR6.cell 0
    have p1 := HR6.cell 1
    have p2 := HR6.cell 2
    have p3 := HR6.cell 3
    have p4 := HR6.cell 4
    have p5 := HR6.cell 5
    simp [pcZ] at p0 p1 p2 p3 p4 p5
    go_wp2
    rw [← HW6.out]
    refine bodyPost_ret (v := .tuple #[.agg pcZ, .int .i64 2]) (by simp [results, Tryz.results15, go_sem, pcZ, p0, p1, p2, p3, p4, p5]) rfl ⟨B6.out, HFn.out _⟩
noncomputable def allQ (K : Nat) (Q : Nat → Pc) : Nat → Pc := cutP (Q 0).k (Q 0).n.toNat (alQ K Q)
def RsE (root : ByteArray) (K : Nat) (Q : Nat → Pc) (e : Ending) : Prop :=
 (¬ Cm root K Q ∧ e = .returned (.tuple #[.string ⟨#[]⟩, .int .i64 2])) ∨
 (Cm root K Q ∧ dcB (Q 0).k (Q 0).n (zsQ K (allQ K Q)) K (sQ (allQ K Q)) = false ∧ e = .returned (.tuple #[.string ⟨#[]⟩, .int .i64 2])) ∨
 (Cm root K Q ∧ dcB (Q 0).k (Q 0).n (zsQ K (allQ K Q)) K (sQ (allQ K Q)) = true ∧ e = .returned (.tuple #[.string (dcS (Q 0).k (Q 0).n (zsQ K (allQ K Q)) K (sQ (allQ K Q))), .int .i64 0]))
theorem sRegain_any (root : ByteArray) (a : Option Addr) (n cap : Nat) (A : Nat → Option Addr) (C : Nat → Nat) (P : Nat → Pc) (w : World) (hch : ChOk root a n cap P A C w) :
  Calls Tryz.prog 8 #[.string root, .slice a n cap] w fun e w' => Below w.heap.size w w' ∧ ((enB root n P = false ∧ e = .returned (.tuple #[.string ⟨#[]⟩, .int .i64 1])) ∨ (enB root n P = true ∧ ∃ L : List Nat, L.Perm (gsel root P n) ∧ (∀ x y, x < y → y < L.length → (P (L.getD x 0)).i ≤ (P (L.getD y 0)).i) ∧ RsE root (enK root n P).toNat (qL P L) e)) := by
 obtain ⟨i0, hi, hz0, hz1, hz2⟩ := info_parts Tryz.infoInt
 obtain ⟨j0, hj, hy0, hy1, hy2⟩ := info_parts Tryz.infoStr
 have KCH : Hid _ := hch w (Below.refl _ _)
 clear hch
 go_enter Tryz.func8, Tryz.ntmps8
 go_wp2_with fail
 refine Calls.mono KCH.out ?_
 rintro e w1 ⟨hb1, h1⟩
 have KB1 : Hid (Below w.heap.size w w1) := hb1
 rcases h1 with ⟨hen, v1, rfl⟩ | ⟨hen, g, cc, L, rfl, hp, hso, hcell⟩
 ·clear KCH hb1
  go_wp2
  go_ret2
  exact ⟨KB1.out, .inl ⟨hen, rfl⟩⟩
 ·obtain ⟨k0, k64, kL, kb⟩ := en_parts hen hp
  obtain ⟨K, HK⟩ : ∃ x, Hid ((enK root n P).toNat = x) := ⟨_, rfl⟩
  obtain ⟨Q, HQ⟩ : ∃ x, Hid (qL P L = x) := ⟨_, rfl⟩
  have HFin : Hid (∀ e, RsE root K Q e → (enB root n P = false ∧ e = .returned (.tuple #[.string ⟨#[]⟩, .int .i64 1])) ∨ (enB root n P = true ∧ ∃ L : List Nat, L.Perm (gsel root P n) ∧ (∀ x y, x < y → y < L.length → (P (L.getD x 0)).i ≤ (P (L.getD y 0)).i) ∧ RsE root (enK root n P).toNat (qL P L) e)) := fun e he => .inr ⟨hen, L, hp, hso, by rw [HK.out, HQ.out]; exact he⟩
  rw [HK.out] at k0 k64 hcell
  rw [HK.out]
  rw [HQ.out] at kb
  have KBO : Hid _ := sBod_any root g K cc Q (fun j => A (L.getD j 0)) (fun j => C (L.getD j 0)) w1 (fun j q hj hq => by rw [← HQ.out]; exact hcell j q hj hq) k0 k64 kb
  clear hcell hp hso hen HK HQ KCH hb1
  go_wp2_with fail
  refine Calls.mono KBO.out ?_
  rintro e wb ⟨hb2, h2⟩
  have KB2 : Hid (Below w.heap.size w wb) := below2 KB1.out hb2
  rcases h2 with ⟨hcm, g', rfl⟩ | ⟨hcm, v, rfl, hP⟩
  ·have HFn : Hid _ := HFin.out (.returned (.tuple #[.string ⟨#[]⟩, .int .i64 2])) (.inl ⟨hcm, rfl⟩)
   clear KBO hb2
   go_wp2
   go_ret2
   exact ⟨KB2.out, HFn.out⟩
  ·obtain ⟨g5, c5, A5, C5, rfl, hO5⟩ := hP
   have hsp := sprOk_parts hcm.1.1
   have hkk : (Q 0).k = (K : Int) := hcm.1.2.2.1.symm
   obtain ⟨N, HN⟩ : ∃ x, Hid ((Q 0).n.toNat = x) := ⟨_, rfl⟩
   obtain ⟨R, HR⟩ : ∃ x, Hid (allQ K Q = x) := ⟨_, rfl⟩
   have hnn : (Q 0).n = (N : Int) := by rw [← HN.out]; exact (Int.toNat_of_nonneg (by omega)).symm
   have hRk : Hid (∀ j, (R j).k = (K : Int) ∧ (R j).n = (N : Int) ∧ (R j).i = (j : Int)) := fun j => by rw [← HR.out]; exact ⟨hkk, by show ((Q 0).n.toNat : Int) = N; rw [HN.out], rfl⟩
   have hO6 : OwnP wb w1.heap.size (some ⟨g5, 0, none⟩) N c5 A5 C5 R := by rw [← HR.out, ← HN.out]; exact hO5
   have hKN : K ≤ N := by omega
   have hN : 0 < N ∧ N ≤ 64 := by omega
   have HX : Hid (∀ j q, j < N → q < 6 → wb.cell? ⟨g5, j * 6 + q, none⟩ = some (cel (R j) (.slice (A5 j) (R j).m (C5 j)) q)) := fun j q hj hq => OwnC.cell hO6.1 hj hq
   have HRb : Hid ((R 0).b.size ≤ 1048576) := by show (R 0).b.size ≤ 1048576; rw [← HR.out]; show (alQ K Q 0).size ≤ 1048576; unfold alQ bdS; rw [bod_size]; exact kb
   have HFy : Hid (∀ ok, dcB (K : Int) (N : Int) (zsQ K R) K (sQ R) = ok → _) := fun ok hok => HFin.out (.returned (.tuple #[.string (if ok then dcS (K : Int) (N : Int) (zsQ K R) K (sQ R) else ⟨#[]⟩), .int .i64 (if ok then 0 else 2)])) (by
    rw [← HR.out, ← hkk, ← hnn] at hok
    cases ok with
    | false => exact .inr (.inl ⟨hcm, hok, rfl⟩)
    | true => exact .inr (.inr ⟨hcm, hok, by rw [← HR.out, ← hkk, ← hnn]; rfl⟩))
   have x1w := HX.out 0 1 hN.1 (by omega)
   have x2w := HX.out 0 2 hN.1 (by omega)
   simp only [cel, Nat.zero_mul, Nat.zero_add] at x1w x2w
   rw [(hRk.out 0).1] at x1w
   rw [(hRk.out 0).2.1] at x2w
   have hgw := block_lt_of_cell x1w
   simp only at hgw
   have hNi : (0 : Int) < (N : Int) := by omega
   rw [HN.out]
   clear hO5 hO6 KBO hb2 hcm hkk hnn hsp
   go_wp2
   go_loopw [10, 11, 12] (fun v10 v11 v12 wr => ∃ j g1 c1 g2 c2 : Nat, j ≤ K ∧ v12 = .int .i64 (j : Int) ∧ v10 = .slice (some ⟨g1, 0, none⟩) j c1 ∧ v11 = .slice (some ⟨g2, 0, none⟩) j c2 ∧ SbI wr wb.heap.size g1 c1 g2 c2 j R ∧ Below wb.heap.size wb wr) (fun _ _ v12 _ => K - (intOf v12).toNat)
   case atStart =>
    refine ⟨0, wb.heap.size, 0, wb.heap.size + 1, 0, Nat.zero_le _, rfl, rfl, rfl, ⟨World.ownsRow.alloc (World.ownsRow_lit wb #[] 0 (Nat.le_refl _) (by unfold maxLen; omega) (by simp)) _, ?_, by omega⟩, ((Below.refl _ _).alloc (Nat.le_refl _) _).alloc (by simp) _⟩
    have := OwnT.base (litT (wb.alloc (.cells #[] 3)) (sQ R)) (B' := wb.heap.size) (by simp)
    simpa using this
   case round =>
    obtain ⟨j, g1, c1, g2, c2, hjc, rfl, rfl, rfl, hl, hbel⟩ := hrel
    have x1 := (hbel.cell (p := ⟨g5, 1, none⟩) hgw).trans x1w
    by_cases hlt : j < K
    ·have hji : (j : Int) < (K : Int) := by omega
     have hjN : (j : Int) < (N : Int) := by omega
     have hsz := hbel.size
     have lg1 := World.ownsRow.lt hl.1 g1 rfl
     have lg2 := World.ownsRow.lt hl.2.1 g2 rfl
     have x4w := HX.out j 4 (by omega) (by omega)
     simp only [cel] at x4w
     have HI : Hid ((R j).i = (j : Int)) := (hRk.out j).2.2
     obtain ⟨bb, HBB⟩ : ∃ x, Hid ((R j).b = x) := ⟨_, rfl⟩
     rw [HBB.out] at x4w
     have hgg := hl.2.2
     have HL : Hid (OwnT wr wb.heap.size (some ⟨g2, 0, none⟩) j c2 (sQ R)) := hl.2.1
     have HBel : Hid (Below wb.heap.size wb wr) := hbel
     have hl1 := hl.1
     clear hl hbel
     go_wp2_with (first | (guard_hyp KA; at_builtin; refine wpList_append_lies _ (by rfl) _ _ 28 (by rfl) wb.heap.size 9 j0 (.string ByteArray.empty) 1 16 Tryz.underlying28 hj hy0 hy1 hy2 rfl (by decide) (.slice (some ⟨g2, 0, none⟩) j c2) j _ (by rfl) (World.ownsRow.alloc KA.out.2.1 _) ⟨w2.heap.size, 0, none⟩ 1 1 [.string bb] (by rfl) (by rfl) (World.news_of_block (cs := #[.string bb]) (t := 9) (fr := (0, 0)) (heap_alloc_new w2 _)) (by simp [Value.oneCell']) (by omega) (by unfold maxLen; omega) (by omega) (by simp; omega) (w2.heap.size + 1) (by simp) ?_; intro g4 c4 w3 hown3 hgrow3 hat3 hltg3) | (at_builtin; refine wpList_append_lies _ (by rfl) _ _ 25 (by rfl) wb.heap.size 3 i0 (.int .i64 0) 1 8 Tryz.underlying25 hi hz0 hz1 hz2 rfl (by decide) (.slice (some ⟨g1, 0, none⟩) j c1) j _ (by rfl) (World.ownsRow.alloc hl1 _) ⟨wr.heap.size, 0, none⟩ 1 1 [.int .i64 (j : Int)] (by rfl) (by rfl) (World.news_of_block (cs := #[.int .i64 (j : Int)]) (t := 3) (fr := (0, 0)) (heap_alloc_new wr _)) (by simp [Value.oneCell']) (by omega) (by unfold maxLen; omega) (by omega) (by simp; omega) (wr.heap.size + 1) (by simp) ?_; intro g3 c3 w2 hown2 hgrow hat hltg; have hb2 : Below wb.heap.size wb w2 := (HBel.out.alloc hsz _).grown (show World.grownBy _ w2 (some g1) from hgrow) (by simp; omega) (fun x hx => by cases hx; exact lg1.1); have x4 := (hb2.cell (p := ⟨g5, j * 6 + 4, none⟩) hgw).trans x4w; have KA : Hid (w2.ownsRow wb.heap.size 3 1 (.slice (some ⟨g3, 0, none⟩) (j + 1) c3) (j + 1) (zL (fun x => (R x).i) j ++ [.int .i64 (j : Int)]) ∧ OwnT w2 wb.heap.size (some ⟨g2, 0, none⟩) j c2 (sQ R) ∧ Below wb.heap.size wb w2) := ⟨hown2, World.ownsRow.kept (World.ownsRow.alloc HL.out _) (show World.grownBy _ w2 (some g1) from hgrow) (.inr (by intro e; exact hgg (by simpa [Value.ownBlock] using e.symm))), hb2⟩; have hg3 : g3 ≠ g2 := own_ne hat hgg (Nat.lt_succ_of_lt lg2.2); have hsz2 := hb2.size; have lg3 := (World.ownsRow.lt hown2 g3 rfl); have lg2' : g2 < w2.heap.size := (World.ownsRow.lt KA.out.2.1 g2 rfl).2; have x1' := (hb2.cell (p := ⟨g5, 1, none⟩) hgw).trans x1w; clear hown2 hgrow hat hb2 x1))
     have KF : Hid (SbI w3 wb.heap.size g3 c3 g4 c4 (j + 1) R ∧ Below wb.heap.size wb w3) := by
      refine ⟨⟨?_, ?_, ?_⟩, (KA.out.2.2.alloc hsz2 _).grown (show World.grownBy _ w3 (some g2) from hgrow3) (by simp; omega) (fun x hx => by cases hx; exact lg2.1)⟩
      ·have := World.ownsRow.kept (World.ownsRow.alloc KA.out.1 _) (show World.grownBy _ w3 (some g2) from hgrow3) (.inr (by intro e; exact hg3 (by simpa [Value.ownBlock] using e)))
       rw [zL_snoc, HI.out]
       exact this
      ·unfold OwnT
       rw [sL_snoc, show sQ R j = bb from HBB.out]
       exact hown3
      ·rcases hat3 with e | e
       ·have e' : g2 = g4 := by simpa [Value.ownBlock] using e
        omega
       ·omega
     clear hown3 hgrow3 hat3 KA x4 x4w hl1 HL x1'
     go_roundw
     case rel => exact ⟨j + 1, g3, c3, g4, c4, by omega, by go_num, rfl, rfl, KF.out.1, KF.out.2⟩
     case measure => simp [intOf] <;> omega
    ·obtain rfl : j = K := by omega
     have KI : Hid (IntsAt wr (some ⟨g1, 0, none⟩) j (zsQ j R)) := hl.ints
     have KT : Hid (TxtAt wr (some ⟨g2, 0, none⟩) j (sQ R)) := OwnT.at hl.2.1
     have KB : Hid (Below w.heap.size w wr) := below2 KB2.out hbel
     have x2 := (hbel.cell (p := ⟨g5, 2, none⟩) hgw).trans x2w
     have KDC : Hid (∀ W, Below wr.heap.size wr W → Calls Tryz.prog 33 #[.int .i64 (j : Int), .int .i64 (N : Int), .slice (some ⟨g1, 0, none⟩) j c1, .slice (some ⟨g2, 0, none⟩) j c2] W fun e w' => e = .returned (.tuple #[.string (dcS (j : Int) (N : Int) (zsQ j R) j (sQ R)), .bool (dcB (j : Int) (N : Int) (zsQ j R) j (sQ R))]) ∧ Below W.heap.size W w') := fun W hW => sDecode_any _ _ _ _ _ _ _ _ _ _ W (KI.out.below hW) (KT.out.below hW) (fun _ => HRb.out)
     obtain ⟨ok, HOK⟩ : ∃ x, Hid (dcB (j : Int) (N : Int) (zsQ j R) j (sQ R) = x) := ⟨_, rfl⟩
     have HFz : Hid _ := HFy.out ok HOK.out
     rw [HOK.out] at KDC
     obtain ⟨tx, HTX⟩ : ∃ x, Hid (dcS (j : Int) (N : Int) (zsQ j R) j (sQ R) = x) := ⟨_, rfl⟩
     rw [HTX.out] at KDC HFz
     clear hl hbel hi hz0 hz1 hz2 hj hy0 hy1 hy2 x1w x2w HX HFy
     go_wp2_with fail
     go_cut [13, 14] from 54 to 67 (fun v13 v14 wx => Hid (Below wr.heap.size wr wx ∧ v13 = .string tx ∧ v14 = .bool ok))
     case first =>
      go_region_with ((go_at_call 33; refine Calls.mono (KDC.out _ ⟨rfl, rfl, rfl, Nat.le_refl _, fun _ _ => rfl⟩) ?_; rintro e w2 ⟨rfl, hb2'⟩; have hb2 := below_of_drew hb2'; clear hb2'; have z1 := (hb2.cell (p := ⟨g5, 1, none⟩) (block_lt_of_cell x1)).trans x1; have z2 := (hb2.cell (p := ⟨g5, 2, none⟩) (block_lt_of_cell x2)).trans x2))
      all_goals
       go_wp2_with fail
       go_meet
       exact ⟨hb2, rfl, rfl⟩
     obtain ⟨hbc, rfl, rfl⟩ := hcut.out
     clear hcut KDC
     cases ok with
     | false =>
      go_wp2
      go_ret2
      exact ⟨below2 KB.out hbc, HFz.out⟩
     | true =>
      go_wp2
      go_ret2
      exact ⟨below2 KB.out hbc, HFz.out⟩
end Go.Proofs.YtodnodekheaacaaGreatDoor
