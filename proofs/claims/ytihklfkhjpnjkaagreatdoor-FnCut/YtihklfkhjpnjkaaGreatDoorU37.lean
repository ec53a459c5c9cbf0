import Derived.Test.YtihklfkhjpnjkaaGreatDoorU35
import Derived.Test.YtihklfkhjpnjkaaGreatDoorU31
import Derived.Test.YtihklfkhjpnjkaaGreatDoorU10
import Derived.Test.YtihklfkhjpnjkaaGreatDoorU28
import Derived.Test.YtihklfkhjpnjkaaGreatDoorU32
import Derived.Test.YtihklfkhjpnjkaaGreatDoorU34
import Derived.Test.YtihklfkhjpnjkaaGreatDoorU13
set_option maxHeartbeats 8000000
set_option maxRecDepth 2000
open Go.ChangeShapes Go.WideShapes Go.ChangeAt Go.RowKit
namespace Go.Proofs.YtihklfkhjpnjkaaGreatDoor
abbrev pcY : Array Value := #[.string ⟨#[]⟩, .int .i64 0, .int .i64 0, .int .i64 0, .string ⟨#[]⟩, .slice none 0 0]
def RdA (s : ByteArray) (w w' : World) (e : Ending) : Prop := ∃ (p : Pc) (b : Bool) (a : Option Addr) (cap : Nat), e = .returned (.tuple #[pcV p.r p.k p.n p.i p.b (.slice a p.m cap), .bool b]) ∧ OwnT w' w.heap.size a p.m cap p.S ∧ RdS s p b
theorem rdA_no {s : ByteArray} (w w' : World) (h : NoQ s) : RdA s w w' (.returned (.tuple #[.agg pcY, .bool false])) := ⟨pz, false, none, 0, rfl, OwnT.nil _ _ _, .inr ⟨rfl, rfl, h⟩⟩
theorem tot_at (L : Nat → Nat) {m j : Nat} (h : j < m) : L j ≤ tot L m := by
 have h1 := tot_le L h
 omega
theorem readPiece_any (s : ByteArray) (w : World) (hs : s.size ≤ 1048576) (hN : NumW w) (hE : ErrT w) (hT : TabOk w) :
  Calls Tryz.prog 14 #[.string s] w fun e w' => RdA s w w' e ∧ Below w.heap.size w w' := by
 have hmf : ∀ (fn : Fn) (first cap : Array Value) (w : World), (Instr.makeFunc fn first cap).run Tryz.prog w = .ok (.func fn first cap) w := fun _ _ _ _ => rfl
 obtain ⟨B, HB⟩ : ∃ x, Hid (x = w.heap.size) := ⟨_, rfl⟩
 obtain ⟨w0, HW0⟩ : ∃ x, Hid (x = (w.alloc (.cells pcY 33)).alloc (.cells #[.bool false] 4)) := ⟨_, rfl⟩
 have HR0 : Row w0 B 33 pcY := by rw [HW0.out, HB.out]; exact (Row.new w _ _).alloc _
 have c0 : w0.cell? ⟨B + 1, 0, none⟩ = some (.bool false) := by rw [HW0.out, HB.out]; simp
 have f0 : w0.frozen? ⟨B + 1, 0, none⟩ = false := by rw [HW0.out, HB.out]; simp
 have b0 : Below w.heap.size w w0 := by rw [HW0.out]; exact ((Below.refl _ _).alloc (Nat.le_refl _) _).alloc (by simp) _
 have hBw : w.heap.size ≤ B := by rw [HB.out]; exact Nat.le_refl _
 have hBw1 : w.heap.size ≤ B + 1 := by omega
 have hs1 : Hid (w.heap.size + 1 = B + 1) := by show _ = _; rw [HB.out]
 have lB : B + 1 < w0.heap.size := block_lt_of_cell c0
 have KB0 : Hid (Below w.heap.size w w0) := b0
 have KE : Hid (ErrT w0) := hE.below b0
 have KTb : Hid (TabOk w0) := hT.below b0
 have KRP : Hid _ := readParts_any s w0 hs (hN.below b0)
 have KD : Hid (∀ W, Below w0.heap.size w0 W → ErrT W ∧ W.cell? ⟨B + 1, 0, none⟩ = some (.bool false) ∧ W.frozen? ⟨B + 1, 0, none⟩ = false ∧ Below w.heap.size w W ∧ Row W B 33 pcY) := fun W hW => ⟨KE.out.below hW, (hW.cell (p := ⟨B + 1, 0, none⟩) lB).trans c0, (World.frozen?_of_block (a := ⟨B + 1, 0, none⟩) (hW.block _ lB)).trans f0, below2 KB0.out hW, HR0.below hW (by omega)⟩
 have HSm : Hid (rdOk s → (rdP s).r.size + (rdP s).b.size + ((rdP s).m + tot (fun i => ((rdP s).S i).size) (rdP s).m) ≤ 1048576) := fun h => Nat.le_trans (read_sum s hbS hbS_le h.1) hs
 clear hN hE hT b0 c0 f0 HR0
 go_enter_defers Tryz.func14, Tryz.ntmps14
 go_wp2_with fail
 rw [← HW0.out, hs1.out, ← HB.out]
 refine Calls.mono KRP.out ?_
 rintro e w1 ⟨h1, hb1⟩
 rcases h1 with ⟨a, cap, rfl, hO, hok⟩ | ⟨rfl, hno⟩
 case inr =>
  obtain ⟨d1, d2, d3, d4, d5⟩ := KD.out w1 hb1
  go_wp2
  refine leaves_cons (f := 37) (args := #[.pointer (some ⟨B + 1, 0, none⟩)]) (by simp) (by simp [go_sem]) ?_
  refine (catchP_panicking ⟨B + 1, 0, none⟩ _ [] _ d1 d2 d3).mono ?_
  rintro e u' w'' ⟨rfl, rfl, W, hW, rfl⟩
  have z := World.cell?_setCell_same W ⟨B + 1, 0, none⟩ (.bool false) ((hW.cell (p := ⟨B + 1, 0, none⟩) (block_lt_of_cell d2)).trans d2)
  have hR := d5.below hW d5.lt
  have q0 := hR.cell 0
  have q1 := hR.cell 1
  have q2 := hR.cell 2
  have q3 := hR.cell 3
  have q4 := hR.cell 4
  have q5 := hR.cell 5
  simp at q0 q1 q2 q3 q4 q5
  have hf := rdA_no w (W.setCell ⟨B + 1, 0, none⟩ (.bool false)) (no_words hno)
  simp [Leaves, settle, results, Tryz.results14, go_sem, z, q0, q1, q2, q3, q4, q5]
  exact ⟨by simpa using hf, (below2 d4 hW).setCell hBw1 _⟩
 have HNp : Hid (¬ (okQ (rdP s) = true ∧ txQ (rdP s) = s) → NoQ s) := no_prog
 have hsm := HSm.out hok
 obtain ⟨p, HP⟩ : ∃ x, Hid (rdP s = x) := ⟨_, rfl⟩
 rw [HP.out] at hO HNp hsm ⊢
 have HSum : Hid (p.r.size + p.b.size + (p.m + tot (fun i => (p.S i).size) p.m) ≤ 1048576) := hsm
 have hpm : p.m ≤ 1048576 := by omega
 have HL : Hid (∀ i, i < p.m → (p.S i).size ≤ maxLen) := fun i hi => by
  have h1 := tot_at (fun i => (p.S i).size) hi
  have h2 : (p.S i).size ≤ tot (fun i => (p.S i).size) p.m := h1
  have h3 : (1048576 : Nat) ≤ maxLen := by decide
  omega
 obtain ⟨D, HD⟩ : ∃ x, Hid (x = w1.heap.size) := ⟨_, rfl⟩
 obtain ⟨w2, HW2⟩ : ∃ x, Hid (x = w1.alloc (.cells (pcC p.r p.k p.n p.i p.b (.slice a p.m cap)) 33)) := ⟨_, rfl⟩
 have b12 : Below w1.heap.size w1 w2 := by rw [HW2.out]; exact (Below.refl _ _).alloc (Nat.le_refl _) _
 have R2 : Hid (Row w2 D 33 (pcC p.r p.k p.n p.i p.b (.slice a p.m cap))) := by show Row _ _ _ _; rw [HW2.out, HD.out]; exact Row.new w1 _ _
 have O2 : Hid (OwnT w2 w0.heap.size a p.m cap p.S) := hO.below b12
 have B02 : Hid (Below w0.heap.size w0 w2) := below2 hb1 b12
 have KOK : Hid _ := pieceOk_any p.r p.k p.n p.i p.b a p.m cap p.S w2 O2.out.at hpm HL.out
 clear hO hb1 b12 hsm hok KRP HSm
 go_wp2_with (rw [← HW2.out, ← HD.out]; refine wpList_load_row (by rfl) 33 _ (by rfl) D (by rfl) 33 (pcC p.r p.k p.n p.i p.b (.slice a p.m cap)) (0, 0) _ ?_ Tryz.underlying33 (by rfl) Tryz.infoPc ?_; exact R2.out)
 refine Calls.mono KOK.out ?_
 rintro e w3 ⟨rfl, hb3⟩
 have HOKQ : Hid (okQ p = okP p.r p.k p.n p.i p.b p.m p.S) := rfl
 obtain ⟨ok, HOK⟩ : ∃ x, Hid (okP p.r p.k p.n p.i p.b p.m p.S = x) := ⟨_, rfl⟩
 rw [HOK.out]
 have B03 : Hid (Below w0.heap.size w0 w3) := below2 B02.out hb3
 have R3 : Hid (Row w3 D 33 (pcC p.r p.k p.n p.i p.b (.slice a p.m cap))) := R2.out.below hb3 R2.out.lt
 have O3 : Hid (OwnT w3 w0.heap.size a p.m cap p.S) := O2.out.below hb3
 cases ok with
 | false =>
  obtain ⟨d1, d2, d3, d4, d5⟩ := KD.out w3 B03.out
  have hnq : NoQ s := HNp.out fun h => by rw [HOKQ.out, HOK.out] at h; cases h.1
  clear hb3 KOK
  go_wp2_with fail
  refine Calls.mono (need_no 2 w3) ?_
  rintro e w' ⟨rfl, rfl⟩
  go_wp2
  refine leaves_cons (f := 37) (args := #[.pointer (some ⟨B + 1, 0, none⟩)]) (by simp) (by simp [go_sem]) ?_
  refine (catchP_panicking ⟨B + 1, 0, none⟩ _ [] _ d1 d2 d3).mono ?_
  rintro e u' w'' ⟨rfl, rfl, W, hW, rfl⟩
  have z := World.cell?_setCell_same W ⟨B + 1, 0, none⟩ (.bool false) ((hW.cell (p := ⟨B + 1, 0, none⟩) (block_lt_of_cell d2)).trans d2)
  have hR := d5.below hW d5.lt
  have q0 := hR.cell 0
  have q1 := hR.cell 1
  have q2 := hR.cell 2
  have q3 := hR.cell 3
  have q4 := hR.cell 4
  have q5 := hR.cell 5
  simp at q0 q1 q2 q3 q4 q5
  have hf := rdA_no w (W.setCell ⟨B + 1, 0, none⟩ (.bool false)) hnq
  simp [Leaves, settle, results, Tryz.results14, go_sem, z, q0, q1, q2, q3, q4, q5]
  exact ⟨by simpa using hf, (below2 d4 hW).setCell hBw1 _⟩
 | true =>
  have hpt := okP_parts HOK.out
  have KTX : Hid (Calls Tryz.prog 15 #[pcV p.r p.k p.n p.i p.b (.slice a p.m cap)] w3 fun e w' => e = .returned (.string (txQ p)) ∧ Below w3.heap.size w3 w') := pieceText_any p.r p.k p.n p.i p.b a p.m cap p.S w3 O3.out.at HSum.out (by omega) (by omega) (by omega) (KTb.out.below B03.out)
  clear hb3 KOK hpt
  have r0 := R3.out.cell 0
  have r1 := R3.out.cell 1
  have r2 := R3.out.cell 2
  have r3 := R3.out.cell 3
  have r4 := R3.out.cell 4
  have r5 := R3.out.cell 5
  simp at r0 r1 r2 r3 r4 r5
  go_wp2_with fail
  refine Calls.mono KTX.out ?_
  rintro e w4 ⟨rfl, hb4⟩
  have B04 : Hid (Below w0.heap.size w0 w4) := below2 B03.out hb4
  have R4 : Hid (Row w4 D 33 (pcC p.r p.k p.n p.i p.b (.slice a p.m cap))) := R3.out.below hb4 R3.out.lt
  have O4 : Hid (OwnT w4 w0.heap.size a p.m cap p.S) := O3.out.below hb4
  obtain ⟨tx, HTX⟩ : ∃ x, Hid (txQ p = x) := ⟨_, rfl⟩
  rw [HTX.out]
  obtain ⟨d1, d2, d3, d4, d5⟩ := KD.out w4 B04.out
  clear hb4 KTX r0 r1 r2 r3 r4 r5
  by_cases heq : tx = s
  case neg =>
   have hnq : NoQ s := HNp.out fun h => heq (by rw [← HTX.out]; exact h.2)
   have heq1 : (tx.toList == s.toList) = false := ba_ne heq
   go_wp2_with fail
   refine Calls.mono (need_no 2 w4) ?_
   rintro e w' ⟨rfl, rfl⟩
   go_wp2
   refine leaves_cons (f := 37) (args := #[.pointer (some ⟨B + 1, 0, none⟩)]) (by simp) (by simp [go_sem]) ?_
   refine (catchP_panicking ⟨B + 1, 0, none⟩ _ [] _ d1 d2 d3).mono ?_
   rintro e u' w'' ⟨rfl, rfl, W, hW, rfl⟩
   have z := World.cell?_setCell_same W ⟨B + 1, 0, none⟩ (.bool false) ((hW.cell (p := ⟨B + 1, 0, none⟩) (block_lt_of_cell d2)).trans d2)
   have hR := d5.below hW d5.lt
   have q0 := hR.cell 0
   have q1 := hR.cell 1
   have q2 := hR.cell 2
   have q3 := hR.cell 3
   have q4 := hR.cell 4
   have q5 := hR.cell 5
   simp at q0 q1 q2 q3 q4 q5
   have hf := rdA_no w (W.setCell ⟨B + 1, 0, none⟩ (.bool false)) hnq
   simp [Leaves, settle, results, Tryz.results14, go_sem, z, q0, q1, q2, q3, q4, q5]
   exact ⟨by simpa using hf, (below2 d4 hW).setCell hBw1 _⟩
  have HQ : Hid (RdS s p true) := .inl ⟨rfl, by rw [HOKQ.out]; exact HOK.out, by rw [HTX.out]; exact heq⟩
  have heq1 : (tx.toList == s.toList) = true := by rw [heq]; simp
  go_wp2_with fail
  refine Calls.mono (need_ok 2 w4) ?_
  rintro e w' ⟨rfl, hw'⟩
  obtain rfl := hw'.symm
  clear hw' HOK HTX heq heq1 HOKQ
  obtain ⟨w6, HW6⟩ : ∃ x, Hid (x = (((((((w4.setCell ⟨B, 0, none⟩ (.string p.r)).setCell ⟨B, 1, none⟩ (.int .i64 p.k)).setCell ⟨B, 2, none⟩ (.int .i64 p.n)).setCell ⟨B, 3, none⟩ (.int .i64 p.i)).setCell ⟨B, 4, none⟩ (.string p.b)).setCell ⟨B, 5, none⟩ (.slice a p.m cap)).setCell ⟨B + 1, 0, none⟩ (.bool true))) := ⟨_, rfl⟩
  have HR6 : Hid (Row w6 B 33 (pcC p.r p.k p.n p.i p.b (.slice a p.m cap))) := by
   show Row _ _ _ _
   rw [HW6.out]
   exact Row.other ((((((d5.set 0 _).set 1 _).set 2 _).set 3 _).set 4 _).set 5 _) _ _ (by omega)
  have B6 : Hid (Below w.heap.size w w6) := by
   show Below _ _ _
   rw [HW6.out]
   exact Below.setCell (Below.setCell (Below.setCell (Below.setCell (Below.setCell (Below.setCell (Below.setCell d4 hBw _) hBw _) hBw _) hBw _) hBw _) hBw _) hBw1 _
  have lB1 : B < w0.heap.size := by omega
  have O6 : Hid (OwnT w6 w0.heap.size a p.m cap p.S) := by
   show OwnT _ _ _ _ _ _
   rw [HW6.out]
   exact OwnT.setFar (OwnT.setFar (OwnT.setFar (OwnT.setFar (OwnT.setFar (OwnT.setFar (OwnT.setFar O4.out lB1) lB1) lB1) lB1) lB1) lB1) lB
  have z6 : w6.cell? ⟨B + 1, 0, none⟩ = some (.bool true) := by
   rw [HW6.out]
   refine World.cell?_setCell_same (u := .bool false) _ _ _ ?_
   simp [World.cell?_setCell_other, d2]
  have f6 : w6.frozen? ⟨B + 1, 0, none⟩ = false := by
   rw [HW6.out]
   simpa using d3
  have q0 := d5.cell 0
  have q1 := d5.cell 1
  have q2 := d5.cell 2
  have q3 := d5.cell 3
  have q4 := d5.cell 4
  have q5 := d5.cell 5
  have f0 := d5.free 0
  have f1 := d5.free 1
  have f2 := d5.free 2
  have f3 := d5.free 3
  have f4 := d5.free 4
  have f5 := d5.free 5
  simp at q0 q1 q2 q3 q4 q5
  have r0 := R4.out.cell 0
  have r1 := R4.out.cell 1
  have r2 := R4.out.cell 2
  have r3 := R4.out.cell 3
  have r4 := R4.out.cell 4
  have r5 := R4.out.cell 5
  simp at r0 r1 r2 r3 r4 r5
  clear d1 d4 d5
  go_wp2
  rw [← HW6.out]
  refine leaves_cons (f := 37) (args := #[.pointer (some ⟨B + 1, 0, none⟩)]) (by simp) (by simp [go_sem]) ?_
  refine (catchP_idle ⟨B + 1, 0, none⟩ _ _ z6 f6).mono ?_
  rintro e u' w'' ⟨rfl, rfl, rfl⟩
  have z := World.cell?_setCell_same w6 ⟨B + 1, 0, none⟩ (.bool true) z6
  have hR := Row.other HR6.out (k := B + 1) 0 (.bool true) (by omega)
  have p0 := hR.cell 0
  have p1 := hR.cell 1
  have p2 := hR.cell 2
  have p3 := hR.cell 3
  have p4 := hR.cell 4
  have p5 := hR.cell 5
  simp at p0 p1 p2 p3 p4 p5
  have hf : RdA s w (w6.setCell ⟨B + 1, 0, none⟩ (.bool true)) (.returned (.tuple #[pcV p.r p.k p.n p.i p.b (.slice a p.m cap), .bool true])) := ⟨p, true, a, cap, rfl, OwnT.base (OwnT.setFar O6.out lB) (by omega), HQ.out⟩
  simp [Leaves, settle, results, Tryz.results14, go_sem, z, p0, p1, p2, p3, p4, p5]
  exact ⟨by simpa using hf, B6.out.setCell hBw1 _⟩
theorem rdS_as {s : ByteArray} {p p' : Pc} {b b' : Bool} (h : RdS s p b) (h' : RdS s p' b') {w : World} {B : Nat} {a : Option Addr} {cap : Nat} (ho : OwnT w B a p'.m cap p'.S) :
  pcV p'.r p'.k p'.n p'.i p'.b (.slice a p'.m cap) = pcV p.r p.k p.n p.i p.b (.slice a p.m cap) ∧ b = b' ∧ OwnT w B a p.m cap p.S := by
 obtain ⟨hb, e1, e2, e3, e4, e5, e6, e7⟩ := RdS.one h' h
 refine ⟨by rw [e1, e2, e3, e4, e5, e6], hb.symm, ?_⟩
 rw [e6] at ho
 exact ho.congr e7
end Go.Proofs.YtihklfkhjpnjkaaGreatDoor
