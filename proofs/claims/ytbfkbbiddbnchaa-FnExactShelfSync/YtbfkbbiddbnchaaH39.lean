/- What the laws do with shelves: counted, copied, compared, marked and asked for. Conditions: lists of at most 2^20. -/
import Derived.Test.YtbfkbbiddbnchaaH38
import Derived.Test.YtbfkbbiddbnchaaH34
import Derived.Test.YtbfkbbiddbnchaaH24
namespace Go.Proofs.Ytbfkbbiddbnchaa
set_option maxRecDepth 2000
open Go.ChangeShapes Go.WideShapes Go.ChangeAt Go.RowKit

set_option maxHeartbeats 1000000 in
theorem markSh_any (id f s : Int) (t : ByteArray) (B : Nat) (a : Option Addr) (n c : Nat) (S : Nat → Sl) (k q : Nat) (F : Nat → Prop) (w : World) (h : Ow w B (slsD n S) (.slice a n c) F) (hn : n ≤ 1048576) (hm : ∀ i, i < n → SlS (S i)) (hq : k + tot (fun i => wkS (S i)) n = q) (hk : q ≤ 40000000) :
    Calls Try.prog 9 #[shV id f (.slice a n c) t s, .int .i64 (k : Int)] w fun e w' => e = .returned (.int .i64 (q : Int)) ∧ Ow w' B (slsD n (mkL k S)) (.slice a n c) F ∧ Trn w w' F := by
  obtain ⟨w0, HW0⟩ : ∃ x, Hid (x = w.alloc (.cells (shC id f (.slice a n c) t s) 32)) := ⟨_, rfl⟩
  have hb0 : Below w.heap.size w w0 := by rw [HW0.out]; exact (Below.refl _ _).alloc (Nat.le_refl _) _
  have KT0 : Hid (Trn w w0 F) := Trn.ofBelow F hb0
  have KM : Hid _ := markNdF_any id f B a n c S k q F w0 (h.below hb0) hn hm hq hk
  clear h hb0 hm hk hq
  go_enter Try.func9, Try.ntmps9
  go_wp2_with fail
  rw [← HW0.out]
  refine Calls.mono KM.out ?_
  rintro e w1 ⟨rfl, hO, hT⟩
  have KT : Hid (Ow w1 B (slsD n (mkL k S)) (.slice a n c) F ∧ Trn w w1 F) := ⟨hO, KT0.out.trans hT⟩
  clear hT hO
  go_wp2
  go_ret
  exact ⟨rfl, KT.out.1, KT.out.2⟩
set_option maxHeartbeats 1000000 in
theorem heldSh_any (id f s : Int) (t : ByteArray) (a : Option Addr) (n c : Nat) (S : Nat → Sl) (k q : Nat) (w : World) (h : Rd w (slsD n (mkL k S)) (.slice a n c)) (hn : n ≤ 1048576) (hm : ∀ i, i < n → SlS (S i)) (hq : k + tot (fun i => wkS (S i)) n = q) (hk : q ≤ 40000000) :
    Calls Try.prog 10 #[shV id f (.slice a n c) t s, .int .i64 (k : Int)] w fun e w' => e = .returned (.int .i64 (q : Int)) ∧ Below w.heap.size w w' := by
  obtain ⟨w0, HW0⟩ : ∃ x, Hid (x = w.alloc (.cells (shC id f (.slice a n c) t s) 32)) := ⟨_, rfl⟩
  have hb0 : Below w.heap.size w w0 := by rw [HW0.out]; exact (Below.refl _ _).alloc (Nat.le_refl _) _
  have KB0 : Hid (Below w.heap.size w w0) := hb0
  have KM : Hid _ := heldNdF_any id f a n c S k q w0 (h.below hb0) hn hm hq hk
  have nq : ¬ ((q : Int) < 0) := by omega
  clear h hb0 hm hk hq
  go_enter Try.func10, Try.ntmps10
  go_wp2_with fail
  rw [← HW0.out]
  refine Calls.mono KM.out ?_
  rintro e w1 ⟨rfl, b1⟩
  go_wp2
  go_ret
  exact ⟨rfl, below2 KB0.out b1⟩
set_option maxHeartbeats 2000000 in
theorem eqSh_same (id f s : Int) (t : ByteArray) (a b : Option Addr) (n ca cb : Nat) (S : Nat → Sl) (w : World) (ha : Rd w (slsD n S) (.slice a n ca)) (hb : Rd w (slsD n S) (.slice b n cb)) (hn : n ≤ 1048576) (hs : ∀ i, i < n → SlS (S i)) :
    Calls Try.prog 8 #[shV id f (.slice a n ca) t s, shV id f (.slice b n cb) t s] w fun e w' => e = .returned (.bool true) ∧ Below w.heap.size w w' := by
  obtain ⟨A, HA⟩ : ∃ x, Hid (x = w.heap.size) := ⟨_, rfl⟩
  obtain ⟨D, HD⟩ : ∃ x, Hid (x = w.heap.size + 1) := ⟨_, rfl⟩
  obtain ⟨w0, HW0⟩ : ∃ x, Hid (x = (w.alloc (.cells (shC id f (.slice a n ca) t s) 32)).alloc (.cells (shC id f (.slice b n cb) t s) 32)) := ⟨_, rfl⟩
  have RA : Hid (Row w0 A 32 (shC id f (.slice a n ca) t s)) := by show Row _ _ _ _; rw [HW0.out, HA.out]; exact Row.alloc (Row.new w _ _) _
  have RD : Hid (Row w0 D 32 (shC id f (.slice b n cb) t s)) := by
    show Row _ _ _ _
    rw [HW0.out, HD.out]
    have := Row.new (w.alloc (.cells (shC id f (.slice a n ca) t s) 32)) (shC id f (.slice b n cb) t s) 32
    simpa using this
  have hb0 : Below w.heap.size w w0 := by rw [HW0.out]; exact ((Below.refl _ _).alloc (Nat.le_refl _) _).alloc (by simp) _
  have KB0 : Hid (Below w.heap.size w w0) := hb0
  have KE : Hid _ := eqNd_same id f a b n ca cb S w0 (ha.below hb0) (hb.below hb0) hn hs
  have f1 : (s != s) = false := by simp
  clear ha hb hb0 hs
  go_enter Try.func8, Try.ntmps8
  go_wp2_with fail
  rw [← HW0.out, ← HD.out, ← HA.out]
  refine Calls.mono KE.out ?_
  rintro e w1 ⟨rfl, b1⟩
  have RA1 := RA.out.below b1 RA.out.lt
  have RD1 := RD.out.below b1 RD.out.lt
  have x3 := RA1.cell 3
  have x4 := RA1.cell 4
  have y3 := RD1.cell 3
  have y4 := RD1.cell 4
  simp at x3 x4 y3 y4
  go_wp2
  go_ret
  exact ⟨rfl, below2 KB0.out b1⟩
set_option maxHeartbeats 2000000 in
theorem szSh_any (id f s : Int) (t : ByteArray) (a : Option Addr) (n cap : Nat) (S : Nat → Sl) (l : Nat) (w : World) (h : Rd w (slsD n S) (.slice a n cap)) (hl : l ≤ 1048576) (hn : n ≤ maxLen) (hL : ∀ i, i < n → SlB (S i)) (ht : t.size ≤ maxLen) :
    Calls Try.prog 4 #[shV id f (.slice a n cap) t s, .int .i64 (l : Int)] w fun e w' => e = .returned (.int .i64 (szN l (wtL n S + t.size))) ∧ Below w.heap.size w w' := by
  obtain ⟨A, HA⟩ : ∃ x, Hid (x = w.heap.size) := ⟨_, rfl⟩
  obtain ⟨w0, HW0⟩ : ∃ x, Hid (x = w.alloc (.cells (shC id f (.slice a n cap) t s) 26)) := ⟨_, rfl⟩
  have RA : Hid (Row w0 A 26 (shC id f (.slice a n cap) t s)) := by show Row _ _ _ _; rw [HW0.out, HA.out]; exact Row.new w _ _
  have hb0 : Below w.heap.size w w0 := by rw [HW0.out]; exact (Below.refl _ _).alloc (Nat.le_refl _) _
  have KB0 : Hid (Below w.heap.size w w0) := hb0
  have KZ : Hid _ := szNd_any id f a n cap S l w0 (h.below hb0) hl hn hL
  unfold maxLen at ht
  clear h hL hb0
  by_cases h1 : wtL n S ≤ l
  · obtain ⟨d, hd⟩ : ∃ d, l - wtL n S = d := ⟨_, rfl⟩
    rw [szN_yes h1, hd] at KZ
    have h0 : ¬ ((d : Int) < 0) := by omega
    by_cases h2 : t.size ≤ d
    · obtain ⟨d2, hd2⟩ : ∃ x, d - t.size = x := ⟨_, rfl⟩
      have HR : Hid (szN l (wtL n S + t.size) = (d2 : Int)) := (szN_yes (by omega)).trans (by congr 1; omega)
      have hw : IntKind.i64.wrap ((d : Int) - (t.size : Int)) = (d2 : Int) := by rw [IntKind.wrap_i64]; omega
      have h3 : ¬ ((d2 : Int) < 0) := by omega
      clear h1 hd h2 hd2
      go_enter Try.func4, Try.ntmps4
      go_wp2_with fail
      rw [← HW0.out, ← HA.out]
      refine Calls.mono KZ.out ?_
      rintro e w1 ⟨rfl, b1⟩
      have x3 := (RA.out.below b1 RA.out.lt).cell 3
      simp at x3
      go_wp2
      go_ret
      exact ⟨ret_int HR.out.symm, below2 KB0.out b1⟩
    · have HR : Hid (szN l (wtL n S + t.size) = -1) := szN_no (by omega)
      have hw : IntKind.i64.wrap ((d : Int) - (t.size : Int)) = (d : Int) - (t.size : Int) := by rw [IntKind.wrap_i64]; omega
      have h3 : (d : Int) - (t.size : Int) < 0 := by omega
      clear h1 hd h2
      go_enter Try.func4, Try.ntmps4
      go_wp2_with fail
      rw [← HW0.out, ← HA.out]
      refine Calls.mono KZ.out ?_
      rintro e w1 ⟨rfl, b1⟩
      have x3 := (RA.out.below b1 RA.out.lt).cell 3
      simp at x3
      go_wp2
      go_ret
      exact ⟨ret_int HR.out.symm, below2 KB0.out b1⟩
  · have HR : Hid (szN l (wtL n S + t.size) = -1) := szN_no (by omega)
    rw [szN_no h1] at KZ
    clear h1
    go_enter Try.func4, Try.ntmps4
    go_wp2_with fail
    rw [← HW0.out]
    refine Calls.mono KZ.out ?_
    rintro e w1 ⟨rfl, b1⟩
    go_wp2
    go_ret
    exact ⟨ret_int HR.out.symm, below2 KB0.out b1⟩
set_option maxHeartbeats 4000000 in
theorem toSh_any (id f s : Int) (t : ByteArray) (a : Option Addr) (n cap : Nat) (S : Nat → Sl) (w : World) (h : Rd w (slsD n S) (.slice a n cap)) (hn : n ≤ 1048576) (hs : ∀ i, i < n → SlS (S i)) :
    Calls Try.prog 6 #[shV id f (.slice a n cap) t s] w fun e w' => ∃ g, e = .returned (shV id f (.slice (some ⟨g, 0, none⟩) n n) t s) ∧ Ow w' w.heap.size (slsD n S) (.slice (some ⟨g, 0, none⟩) n n) (rng w.heap.size w'.heap.size) ∧ Below w.heap.size w w' := by
  obtain ⟨A, HA⟩ : ∃ x, Hid (x = w.heap.size) := ⟨_, rfl⟩
  obtain ⟨D, HD⟩ : ∃ x, Hid (x = w.heap.size + 1) := ⟨_, rfl⟩
  obtain ⟨V, HV⟩ : ∃ x, Hid (x = w.heap.size + 1 + 1) := ⟨_, rfl⟩
  obtain ⟨w0, HW0⟩ : ∃ x, Hid (x = ((w.alloc (.cells (shC id f (.slice a n cap) t s) 26)).alloc (.cells shZ 32)).alloc (.cells shZ 32)) := ⟨_, rfl⟩
  have RA : Hid (Row w0 A 26 (shC id f (.slice a n cap) t s)) := by show Row _ _ _ _; rw [HW0.out, HA.out]; exact Row.alloc (Row.alloc (Row.new w _ _) _) _
  have RD : Hid (Row w0 D 32 shZ) := by
    show Row _ _ _ _
    rw [HW0.out, HD.out]
    have := Row.new (w.alloc (.cells (shC id f (.slice a n cap) t s) 26)) shZ 32
    exact Row.alloc (by simpa using this) _
  have RV : Hid (Row w0 V 32 shZ) := by
    show Row _ _ _ _
    rw [HW0.out, HV.out]
    have := Row.new ((w.alloc (.cells (shC id f (.slice a n cap) t s) 26)).alloc (.cells shZ 32)) shZ 32
    simpa using this
  have hb0 : Below w.heap.size w w0 := by rw [HW0.out]; exact (((Below.refl _ _).alloc (Nat.le_refl _) _).alloc (by simp) _).alloc (by simp; omega) _
  have HL : Hid (V ≠ D ∧ w.heap.size ≤ D ∧ w.heap.size ≤ V ∧ V < w0.heap.size ∧ D < w0.heap.size) := by
    have h1 := HV.out; have h2 := HD.out
    exact ⟨by omega, by omega, by omega, RV.out.lt, RD.out.lt⟩
  have KB0 : Hid (Below w.heap.size w w0) := hb0
  have KT : Hid _ := toNd_any id f a n cap S w0 (h.below hb0) hn hs
  clear h hs hb0
  go_enter Try.func6, Try.ntmps6
  go_wp2_with fail
  rw [← HW0.out, ← HV.out, ← HD.out, ← HA.out]
  refine Calls.mono KT.out ?_
  rintro e w1 ⟨g, rfl, O1, b1⟩
  have A1 := RA.out.below b1 RA.out.lt
  have V1 := RV.out.below b1 RV.out.lt
  have D1 := RD.out.below b1 RD.out.lt
  have x3 := A1.cell 3
  have x4 := A1.cell 4
  have y0 := V1.cell 0
  have y1 := V1.cell 1
  have y2 := V1.cell 2
  have y3 := V1.cell 3
  have y4 := V1.cell 4
  have f0 := V1.free 0
  have f1 := V1.free 1
  have f2 := V1.free 2
  have f3 := V1.free 3
  have f4 := V1.free 4
  simp at x3 x4 y0 y1 y2 y3 y4
  obtain ⟨w2, HW2⟩ : ∃ x, Hid (x = ((((w1.setCell ⟨V, 0, none⟩ (.int .i64 id)).setCell ⟨V, 1, none⟩ (.int .i64 f)).setCell ⟨V, 2, none⟩ (.slice (some ⟨g, 0, none⟩) n n)).setCell ⟨V, 3, none⟩ (.string t)).setCell ⟨V, 4, none⟩ (.int .i64 s)) := ⟨_, rfl⟩
  have nV : ¬ rng w0.heap.size w1.heap.size V := fun k => by have h1 : w0.heap.size ≤ V := k.1; have := HL.out.2.2.2.1; omega
  have J2 : Hid (Row w2 V 32 (shC id f (.slice (some ⟨g, 0, none⟩) n n) t s) ∧ Row w2 D 32 shZ ∧ Ow w2 w0.heap.size (slsD n S) (.slice (some ⟨g, 0, none⟩) n n) (rng w0.heap.size w1.heap.size) ∧ Below w.heap.size w w2) := by
    rw [HW2.out]
    have ne := Ne.symm HL.out.1
    have lv := HL.out.2.2.1
    exact ⟨((((V1.set 0 _).set 1 _).set 2 _).set 3 _).set 4 _, ((((D1.other 0 _ ne).other 1 _ ne).other 2 _ ne).other 3 _ ne).other 4 _ ne, ((((O1.far 0 _ nV).far 1 _ nV).far 2 _ nV).far 3 _ nV).far 4 _ nV, (((((below2 KB0.out b1).setCell lv _).setCell lv _).setCell lv _).setCell lv _).setCell lv _⟩
  have S2 : w2.heap.size = w1.heap.size := by rw [HW2.out]; simp
  obtain ⟨w3, HW3⟩ : ∃ x, Hid (x = w2.setRow D (shC id f (.slice (some ⟨g, 0, none⟩) n n) t s)) := ⟨_, rfl⟩
  have S3 : w3.heap.size = w2.heap.size := by rw [HW3.out]; simp [World.setRow]
  have ZR : Hid (Row w3 D 32 (shC id f (.slice (some ⟨g, 0, none⟩) n n) t s)) := by show Row _ _ _ _; rw [HW3.out]; exact J2.out.2.1.row
  have ZB : Hid (Below w.heap.size w w3) := by show Below _ _ _; rw [HW3.out]; exact belowSetRow J2.out.2.2.2 HL.out.2.1 _
  have ZO : Hid (Ow w3 w.heap.size (slsD n S) (.slice (some ⟨g, 0, none⟩) n n) (rng w.heap.size w3.heap.size)) := by
    show Ow _ _ _ _ _
    rw [S3, S2]
    have hw0 := KB0.out.size
    have h1 : Ow w3 w0.heap.size (slsD n S) (.slice (some ⟨g, 0, none⟩) n n) (rng w0.heap.size w1.heap.size) := by
      rw [HW3.out]
      exact J2.out.2.2.1.frame fun x hx _ => setRow_other _ _ _ _ (fun e => by have := hx.1; have := HL.out.2.2.2.2; omega)
    exact (h1.base hw0).mono (fun x hx => ⟨by have := hx.1; omega, hx.2⟩)
  clear A1 V1 D1 S2 S3 O1 b1 nV
  go_wp2_with (first | (rw [← HW2.out]; refine wpList_load_row (by rfl) 32 _ (by rfl) V (by rfl) 32 (shC id f (.slice (some ⟨g, 0, none⟩) n n) t s) (0, 0) _ ?_ Try.underlying32 (by rfl) Try.infoSh ?_; exact J2.out.1; clear x3 x4 y0 y1 y2 y3 y4 f0 f1 f2 f3 f4) | (refine wpList_store_row (by rfl) 32 _ _ (by rfl) D (shC id f (.slice (some ⟨g, 0, none⟩) n n) t s) (by rfl) (by rfl) 32 shZ ?_ Try.infoSh rfl (by simp [Value.oneCell']) ?_; exact J2.out.2.1; rw [← HW3.out]))
  exact bodyPost_ret (v := shV id f (.slice (some ⟨g, 0, none⟩) n n) t s) (results_cell_row Try.results6 _ _ D 32 _ (0, 0) _ (by rfl) ZR.out Try.underlying32 (by rfl) Try.infoSh) rfl ⟨g, rfl, ZO.out, ZB.out⟩
theorem open_shelf {H : Type} {enc : TypeId × Value → H} {w : World} {base : Nat} {spare : Nat → Bool} {held : Bool} {fuel : Nat} {cs : List Value} {x : DataW H × List MemPlace} (h : DataW.trod enc Try.prog w base spare held fuel 26 cs = some x) :
    ∃ (id f : Int) (a : Option Addr) (n c : Nat) (S : Nat → Sl) (t : ByteArray) (s : Int), cs = [.int .i64 id, .int .i64 f, .slice a n c, .string t, .int .i64 s] ∧ Rd w (slsD n S) (.slice a n c) ∧ n ≤ maxLen ∧ (∀ i, i < n → SlB (S i)) ∧ t.size ≤ maxLen := by
  have c5 : Try.prog.cellsOf 26 = 5 := by kernel_rfl
  have ci1 : Try.prog.cellsOf 3 = 1 := by kernel_rfl
  have cs1 : Try.prog.cellsOf 9 = 1 := by kernel_rfl
  have cn3 : Try.prog.cellsOf 24 = 3 := by kernel_rfl
  obtain ⟨xs, f, _, _, hl, hlen, hf⟩ := DataW.trod_struct Try.underlying26 h
  rw [c5] at hl
  obtain ⟨c0, c1, c2, c3, c4, rfl⟩ : ∃ c0 c1 c2 c3 c4, cs = [c0, c1, c2, c3, c4] := by
    match cs, hl with
    | [c0, c1, c2, c3, c4], _ => exact ⟨c0, c1, c2, c3, c4, rfl⟩
  obtain ⟨y0, y1, y2, rfl⟩ := list3 xs hlen
  have g0 := hf 0 _ rfl
  have g1 := hf 1 _ rfl
  have g2 := hf 2 _ rfl
  simp [ci1, cs1, cn3] at g0 g1 g2
  obtain ⟨id, ff, a, n, c, S, e0, h1, h2, h3⟩ := open_node g0
  obtain ⟨t, e1, _, ht⟩ := DataW.trod_string Try.underlying9 g1
  obtain ⟨s, e2, _, _⟩ := DataW.trod_int Try.underlying3 g2
  simp at e0 e1 e2
  obtain ⟨rfl, rfl, rfl⟩ := e0
  subst e1 e2
  exact ⟨id, ff, a, n, c, S, t, s, rfl, h1, h2, h3, ht⟩
end Go.Proofs.Ytbfkbbiddbnchaa
