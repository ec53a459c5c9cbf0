/- A shelf: copied and made safe, in the program and in the model. Conditions: lists and texts of at most 2^20. -/
import Derived.Test.YtbfkbbiddbnchaaH37
namespace Go.Proofs.Ytbfkbbiddbnchaa
set_option maxRecDepth 2000
open Go.ChangeShapes Go.WideShapes Go.ChangeAt Go.RowKit

/-- A shelf's value. -/
abbrev shC (id f : Int) (v : Value) (t : ByteArray) (s : Int) : Array Value := #[.int .i64 id, .int .i64 f, v, .string t, .int .i64 s]
abbrev shV (id f : Int) (v : Value) (t : ByteArray) (s : Int) : Value := .agg (shC id f v t s)
abbrev shZ : Array Value := #[.int .i64 0, .int .i64 0, .slice none 0 0, .string ⟨#[]⟩, .int .i64 0]
theorem Try.infoSh : (Try.prog.info? 32).map (·.size) = some 5 := by kernel_rfl
theorem Try.infoShL : (Try.prog.info? 26).map (·.size) = some 5 := by kernel_rfl
set_option maxHeartbeats 4000000 in
theorem sCopySh_any (id f s : Int) (t : ByteArray) (a : Option Addr) (n cap : Nat) (S : Nat → Sl) (w : World) (h : Rd w (slsD n S) (.slice a n cap)) (hn : n ≤ 1048576) (hs : ∀ i, i < n → SlS (S i)) :
    Calls Try.prog 12 #[shV id f (.slice a n cap) t s] w fun e w' => ∃ g c, e = .returned (shV id f (.slice (some ⟨g, 0, none⟩) n c) t s) ∧ Ow w' w.heap.size (slsD n S) (.slice (some ⟨g, 0, none⟩) n c) (rng w.heap.size w'.heap.size) ∧ Below w.heap.size w w' := by
  obtain ⟨A, HA⟩ : ∃ x, Hid (x = w.heap.size) := ⟨_, rfl⟩
  obtain ⟨D, HD⟩ : ∃ x, Hid (x = w.heap.size + 1) := ⟨_, rfl⟩
  obtain ⟨w0, HW0⟩ : ∃ x, Hid (x = (w.alloc (.cells (shC id f (.slice a n cap) t s) 32)).alloc (.cells shZ 32)) := ⟨_, rfl⟩
  have RA : Hid (Row w0 A 32 (shC id f (.slice a n cap) t s)) := by show Row _ _ _ _; rw [HW0.out, HA.out]; exact Row.alloc (Row.new w _ _) _
  have RD : Hid (Row w0 D 32 shZ) := by
    show Row _ _ _ _
    rw [HW0.out, HD.out]
    have := Row.new (w.alloc (.cells (shC id f (.slice a n cap) t s) 32)) shZ 32
    simpa using this
  have hb0 : Below w.heap.size w w0 := by rw [HW0.out]; exact ((Below.refl _ _).alloc (Nat.le_refl _) _).alloc (by simp) _
  have KB0 : Hid (Below w.heap.size w w0) := hb0
  have HL : Hid (A ≠ D ∧ w.heap.size ≤ A ∧ w.heap.size ≤ D ∧ A < w0.heap.size ∧ D < w0.heap.size) := ⟨by have := HA.out; have := HD.out; omega, by have := HA.out; omega, by have := HD.out; omega, RA.out.lt, RD.out.lt⟩
  have KC : Hid _ := sCopyN_any id f a n cap S w0 (h.below hb0) hn hs
  have y0 := RA.out.cell 0
  have y1 := RA.out.cell 1
  have y2 := RA.out.cell 2
  simp at y0 y1 y2
  clear h hb0 hs
  go_enter Try.func12, Try.ntmps12
  go_wp2_with fail
  rw [← HW0.out, ← HD.out, ← HA.out]
  refine Calls.mono KC.out ?_
  rintro e w1 ⟨g, c, rfl, O1, b1⟩
  clear y0 y1 y2
  have RA1 := RA.out.below b1 RA.out.lt
  have RD1 := RD.out.below b1 RD.out.lt
  have y0 := RA1.cell 0
  have y1 := RA1.cell 1
  have y2 := RA1.cell 2
  have f0 := RA1.free 0
  have f1 := RA1.free 1
  have f2 := RA1.free 2
  simp at y0 y1 y2
  obtain ⟨w3, HW3⟩ : ∃ x, Hid (x = ((w1.setCell ⟨A, 0, none⟩ (.int .i64 id)).setCell ⟨A, 1, none⟩ (.int .i64 f)).setCell ⟨A, 2, none⟩ (.slice (some ⟨g, 0, none⟩) n c)) := ⟨_, rfl⟩
  have J3 : Hid (Row w3 A 32 (shC id f (.slice (some ⟨g, 0, none⟩) n c) t s) ∧ Row w3 D 32 shZ ∧ Ow w3 w0.heap.size (slsD n S) (.slice (some ⟨g, 0, none⟩) n c) (rng w0.heap.size w1.heap.size) ∧ Below w.heap.size w w3) := by
    rw [HW3.out]
    have nf : ¬ rng w0.heap.size w1.heap.size A := fun hk => by have := hk.1; have := HL.out.2.2.2.1; omega
    exact ⟨((RA1.set 0 _).set 1 _).set 2 _, ((RD1.other 0 _ (Ne.symm HL.out.1)).other 1 _ (Ne.symm HL.out.1)).other 2 _ (Ne.symm HL.out.1), ((O1.far 0 _ nf).far 1 _ nf).far 2 _ nf, (((below2 KB0.out b1).setCell HL.out.2.1 _).setCell HL.out.2.1 _).setCell HL.out.2.1 _⟩
  have S3 : w3.heap.size = w1.heap.size := by rw [HW3.out]; simp
  obtain ⟨w7, HW7⟩ : ∃ x, Hid (x = w3.setRow D (shC id f (.slice (some ⟨g, 0, none⟩) n c) t s)) := ⟨_, rfl⟩
  have S7 : w7.heap.size = w3.heap.size := by rw [HW7.out]; simp [World.setRow]
  have ZR : Hid (Row w7 D 32 (shC id f (.slice (some ⟨g, 0, none⟩) n c) t s)) := by show Row _ _ _ _; rw [HW7.out]; exact J3.out.2.1.row
  have ZB : Hid (Below w.heap.size w w7) := by show Below _ _ _; rw [HW7.out]; exact belowSetRow J3.out.2.2.2 HL.out.2.2.1 _
  have ZO : Hid (Ow w7 w.heap.size (slsD n S) (.slice (some ⟨g, 0, none⟩) n c) (rng w.heap.size w7.heap.size)) := by
    show Ow _ _ _ _ _
    rw [S7, S3]
    have hw0 := KB0.out.size
    have h1 : Ow w7 w0.heap.size (slsD n S) (.slice (some ⟨g, 0, none⟩) n c) (rng w0.heap.size w1.heap.size) := by
      rw [HW7.out]
      exact J3.out.2.2.1.frame fun x hx _ => setRow_other _ _ _ _ (fun e => by have := hx.1; have := HL.out.2.2.2.2; omega)
    exact (h1.base hw0).mono (fun x hx => ⟨by have := hx.1; omega, hx.2⟩)
  clear RA1 RD1 S3 S7 O1 b1
  go_wp2_with (first | (rw [← HW3.out]; refine wpList_load_row (by rfl) 32 _ (by rfl) A (by rfl) 32 (shC id f (.slice (some ⟨g, 0, none⟩) n c) t s) (0, 0) _ ?_ Try.underlying32 (by rfl) Try.infoSh ?_; exact J3.out.1; clear y0 y1 y2 f0 f1 f2) | (refine wpList_store_row (by rfl) 32 _ _ (by rfl) D (shC id f (.slice (some ⟨g, 0, none⟩) n c) t s) (by rfl) (by rfl) 32 shZ ?_ Try.infoSh rfl (by simp [Value.oneCell']) ?_; exact J3.out.2.1; rw [← HW7.out]))
  exact bodyPost_ret (v := shV id f (.slice (some ⟨g, 0, none⟩) n c) t s) (results_cell_row Try.results12 _ _ D 32 _ (0, 0) _ (by rfl) ZR.out Try.underlying32 (by rfl) Try.infoSh) rfl ⟨g, c, rfl, ZO.out, ZB.out⟩
/-- What stands while a shelf is copied: V is its node's list. -/
structure ShP (w w0 : World) (A D g n : Nat) (id f s : Int) (t : ByteArray) (S : Nat → Sl) (V : Value) (W : World) : Prop where
  a : Row W A 32 (shC id f V t s)
  d : Row W D 32 shZ
  o : Ow W w0.heap.size (slsD n S) (.slice (some ⟨g, 0, none⟩) n n) (rng w0.heap.size W.heap.size)
  b : Below w.heap.size w W
theorem ShP.below {w w0 : World} {A D g n : Nat} {id f s : Int} {t : ByteArray} {S : Nat → Sl} {V : Value} {W W' : World} (h : ShP w w0 A D g n id f s t S V W) (b : Below W.heap.size W W') : ShP w w0 A D g n id f s t S V W' :=
  ⟨h.a.below b h.a.lt, h.d.below b h.d.lt, (h.o.below b).mono (fun x hx => ⟨hx.1, by have := hx.2; have := b.size; omega⟩), below2 h.b b⟩
theorem ShP.set {w w0 : World} {A D g n : Nat} {id f s : Int} {t : ByteArray} {S : Nat → Sl} {V : Value} {W : World} (h : ShP w w0 A D g n id f s t S V W) (hA : A ≠ D ∧ w.heap.size ≤ A ∧ A < w0.heap.size) (i : Nat) (x V' : Value) (e : (shC id f V t s).setIfInBounds i x = shC id f V' t s) : ShP w w0 A D g n id f s t S V' (W.setCell ⟨A, i, none⟩ x) := by
  refine ⟨?_, h.d.other i _ (Ne.symm hA.1), ?_, h.b.setCell hA.2.1 _⟩
  · have := h.a.set i x
    rw [e] at this
    exact this
  · have := h.o.far i x (fun hk => by have h1 : w0.heap.size ≤ A := hk.1; have h2 := hA.2.2; omega)
    simpa using this
theorem ShP.cells {w w0 : World} {A D g n : Nat} {id f s : Int} {t : ByteArray} {S : Nat → Sl} {V : Value} {W : World} (h : ShP w w0 A D g n id f s t S V W) : (W.cell? ⟨A, 0, none⟩ = some (.int .i64 id) ∧ W.cell? ⟨A, 1, none⟩ = some (.int .i64 f) ∧ W.cell? ⟨A, 2, none⟩ = some V ∧ W.cell? ⟨A, 3, none⟩ = some (.string t)) ∧ W.frozen? ⟨A, 0, none⟩ = false ∧ W.frozen? ⟨A, 1, none⟩ = false ∧ W.frozen? ⟨A, 2, none⟩ = false ∧ W.frozen? ⟨A, 3, none⟩ = false := by
  have z0 := h.a.cell 0
  have z1 := h.a.cell 1
  have z2 := h.a.cell 2
  have z3 := h.a.cell 3
  simp at z0 z1 z2 z3
  exact ⟨⟨z0, z1, z2, z3⟩, h.a.free 0, h.a.free 1, h.a.free 2, h.a.free 3⟩
set_option maxHeartbeats 4000000 in
theorem copiedSh_any (id f s : Int) (t : ByteArray) (a : Option Addr) (n cap : Nat) (S : Nat → Sl) (w : World) (h : Rd w (slsD n S) (.slice a n cap)) (hn : n ≤ 1048576) (hs : ∀ i, i < n → SlK (S i)) (ht : t.size ≤ 1048576) :
    Calls Try.prog 14 #[shV id f (.slice a n cap) t s] w fun e w' => ∃ g c, e = .returned (shV id f (.slice (some ⟨g, 0, none⟩) n c) t s) ∧ Ow w' w.heap.size (slsD n S) (.slice (some ⟨g, 0, none⟩) n c) (rng w.heap.size w'.heap.size) ∧ Below w.heap.size w w' := by
  obtain ⟨A, HA⟩ : ∃ x, Hid (x = w.heap.size) := ⟨_, rfl⟩
  obtain ⟨D, HD⟩ : ∃ x, Hid (x = w.heap.size + 1) := ⟨_, rfl⟩
  obtain ⟨w0, HW0⟩ : ∃ x, Hid (x = (w.alloc (.cells (shC id f (.slice a n cap) t s) 32)).alloc (.cells shZ 32)) := ⟨_, rfl⟩
  have RA : Hid (Row w0 A 32 (shC id f (.slice a n cap) t s)) := by show Row _ _ _ _; rw [HW0.out, HA.out]; exact Row.alloc (Row.new w _ _) _
  have RD : Hid (Row w0 D 32 shZ) := by
    show Row _ _ _ _
    rw [HW0.out, HD.out]
    have := Row.new (w.alloc (.cells (shC id f (.slice a n cap) t s) 32)) shZ 32
    simpa using this
  have hb0 : Below w.heap.size w w0 := by rw [HW0.out]; exact ((Below.refl _ _).alloc (Nat.le_refl _) _).alloc (by simp) _
  have KB0 : Hid (Below w.heap.size w w0) := hb0
  have HL : Hid (A ≠ D ∧ w.heap.size ≤ A ∧ w.heap.size ≤ D ∧ A < w0.heap.size ∧ D < w0.heap.size) := ⟨by have := HA.out; have := HD.out; omega, by have := HA.out; omega, by have := HD.out; omega, RA.out.lt, RD.out.lt⟩
  have KCN : Hid (∀ W, Below w0.heap.size w0 W → Calls Try.prog 21 #[ndV id f (.slice a n cap)] W fun e w' => ∃ g, e = .returned (ndV id f (.slice (some ⟨g, 0, none⟩) n n)) ∧ Ow w' W.heap.size (slsD n S) (.slice (some ⟨g, 0, none⟩) n n) (rng W.heap.size w'.heap.size) ∧ Below W.heap.size W w') := fun W hW => copiedN_any id f a n cap S W ((h.below hb0).below hW) hn hs
  have KCT : Hid (∀ W, Calls Try.prog 22 #[.string t] W fun e w' => e = .returned (.string t) ∧ Below W.heap.size W w') := fun W => clone_any t W ht
  clear h hb0 hs ht
  go_enter Try.func14, Try.ntmps14
  go_wp2_with fail
  rw [← HW0.out, ← HD.out, ← HA.out]
  go_cut [] from 3 to 10 (fun wx => Hid (∃ g, ShP w w0 A D g n id f s t S (.slice (some ⟨g, 0, none⟩) n n) wx))
  case first =>
    have y0 := RA.out.cell 0
    have y1 := RA.out.cell 1
    have y2 := RA.out.cell 2
    have y3 := RA.out.cell 3
    simp at y0 y1 y2 y3
    have KTW : Hid (∀ W g, Below w0.heap.size w0 W → Ow W w0.heap.size (slsD n S) (.slice (some ⟨g, 0, none⟩) n n) (rng w0.heap.size W.heap.size) → ShP w w0 A D g n id f s t S (.slice a n cap) W) := fun W g hW hO => ⟨RA.out.below hW RA.out.lt, RD.out.below hW RD.out.lt, hO, below2 KB0.out hW⟩
    have hA3 : Hid (A ≠ D ∧ w.heap.size ≤ A ∧ A < w0.heap.size) := ⟨HL.out.1, HL.out.2.1, HL.out.2.2.2.1⟩
    have KST : Hid (∀ W g V, ShP w w0 A D g n id f s t S V W → ShP w w0 A D g n id f s t S (.slice (some ⟨g, 0, none⟩) n n) (((W.setCell ⟨A, 0, none⟩ (.int .i64 id)).setCell ⟨A, 1, none⟩ (.int .i64 f)).setCell ⟨A, 2, none⟩ (.slice (some ⟨g, 0, none⟩) n n))) := fun W g V h => ((h.set hA3.out 0 _ V rfl).set hA3.out 1 _ V rfl).set hA3.out 2 _ _ rfl
    have hdr := below_drew w0
    go_region_with ((first | (go_at_call 22; guard_hyp K7; refine Calls.mono (KCT.out _) ?_; rintro e w8 ⟨rfl, b8⟩; have K8 : Hid _ := (by first | exact K7.out.below b8 | exact (KST.out _ _ _ K7.out).below b8); clear b8; obtain ⟨⟨t0, t1, t2, t3⟩, u0, u1, u2, u3⟩ := K8.out.cells) | (go_at_call 21; refine Calls.mono (KCN.out _ hdr) ?_; rintro e w7 ⟨g, rfl, O7, b7'⟩; have b07 := below_of_drew b7'; clear b7'; have K7 : Hid _ := KTW.out _ _ b07 O7; clear b07 O7; obtain ⟨⟨p0, p1, p2, p3⟩, v0, v1, v2, v3⟩ := K7.out.cells)))
    all_goals
      go_wp2_with fail
      go_meet
      first
        | exact ⟨g, (KST.out _ _ _ K8.out).set hA3.out 3 _ _ rfl⟩
        | exact ⟨g, K8.out.set hA3.out 3 _ _ rfl⟩
  obtain ⟨g, HJ⟩ := hcut.out
  have J3 : Hid _ := HJ
  clear hcut HJ
  obtain ⟨w7, HW7⟩ : ∃ x, Hid (x = wc.setRow D (shC id f (.slice (some ⟨g, 0, none⟩) n n) t s)) := ⟨_, rfl⟩
  have S7 : w7.heap.size = wc.heap.size := by rw [HW7.out]; simp [World.setRow]
  have ZR : Hid (Row w7 D 32 (shC id f (.slice (some ⟨g, 0, none⟩) n n) t s)) := by show Row _ _ _ _; rw [HW7.out]; exact J3.out.d.row
  have ZB : Hid (Below w.heap.size w w7) := by show Below _ _ _; rw [HW7.out]; exact belowSetRow J3.out.b HL.out.2.2.1 _
  have ZO : Hid (Ow w7 w.heap.size (slsD n S) (.slice (some ⟨g, 0, none⟩) n n) (rng w.heap.size w7.heap.size)) := by
    show Ow _ _ _ _ _
    rw [S7]
    have hw0 := KB0.out.size
    have h1 : Ow w7 w0.heap.size (slsD n S) (.slice (some ⟨g, 0, none⟩) n n) (rng w0.heap.size wc.heap.size) := by
      rw [HW7.out]
      exact J3.out.o.frame fun x hx _ => setRow_other _ _ _ _ (fun e => by have := hx.1; have := HL.out.2.2.2.2; omega)
    exact (h1.base hw0).mono (fun x hx => ⟨by have := hx.1; omega, hx.2⟩)
  clear S7
  go_wp2_with (first | (refine wpList_load_row (by rfl) 32 _ (by rfl) A (by rfl) 32 (shC id f (.slice (some ⟨g, 0, none⟩) n n) t s) (0, 0) _ ?_ Try.underlying32 (by rfl) Try.infoSh ?_; exact J3.out.a) | (refine wpList_store_row (by rfl) 32 _ _ (by rfl) D (shC id f (.slice (some ⟨g, 0, none⟩) n n) t s) (by rfl) (by rfl) 32 shZ ?_ Try.infoSh rfl (by simp [Value.oneCell']) ?_; exact J3.out.d; rw [← HW7.out]))
  exact bodyPost_ret (v := shV id f (.slice (some ⟨g, 0, none⟩) n n) t s) (results_cell_row Try.results14 _ _ D 32 _ (0, 0) _ (by rfl) ZR.out Try.underlying32 (by rfl) Try.infoSh) rfl ⟨g, n, rfl, ZO.out, ZB.out⟩
set_option maxHeartbeats 4000000 in
theorem sSync_any (id f s : Int) (t : ByteArray) (a : Option Addr) (n cap : Nat) (S : Nat → Sl) (w : World) (h : Rd w (slsD n S) (.slice a n cap)) (hn : n ≤ 1048576) (hs : ∀ i, i < n → SlS (S i)) (ht : t.size ≤ 1048576) :
    Calls Try.prog 5 #[shV id f (.slice a n cap) t s] w fun e w' => ∃ g c, e = .returned (shV id f (.slice (some ⟨g, 0, none⟩) n c) t (t.size : Int)) ∧ Ow w' w.heap.size (slsD n S) (.slice (some ⟨g, 0, none⟩) n c) (rng w.heap.size w'.heap.size) ∧ Below w.heap.size w w' := by
  obtain ⟨A, HA⟩ : ∃ x, Hid (x = w.heap.size) := ⟨_, rfl⟩
  obtain ⟨D, HD⟩ : ∃ x, Hid (x = w.heap.size + 1) := ⟨_, rfl⟩
  obtain ⟨w0, HW0⟩ : ∃ x, Hid (x = (w.alloc (.cells (shC id f (.slice a n cap) t s) 32)).alloc (.cells shZ 32)) := ⟨_, rfl⟩
  have RA : Hid (Row w0 A 32 (shC id f (.slice a n cap) t s)) := by show Row _ _ _ _; rw [HW0.out, HA.out]; exact Row.alloc (Row.new w _ _) _
  have RD : Hid (Row w0 D 32 shZ) := by
    show Row _ _ _ _
    rw [HW0.out, HD.out]
    have := Row.new (w.alloc (.cells (shC id f (.slice a n cap) t s) 32)) shZ 32
    simpa using this
  have hb0 : Below w.heap.size w w0 := by rw [HW0.out]; exact ((Below.refl _ _).alloc (Nat.le_refl _) _).alloc (by simp) _
  have KB0 : Hid (Below w.heap.size w w0) := hb0
  have HL : Hid (A ≠ D ∧ w.heap.size ≤ A ∧ w.heap.size ≤ D ∧ A < w0.heap.size ∧ D < w0.heap.size) := ⟨by have := HA.out; have := HD.out; omega, by have := HA.out; omega, by have := HD.out; omega, RA.out.lt, RD.out.lt⟩
  have KC : Hid _ := sCopySh_any id f s t a n cap S w0 (h.below hb0) hn hs
  have h63 : t.size ≤ 1048576 := ht
  clear h hb0 hs
  go_enter Try.func5, Try.ntmps5
  go_wp2_with (rw [← HW0.out, ← HD.out, ← HA.out]; refine wpList_load_row (by rfl) 32 _ (by rfl) A (by rfl) 32 (shC id f (.slice a n cap) t s) (0, 0) _ ?_ Try.underlying32 (by rfl) Try.infoSh ?_; exact RA.out)
  refine Calls.mono KC.out ?_
  rintro e w1 ⟨g, c, rfl, O1, b1⟩
  have RA1 : Hid (Row w1 A 32 (shC id f (.slice a n cap) t s)) := RA.out.below b1 RA.out.lt
  have RD1 := RD.out.below b1 RD.out.lt
  have nf : ¬ rng w0.heap.size w1.heap.size A := fun hk => by have := hk.1; have := HL.out.2.2.2.1; omega
  obtain ⟨w2, HW2⟩ : ∃ x, Hid (x = w1.setRow A (shC id f (.slice (some ⟨g, 0, none⟩) n c) t s)) := ⟨_, rfl⟩
  have J2 : Hid (Row w2 A 32 (shC id f (.slice (some ⟨g, 0, none⟩) n c) t s) ∧ Row w2 D 32 shZ ∧ Ow w2 w0.heap.size (slsD n S) (.slice (some ⟨g, 0, none⟩) n c) (rng w0.heap.size w1.heap.size) ∧ Below w.heap.size w w2) := by
    rw [HW2.out]
    exact ⟨RA1.out.row, RD1.otherRow (Ne.symm HL.out.1), O1.frame fun x hx _ => setRow_other _ _ _ _ (fun e => nf (by rw [← e]; exact hx)), belowSetRow (below2 KB0.out b1) HL.out.2.1 _⟩
  have z3 := J2.out.1.cell 3
  have z4 := J2.out.1.cell 4
  have f4 := J2.out.1.free 4
  simp at z3 z4
  obtain ⟨w3, HW3⟩ : ∃ x, Hid (x = w2.setCell ⟨A, 4, none⟩ (.int .i64 (t.size : Int))) := ⟨_, rfl⟩
  have J3 : Hid (Row w3 A 32 (shC id f (.slice (some ⟨g, 0, none⟩) n c) t (t.size : Int)) ∧ Row w3 D 32 shZ ∧ Ow w3 w0.heap.size (slsD n S) (.slice (some ⟨g, 0, none⟩) n c) (rng w0.heap.size w1.heap.size) ∧ Below w.heap.size w w3) := by
    rw [HW3.out]
    exact ⟨J2.out.1.set 4 _, J2.out.2.1.other 4 _ (Ne.symm HL.out.1), J2.out.2.2.1.far 4 _ nf, J2.out.2.2.2.setCell HL.out.2.1 _⟩
  have S3 : w3.heap.size = w1.heap.size := by rw [HW3.out, HW2.out]; simp [World.setRow]
  obtain ⟨w7, HW7⟩ : ∃ x, Hid (x = w3.setRow D (shC id f (.slice (some ⟨g, 0, none⟩) n c) t (t.size : Int))) := ⟨_, rfl⟩
  have S7 : w7.heap.size = w3.heap.size := by rw [HW7.out]; simp [World.setRow]
  have ZR : Hid (Row w7 D 32 (shC id f (.slice (some ⟨g, 0, none⟩) n c) t (t.size : Int))) := by show Row _ _ _ _; rw [HW7.out]; exact J3.out.2.1.row
  have ZB : Hid (Below w.heap.size w w7) := by show Below _ _ _; rw [HW7.out]; exact belowSetRow J3.out.2.2.2 HL.out.2.2.1 _
  have ZO : Hid (Ow w7 w.heap.size (slsD n S) (.slice (some ⟨g, 0, none⟩) n c) (rng w.heap.size w7.heap.size)) := by
    show Ow _ _ _ _ _
    rw [S7, S3]
    have hw0 := KB0.out.size
    have h1 : Ow w7 w0.heap.size (slsD n S) (.slice (some ⟨g, 0, none⟩) n c) (rng w0.heap.size w1.heap.size) := by
      rw [HW7.out]
      exact J3.out.2.2.1.frame fun x hx _ => setRow_other _ _ _ _ (fun e => by have := hx.1; have := HL.out.2.2.2.2; omega)
    exact (h1.base hw0).mono (fun x hx => ⟨by have := hx.1; omega, hx.2⟩)
  clear RD1 S3 S7 O1 b1 nf
  go_wp2_with (first | (rw [← HW3.out]; refine wpList_load_row (by rfl) 32 _ (by rfl) A (by rfl) 32 (shC id f (.slice (some ⟨g, 0, none⟩) n c) t (t.size : Int)) (0, 0) _ ?_ Try.underlying32 (by rfl) Try.infoSh ?_; exact J3.out.1; clear z3 z4 f4) | (refine wpList_store_row (by rfl) 32 _ _ (by rfl) D (shC id f (.slice (some ⟨g, 0, none⟩) n c) t (t.size : Int)) (by rfl) (by rfl) 32 shZ ?_ Try.infoSh rfl (by simp [Value.oneCell']) ?_; exact J3.out.2.1; rw [← HW7.out]) | (refine wpList_store_row (by rfl) 32 _ _ (by rfl) A (shC id f (.slice (some ⟨g, 0, none⟩) n c) t s) (by rfl) (by rfl) 32 (shC id f (.slice a n cap) t s) ?_ Try.infoSh rfl (by simp [Value.oneCell']) ?_; exact RA1.out; rw [← HW2.out]))
  exact bodyPost_ret (v := shV id f (.slice (some ⟨g, 0, none⟩) n c) t (t.size : Int)) (results_cell_row Try.results5 _ _ D 32 _ (0, 0) _ (by rfl) ZR.out Try.underlying32 (by rfl) Try.infoSh) rfl ⟨g, c, rfl, ZO.out, ZB.out⟩
set_option maxHeartbeats 4000000 in
theorem sync_any (id f s : Int) (t : ByteArray) (a : Option Addr) (n cap : Nat) (S : Nat → Sl) (w : World) (h : Rd w (slsD n S) (.slice a n cap)) (hn : n ≤ 1048576) (hs : ∀ i, i < n → SlK (S i)) (ht : t.size ≤ 1048576) :
    Calls Try.prog 7 #[shV id f (.slice a n cap) t s] w fun e w' => ∃ g c, e = .returned (shV id f (.slice (some ⟨g, 0, none⟩) n c) t (t.size : Int)) ∧ Ow w' w.heap.size (slsD n S) (.slice (some ⟨g, 0, none⟩) n c) (rng w.heap.size w'.heap.size) ∧ Below w.heap.size w w' := by
  obtain ⟨A, HA⟩ : ∃ x, Hid (x = w.heap.size) := ⟨_, rfl⟩
  obtain ⟨D, HD⟩ : ∃ x, Hid (x = w.heap.size + 1) := ⟨_, rfl⟩
  obtain ⟨w0, HW0⟩ : ∃ x, Hid (x = (w.alloc (.cells (shC id f (.slice a n cap) t s) 32)).alloc (.cells shZ 32)) := ⟨_, rfl⟩
  have RA : Hid (Row w0 A 32 (shC id f (.slice a n cap) t s)) := by show Row _ _ _ _; rw [HW0.out, HA.out]; exact Row.alloc (Row.new w _ _) _
  have RD : Hid (Row w0 D 32 shZ) := by
    show Row _ _ _ _
    rw [HW0.out, HD.out]
    have := Row.new (w.alloc (.cells (shC id f (.slice a n cap) t s) 32)) shZ 32
    simpa using this
  have hb0 : Below w.heap.size w w0 := by rw [HW0.out]; exact ((Below.refl _ _).alloc (Nat.le_refl _) _).alloc (by simp) _
  have KB0 : Hid (Below w.heap.size w w0) := hb0
  have HL : Hid (A ≠ D ∧ w.heap.size ≤ A ∧ w.heap.size ≤ D ∧ A < w0.heap.size ∧ D < w0.heap.size) := ⟨by have := HA.out; have := HD.out; omega, by have := HA.out; omega, by have := HD.out; omega, RA.out.lt, RD.out.lt⟩
  have KC : Hid _ := copiedSh_any id f s t a n cap S w0 (h.below hb0) hn hs ht
  have h63 : t.size ≤ 1048576 := ht
  clear h hb0 hs
  go_enter Try.func7, Try.ntmps7
  go_wp2_with (rw [← HW0.out, ← HD.out, ← HA.out]; refine wpList_load_row (by rfl) 32 _ (by rfl) A (by rfl) 32 (shC id f (.slice a n cap) t s) (0, 0) _ ?_ Try.underlying32 (by rfl) Try.infoSh ?_; exact RA.out)
  refine Calls.mono KC.out ?_
  rintro e w1 ⟨g, c, rfl, O1, b1⟩
  have RA1 : Hid (Row w1 A 32 (shC id f (.slice a n cap) t s)) := RA.out.below b1 RA.out.lt
  have RD1 := RD.out.below b1 RD.out.lt
  have nf : ¬ rng w0.heap.size w1.heap.size A := fun hk => by have := hk.1; have := HL.out.2.2.2.1; omega
  obtain ⟨w2, HW2⟩ : ∃ x, Hid (x = w1.setRow A (shC id f (.slice (some ⟨g, 0, none⟩) n c) t s)) := ⟨_, rfl⟩
  have J2 : Hid (Row w2 A 32 (shC id f (.slice (some ⟨g, 0, none⟩) n c) t s) ∧ Row w2 D 32 shZ ∧ Ow w2 w0.heap.size (slsD n S) (.slice (some ⟨g, 0, none⟩) n c) (rng w0.heap.size w1.heap.size) ∧ Below w.heap.size w w2) := by
    rw [HW2.out]
    exact ⟨RA1.out.row, RD1.otherRow (Ne.symm HL.out.1), O1.frame fun x hx _ => setRow_other _ _ _ _ (fun e => nf (by rw [← e]; exact hx)), belowSetRow (below2 KB0.out b1) HL.out.2.1 _⟩
  have z3 := J2.out.1.cell 3
  have z4 := J2.out.1.cell 4
  have f4 := J2.out.1.free 4
  simp at z3 z4
  obtain ⟨w3, HW3⟩ : ∃ x, Hid (x = w2.setCell ⟨A, 4, none⟩ (.int .i64 (t.size : Int))) := ⟨_, rfl⟩
  have J3 : Hid (Row w3 A 32 (shC id f (.slice (some ⟨g, 0, none⟩) n c) t (t.size : Int)) ∧ Row w3 D 32 shZ ∧ Ow w3 w0.heap.size (slsD n S) (.slice (some ⟨g, 0, none⟩) n c) (rng w0.heap.size w1.heap.size) ∧ Below w.heap.size w w3) := by
    rw [HW3.out]
    exact ⟨J2.out.1.set 4 _, J2.out.2.1.other 4 _ (Ne.symm HL.out.1), J2.out.2.2.1.far 4 _ nf, J2.out.2.2.2.setCell HL.out.2.1 _⟩
  have S3 : w3.heap.size = w1.heap.size := by rw [HW3.out, HW2.out]; simp [World.setRow]
  obtain ⟨w7, HW7⟩ : ∃ x, Hid (x = w3.setRow D (shC id f (.slice (some ⟨g, 0, none⟩) n c) t (t.size : Int))) := ⟨_, rfl⟩
  have S7 : w7.heap.size = w3.heap.size := by rw [HW7.out]; simp [World.setRow]
  have ZR : Hid (Row w7 D 32 (shC id f (.slice (some ⟨g, 0, none⟩) n c) t (t.size : Int))) := by show Row _ _ _ _; rw [HW7.out]; exact J3.out.2.1.row
  have ZB : Hid (Below w.heap.size w w7) := by show Below _ _ _; rw [HW7.out]; exact belowSetRow J3.out.2.2.2 HL.out.2.2.1 _
  have ZO : Hid (Ow w7 w.heap.size (slsD n S) (.slice (some ⟨g, 0, none⟩) n c) (rng w.heap.size w7.heap.size)) := by
    show Ow _ _ _ _ _
    rw [S7, S3]
    have hw0 := KB0.out.size
    have h1 : Ow w7 w0.heap.size (slsD n S) (.slice (some ⟨g, 0, none⟩) n c) (rng w0.heap.size w1.heap.size) := by
      rw [HW7.out]
      exact J3.out.2.2.1.frame fun x hx _ => setRow_other _ _ _ _ (fun e => by have := hx.1; have := HL.out.2.2.2.2; omega)
    exact (h1.base hw0).mono (fun x hx => ⟨by have := hx.1; omega, hx.2⟩)
  clear RD1 S3 S7 O1 b1 nf
  go_wp2_with (first | (rw [← HW3.out]; refine wpList_load_row (by rfl) 32 _ (by rfl) A (by rfl) 32 (shC id f (.slice (some ⟨g, 0, none⟩) n c) t (t.size : Int)) (0, 0) _ ?_ Try.underlying32 (by rfl) Try.infoSh ?_; exact J3.out.1; clear z3 z4 f4) | (refine wpList_store_row (by rfl) 32 _ _ (by rfl) D (shC id f (.slice (some ⟨g, 0, none⟩) n c) t (t.size : Int)) (by rfl) (by rfl) 32 shZ ?_ Try.infoSh rfl (by simp [Value.oneCell']) ?_; exact J3.out.2.1; rw [← HW7.out]) | (refine wpList_store_row (by rfl) 32 _ _ (by rfl) A (shC id f (.slice (some ⟨g, 0, none⟩) n c) t s) (by rfl) (by rfl) 32 (shC id f (.slice a n cap) t s) ?_ Try.infoSh rfl (by simp [Value.oneCell']) ?_; exact RA1.out; rw [← HW2.out]))
  exact bodyPost_ret (v := shV id f (.slice (some ⟨g, 0, none⟩) n c) t (t.size : Int)) (results_cell_row Try.results7 _ _ D 32 _ (0, 0) _ (by rfl) ZR.out Try.underlying32 (by rfl) Try.infoSh) rfl ⟨g, c, rfl, ZO.out, ZB.out⟩
end Go.Proofs.Ytbfkbbiddbnchaa
