import Derived.Test.YtaenoiffamgcfaaGreatDoorM5
import Derived.Test.YtaenoiffamgcfaaGreatDoorM22
import Derived.Test.YtaenoiffamgcfaaGreatDoorM21
set_option maxHeartbeats 8000000
set_option maxRecDepth 2000
open Go.ChangeShapes Go.WideShapes Go.ChangeAt Go.RowKit
namespace Go.Proofs.YtaenoiffamgcfaaGreatDoor
def al8 (f : Int) : Int := wrap64 (wrap64 (3 * f) + 1)
theorem sAll8_any (f : Int) (w : World) : Calls Tryz.prog 49 #[.int .i64 f] w fun e w' => e = .returned (.int .i64 (al8 f)) ∧ w' = w := by
 go_enter Tryz.func49, Tryz.ntmps49
 go_wp2
 go_ret
 exact ⟨rfl, rfl⟩
def Up (g : Nat) (w V : World) : Prop := ∀ b, g < b → b < w.heap.size → V.heap[b]? = w.heap[b]?
theorem Up.refl (g : Nat) (w : World) : Up g w w := fun _ _ _ => rfl
theorem upG {g : Nat} {w V : World} (h : w.grownBy V (some g)) : Up g w V := fun b hb hl => h.block b hl (fun e => by injection e with e; omega)
theorem Up.of {g : Nat} {w W V : World} (h : w.grownBy W (some g)) (hv : Up g W V) : Up g w V := fun b hb hl => (hv b hb (Nat.lt_of_lt_of_le hl h.size)).trans (upG h b hb hl)
theorem grownRow {w W : World} {g X : Nat} {cs : Array Value} (h : w.grownBy W (some g)) (hX : w.heap.size ≤ X) : w.grownBy (W.setRow X cs) (some g) :=
 ⟨h.os, h.tape, h.output, by simpa using h.size, fun j hj hne => (setRow_other W X j cs (by omega)).trans (h.block j hj hne)⟩
theorem grownCell {w W : World} {g X : Nat} (o : Nat) (v : Value) (h : w.grownBy W (some g)) (hX : w.heap.size ≤ X) : w.grownBy (W.setCell ⟨X, o, none⟩ v) (some g) :=
 ⟨h.os, h.tape, h.output, by simpa using h.size, fun j hj hne => (heap_setCell_other W ⟨X, o, none⟩ j v (by show j ≠ X; omega)).trans (h.block j hj hne)⟩
theorem grownAlloc {w W : World} {g : Nat} {o : Obj} (h : w.grownBy W (some g)) : w.grownBy (W.alloc o) (some g) := grownBy_trans h (World.grownBy_alloc W o (some g))
theorem Cur.row {w : World} {g n cap X : Nat} {a : Option Addr} (h : Cur w g a n cap) (cs : Array Value) (hX : g < X) (hab : Under a n g) : Cur (w.setRow X cs) g a n cap :=
 h.far (r := X) ⟨rfl, rfl, rfl, by simp, fun j _ hne => setRow_other w X j cs (fun e => hne (by rw [e]))⟩ hX hab
theorem Cur.setc {w : World} {g n cap X : Nat} {a : Option Addr} (h : Cur w g a n cap) (o : Nat) (v : Value) (hX : g < X) (hab : Under a n g) : Cur (w.setCell ⟨X, o, none⟩ v) g a n cap := h.far (r := X) (grown_cell w X o v) hX hab
theorem pickQ_any (P : ByteArray → Prop) (g n cap : Nat) (a : Option Addr) (lb off m lc : Nat) (w : World) (hc : Cur w g a n cap) (hm : 0 < m) (hm2 : m ≤ 256) (hl : lb ≠ g)
  (hcell : ∀ i, i < m → ∃ t : ByteArray, P t ∧ w.cell? ⟨lb, off + i, none⟩ = some (.string t)) :
  Calls Tryz.prog 28 #[.pointer (some ⟨g, 0, none⟩), .slice (some ⟨lb, off, none⟩) m lc] w fun e w' => ∃ t : ByteArray, P t ∧ e = .returned (.string t) ∧ w.grownBy w' (some g) ∧ Cur w' g a n cap := by
 go_enter Tryz.func28, Tryz.ntmps28
 go_wp2_with fail
 refine (belowN_any g n cap a _ _ hc).mono ?_
 rintro e w1 ⟨x, x0, x1, _, rfl, hg, hc1⟩
 have x2 := x1 (by omega)
 obtain ⟨k, rfl⟩ := Int.eq_ofNat_of_zero_le x0
 obtain ⟨t, ht, hz⟩ := hcell k (by omega)
 have hz1 := hg.cell hz (by simpa using hl)
 clear hcell hz x1
 go_wp2
 go_ret
 exact ⟨t, ht, rfl, hg, hc1⟩
structure SaS (y : Sy) : Prop where
 r : y.r.size ≤ 4096
 pr : y.p.r.size ≤ 4096
 pb : y.p.b.size ≤ 4096
 m : y.p.m ≤ 64
 s : ∀ j, j < y.p.m → (y.p.S j).size ≤ 4096
structure SaW (w w0 W : World) (g : Nat) (a0 : Option Addr) (n cap X : Nat) (y : Sy) (a9 : Option Addr) (c9 : Nat) : Prop where
 b : w0.grownBy W (some g)
 c : Cur W g a0 n cap
 l : w0.heap.size ≤ X
 lt : g < X
 x : Row W X 87 (syC y (.slice a9 y.p.m c9))
 t : ∀ V, Up g w V → TxtAt V a9 y.p.m y.p.S
 s : SaS y
theorem SaW.kept {w w0 W W' : World} {g : Nat} {a0 : Option Addr} {n cap X : Nat} {y : Sy} {a9 : Option Addr} {c9 : Nat} (h : SaW w w0 W g a0 n cap X y a9 c9) (hg : W.grownBy W' (some g)) (hc : Cur W' g a0 n cap) : SaW w w0 W' g a0 n cap X y a9 c9 :=
 ⟨grownBy_trans h.b hg, hc, h.l, h.lt, h.x.keptG hg (by have := h.lt; omega), h.t, h.s⟩
theorem SaW.put {w w0 W : World} {g : Nat} {a0 : Option Addr} {n cap X : Nat} {y : Sy} {a9 : Option Addr} {c9 : Nat} (h : SaW w w0 W g a0 n cap X y a9 c9) (o : Nat) (v : Value) (hab : Under a0 n g) {y' : Sy} (hx : Row (W.setCell ⟨X, o, none⟩ v) X 87 (syC y' (.slice a9 y'.p.m c9))) (hp : y'.p = y.p) (hr : y'.r.size ≤ 4096) : SaW w w0 (W.setCell ⟨X, o, none⟩ v) g a0 n cap X y' a9 c9 :=
 ⟨grownCell o v h.b h.l, h.c.setc o v h.lt hab, h.l, h.lt, hx, by rw [hp]; exact h.t, ⟨hr, by rw [hp]; exact h.s.pr, by rw [hp]; exact h.s.pb, by rw [hp]; exact h.s.m, by rw [hp]; exact h.s.s⟩⟩
theorem SaW.pc {w w0 W : World} {g : Nat} {a0 : Option Addr} {n cap X : Nat} {y : Sy} {a9 : Option Addr} {c9 : Nat} (h : SaW w w0 W g a0 n cap X y a9 c9) (hab : Under a0 n g) (p : Pc) (ap : Option Addr) (cp : Nat) (ht : ∀ V, Up g w V → TxtAt V ap p.m p.S) (hp : PcS p) : SaW w w0 ((((((W.setCell ⟨X, 4, none⟩ (.string p.r)).setCell ⟨X, 5, none⟩ (.int .i64 p.k)).setCell ⟨X, 6, none⟩ (.int .i64 p.n)).setCell ⟨X, 7, none⟩ (.int .i64 p.i)).setCell ⟨X, 8, none⟩ (.string p.b)).setCell ⟨X, 9, none⟩ (.slice ap p.m cp)) g a0 n cap X { y with p := p } ap cp :=
 ⟨grownCell 9 _ (grownCell 8 _ (grownCell 7 _ (grownCell 6 _ (grownCell 5 _ (grownCell 4 _ h.b h.l) h.l) h.l) h.l) h.l) h.l, (((((h.c.setc 4 _ h.lt hab).setc 5 _ h.lt hab).setc 6 _ h.lt hab).setc 7 _ h.lt hab).setc 8 _ h.lt hab).setc 9 _ h.lt hab, h.l, h.lt, (((((h.x.set 4 _).set 5 _).set 6 _).set 7 _).set 8 _).set 9 _, ht, ⟨h.s.r, hp.r, hp.b, hp.m, hp.s⟩⟩
def pcO : Pc := ⟨ByteArray.empty, 0, 0, 0, ByteArray.empty, 0, fun _ => ByteArray.empty⟩
set_option maxRecDepth 100000 in
theorem say08_any (g n cap : Nat) (a0 : Option Addr) (id f : Int) (G N cc : Nat) (P : Nat → Pc) (w : World) (hc : Cur w g a0 n cap) (hab : Under a0 n g) (hid : 0 ≤ id ∧ id ≤ 1000) (hN : 0 < N) (hA : ∀ W, Up g w W → PiAt W (some ⟨G, 0, none⟩) N P) (hP : ∀ i, i < N → PcS (P i)) (hGne : g < G) :
  Calls Tryz.prog 53 #[.pointer (some ⟨g, 0, none⟩), .int .i64 id, .int .i64 f, .slice (some ⟨G, 0, none⟩) N cc] w fun e w' => ∃ (y : Sy) (a9 : Option Addr) (c9 : Nat), e = .returned (syV y (.slice a9 y.p.m c9)) ∧ SaS y ∧ (∀ V, Up g w' V → TxtAt V a9 y.p.m y.p.S) ∧ w.grownBy w' (some g) ∧ Cur w' g a0 n cap := by
 obtain ⟨w0, HW0⟩ : ∃ x, Hid (x = w.alloc (.cells #[.int .i64 0, .int .i64 0, .int .i64 0, .string ⟨#[]⟩, .string ⟨#[]⟩, .int .i64 0, .int .i64 0, .int .i64 0, .string ⟨#[]⟩, .slice none 0 0] 87)) := ⟨_, rfl⟩
 obtain ⟨D, HD⟩ : ∃ x, Hid (x = w.heap.size) := ⟨_, rfl⟩
 have HR : Hid (Row w0 D 87 #[.int .i64 0, .int .i64 0, .int .i64 0, .string ⟨#[]⟩, .string ⟨#[]⟩, .int .i64 0, .int .i64 0, .int .i64 0, .string ⟨#[]⟩, .slice none 0 0]) := by show Row _ _ _ _; rw [HW0.out, HD.out]; exact Row.new w _ _
 have hg0 : w.grownBy w0 (some g) := by rw [HW0.out]; exact World.grownBy_alloc w _ (some g)
 have KG0 : Hid (w.grownBy w0 (some g)) := hg0
 have hc0 : Cur w0 g a0 n cap := by rw [HW0.out]; exact hc.alloc _
 have KC0 : Hid (Cur w0 g a0 n cap) := hc0
 have lgD : g < D := by rw [HD.out]; exact hc.lt
 have lg0 := hc0.lt
 have HPS : Hid (∀ i, i < N → PcS (P i)) := hP
 have KEl : Hid (∀ W, Up g w W → ∀ i, i < N → ∃ ap cp, (∀ q, q < 6 → W.cell? ⟨G, i * 6 + q, none⟩ = some (cel (P i) (.slice ap (P i).m cp) q)) ∧ TxtAt W ap (P i).m (P i).S) := fun W hW i hi => PiAt.own (hA W hW) hi
 have KR0 : Hid (∀ W, w0.grownBy W (some g) → W.cell? ⟨G, 0, none⟩ = some (.string (P 0).r)) := fun W hW => by
  obtain ⟨ap, cp, h1, _⟩ := KEl.out W (upG (grownBy_trans KG0.out hW)) 0 hN
  exact h1 0 (by omega)
 have KTx : Hid (∀ W, w.grownBy W (some g) → ∀ i, i < N → ∀ ap cp, (∀ q, q < 6 → W.cell? ⟨G, i * 6 + q, none⟩ = some (cel (P i) (.slice ap (P i).m cp) q)) → ∀ V, Up g w V → TxtAt V ap (P i).m (P i).S) := fun W hW i hi ap cp hcl V hV => by
  have hg9 : w.grownBy w (some g) := ⟨rfl, rfl, rfl, Nat.le_refl _, fun _ _ _ => rfl⟩
  obtain ⟨ap0, cp0, h1, _⟩ := KEl.out w (upG hg9) i hi
  obtain ⟨ap1, cp1, h2, h3⟩ := KEl.out V hV i hi
  have hGl : G < w.heap.size := block_lt_of_cell (h1 5 (by omega))
  have e1 : W.cell? ⟨G, i * 6 + 5, none⟩ = w.cell? ⟨G, i * 6 + 5, none⟩ := World.cell?_of_block (hW.block G hGl (fun e => Nat.ne_of_gt hGne (by injection e)))
  have e2 : V.cell? ⟨G, i * 6 + 5, none⟩ = w.cell? ⟨G, i * 6 + 5, none⟩ := World.cell?_of_block (hV G hGne hGl)
  have e3 : some (Value.slice ap (P i).m cp) = some (Value.slice ap1 (P i).m cp1) := (hcl 5 (by omega)).symm.trans (e1.trans (e2.symm.trans (h2 5 (by omega))))
  simp only [Option.some.injEq, Value.slice.injEq] at e3
  rw [e3.1]
  exact h3
 have hr0 := (hP 0 hN).r
 obtain ⟨r0, HR0⟩ : ∃ x, Hid ((P 0).r = x) := ⟨_, rfl⟩
 rw [HR0.out] at KR0 hr0
 have KB : Hid (∀ m W, Cur W g a0 n cap → Calls Tryz.prog 20 #[.pointer (some ⟨g, 0, none⟩), .int .i64 m] W fun e w' => ∃ x : Int, 0 ≤ x ∧ (0 < m → x < m) ∧ (m ≤ 0 → x = 0) ∧ e = .returned (.int .i64 x) ∧ W.grownBy w' (some g) ∧ Cur w' g a0 n cap) := fun m W h => belowN_any g n cap a0 m W h
 have KAl : Hid (∀ W, Calls Tryz.prog 49 #[.int .i64 f] W fun e w' => e = .returned (.int .i64 (al8 f)) ∧ w' = W) := fun W => sAll8_any f W
 have n0 : 0 < N := hN
 clear hA hP hg0 hc0 hc
 go_enter Tryz.func53, Tryz.ntmps53
 go_wp2_with fail
 rw [← HW0.out, ← HD.out]
 obtain ⟨R, HRR⟩ : ∃ R : Act → World → Prop, Hid (∀ a W, R a W ↔ ∃ (X : Nat) (x1 x5 x11 : Value) (k1 k5 : Int), a = ⟨(List.toArray (α := Value) ((.pointer (some ⟨g, 0, none⟩)) :: (.int .i64 id) :: (.int .i64 f) :: (.slice (some ⟨G, 0, none⟩) N cc) :: undef :: undef :: undef :: undef :: (.pointer (some ⟨D, 0, none⟩)) :: (.pointer (some ⟨X, 0, none⟩)) :: (.pointer (some ⟨g, 0, none⟩)) :: x1 :: (.pointer (some ⟨g, 0, none⟩)) :: (.int .i64 f) :: (.int .i64 (al8 f)) :: x5 :: (.int .i64 id) :: (.slice (some ⟨G, 0, none⟩) N cc) :: (.pointer (some ⟨G, 0, none⟩)) :: (.pointer (some ⟨G, 0, none⟩)) :: (.string r0) :: x11 :: undef :: undef :: undef :: undef :: undef :: undef :: undef :: undef :: undef :: undef :: undef :: undef :: undef :: undef :: undef :: undef :: undef :: undef :: undef :: undef :: undef :: undef :: undef :: undef :: undef :: undef :: undef :: undef :: undef :: undef :: undef :: undef :: undef :: undef :: undef :: undef :: undef :: undef :: undef :: undef :: undef :: undef :: undef :: undef :: undef :: undef :: undef :: [])), []⟩ ∧ w0.grownBy W (some g) ∧ Cur W g a0 n cap ∧ w0.heap.size ≤ X ∧ Row W X 87 #[.int .i64 k1, .int .i64 k5, .int .i64 id, .string r0, .string ⟨#[]⟩, .int .i64 0, .int .i64 0, .int .i64 0, .string ⟨#[]⟩, .slice none 0 0]) := ⟨fun a W => _, fun _ _ => Iff.rfl⟩
 refine wp_region_post R ?_ ?_
 rotate_left
 ·intro a wx hR
  obtain ⟨X, x1, x5, x11, k1, k5, rfl, hgx, hcx, hX, RX⟩ := (HRR.out a wx).1 hR
  have lgX : g < X := by omega
  have K1 : Hid (SaW w w0 wx g a0 n cap X ⟨k1, k5, id, r0, pcO⟩ none 0) := ⟨hgx, hcx, hX, lgX, RX, (fun V _ i hi => absurd hi (Nat.not_lt_zero i)), ⟨hr0, Nat.zero_le _, Nat.zero_le _, Nat.zero_le _, fun j hj => absurd hj (Nat.not_lt_zero j)⟩⟩
  have KRD : Hid (∀ W, w0.grownBy W (some g) → Row W D 87 #[.int .i64 0, .int .i64 0, .int .i64 0, .string ⟨#[]⟩, .string ⟨#[]⟩, .int .i64 0, .int .i64 0, .int .i64 0, .string ⟨#[]⟩, .slice none 0 0]) := fun W hW => HR.out.keptG hW (by omega)
  have lDw : w.heap.size ≤ D := by rw [HD.out]; exact Nat.le_refl _
  have FIN : Hid (∀ W y a9 c9, SaW w w0 W g a0 n cap X y a9 c9 → ∀ W', W' = W.setRow D (syC y (.slice a9 y.p.m c9)) → Row W' D 87 (syC y (.slice a9 y.p.m c9)) ∧ (∃ (y' : Sy) (a' : Option Addr) (c' : Nat), Ending.returned (.agg (syC y (.slice a9 y.p.m c9))) = .returned (syV y' (.slice a' y'.p.m c')) ∧ SaS y' ∧ (∀ V, Up g W' V → TxtAt V a' y'.p.m y'.p.S) ∧ w.grownBy W' (some g) ∧ Cur W' g a0 n cap)) := fun W y a9 c9 h W' e => by
   subst e
   have hgW : w.grownBy (W.setRow D (syC y (.slice a9 y.p.m c9))) (some g) := grownRow (grownBy_trans KG0.out h.b) lDw
   exact ⟨(KRD.out W h.b).row, y, a9, c9, rfl, h.s, (fun V hV => h.t V (Up.of hgW hV)), hgW, h.c.row _ lgD hab⟩
  clear HRR hR RX hgx hcx
  have y0 := K1.out.x.cell 0
  simp at y0
  by_cases hk : k1 = 0
  ·subst hk
   have hq : (0 : Int) ≤ id % (N : Int) ∧ id % (N : Int) < (N : Int) := ⟨Int.emod_nonneg _ (by omega), Int.emod_lt_of_pos _ (by omega)⟩
   have hj : (id % (N : Int)).toNat < N := by omega
   have hGX : ¬ G = X := fun e => by
    obtain ⟨_, _, h9, _⟩ := KEl.out w (Up.refl g w) 0 n0
    have h8 : G < w.heap.size := block_lt_of_cell (h9 0 (by omega))
    have h7 := KG0.out.size
    omega
   have hGX' : ¬ X = G := fun e => hGX e.symm
   have K2 : Hid (SaW w w0 (wx.setCell ⟨X, 1, none⟩ (.int .i64 (-1))) g a0 n cap X ⟨0, -1, id, r0, pcO⟩ none 0) := K1.out.put 1 _ hab (K1.out.x.set 1 _) rfl K1.out.s.r
   have t1 := K1.out.x.cell 1
   have t4 := K1.out.x.cell 4
   have t5 := K1.out.x.cell 5
   have t6 := K1.out.x.cell 6
   have t7 := K1.out.x.cell 7
   have t8 := K1.out.x.cell 8
   have t9 := K1.out.x.cell 9
   have z1 := K1.out.x.free 1
   have z4 := K1.out.x.free 4
   have z5 := K1.out.x.free 5
   have z6 := K1.out.x.free 6
   have z7 := K1.out.x.free 7
   have z8 := K1.out.x.free 8
   have z9 := K1.out.x.free 9
   simp at t1 t4 t5 t6 t7 t8 t9
   obtain ⟨ap, cp, hcl, _⟩ := KEl.out wx (upG (grownBy_trans KG0.out K1.out.b)) (id % (N : Int)).toNat hj
   have f0 : wx.cell? ⟨G, (id % (N : Int)).toNat * 6, none⟩ = some (.string (P (id % (N : Int)).toNat).r) := hcl 0 (by omega)
   have f1 : wx.cell? ⟨G, (id % (N : Int)).toNat * 6 + 1, none⟩ = some (.int .i64 (P (id % (N : Int)).toNat).k) := hcl 1 (by omega)
   have f2 : wx.cell? ⟨G, (id % (N : Int)).toNat * 6 + 2, none⟩ = some (.int .i64 (P (id % (N : Int)).toNat).n) := hcl 2 (by omega)
   have f3 : wx.cell? ⟨G, (id % (N : Int)).toNat * 6 + 3, none⟩ = some (.int .i64 (P (id % (N : Int)).toNat).i) := hcl 3 (by omega)
   have f4 : wx.cell? ⟨G, (id % (N : Int)).toNat * 6 + 4, none⟩ = some (.string (P (id % (N : Int)).toNat).b) := hcl 4 (by omega)
   have f5 : wx.cell? ⟨G, (id % (N : Int)).toNat * 6 + 5, none⟩ = some (.slice ap (P (id % (N : Int)).toNat).m cp) := hcl 5 (by omega)
   have K3 : Hid (SaW w w0 (((((((wx.setCell ⟨X, 1, none⟩ (.int .i64 (-1))).setCell ⟨X, 4, none⟩ (.string (P (id % (N : Int)).toNat).r)).setCell ⟨X, 5, none⟩ (.int .i64 (P (id % (N : Int)).toNat).k)).setCell ⟨X, 6, none⟩ (.int .i64 (P (id % (N : Int)).toNat).n)).setCell ⟨X, 7, none⟩ (.int .i64 (P (id % (N : Int)).toNat).i)).setCell ⟨X, 8, none⟩ (.string (P (id % (N : Int)).toNat).b)).setCell ⟨X, 9, none⟩ (.slice ap (P (id % (N : Int)).toNat).m cp)) g a0 n cap X ⟨0, -1, id, r0, P (id % (N : Int)).toNat⟩ ap cp) := K2.out.pc hab (P (id % (N : Int)).toNat) ap cp (KTx.out wx (grownBy_trans KG0.out K1.out.b) _ hj ap cp hcl) (HPS.out _ hj)
   obtain ⟨pj, HPj⟩ : ∃ x, Hid (P (id % (N : Int)).toNat = x) := ⟨_, rfl⟩
   rw [HPj.out] at f0 f1 f2 f3 f4 f5 K3
   obtain ⟨w3, HW3⟩ : ∃ x, Hid (x = (((((((wx.setCell ⟨X, 1, none⟩ (.int .i64 (-1))).setCell ⟨X, 4, none⟩ (.string pj.r)).setCell ⟨X, 5, none⟩ (.int .i64 pj.k)).setCell ⟨X, 6, none⟩ (.int .i64 pj.n)).setCell ⟨X, 7, none⟩ (.int .i64 pj.i)).setCell ⟨X, 8, none⟩ (.string pj.b)).setCell ⟨X, 9, none⟩ (.slice ap pj.m cp))) := ⟨_, rfl⟩
   rw [← HW3.out] at K3
   clear hcl
   go_wp2_with fail
   rw [← HW3.out]
   refine (KB.out 20 w3 K3.out.c).mono ?_
   rintro e w5 ⟨q, _, _, _, rfl, hg5, hc5⟩
   have K5 : Hid (SaW w w0 w5 g a0 n cap X ⟨0, -1, id, r0, pj⟩ ap cp) := K3.out.kept hg5 hc5
   have hlt := K5.out.c.lt
   clear hg5 hc5
   by_cases e0 : q = 0
   ·subst e0
    go_wp2_with fail
    refine (pick_any g n cap a0 w5.heap.size 0 2 2 _ (K5.out.c.alloc _) (by omega) (by omega) (by omega) (lit_cells (cs := [-1, 3]))).mono ?_
    rintro e w6 ⟨z, rfl, hg6, hc6⟩
    have K6 : Hid (SaW w w0 w6 g a0 n cap X ⟨0, -1, id, r0, pj⟩ ap cp) := K5.out.kept (grownBy_trans (World.grownBy_alloc w5 _ _) hg6) hc6
    have K7 : Hid (SaW w w0 (w6.setCell ⟨X, 0, none⟩ (.int .i64 z)) g a0 n cap X { (⟨0, -1, id, r0, pj⟩ : Sy) with k := z } ap cp) := K6.out.put 0 _ hab (K6.out.x.set 0 _) rfl K6.out.s.r
    have t0 := K6.out.x.cell 0
    have z0 := K6.out.x.free 0
    simp at t0
    obtain ⟨FR, FP⟩ := FIN.out _ _ _ _ K7.out _ rfl
    have RXe : Hid _ := K7.out.x
    have RDe : Hid _ := KRD.out _ K7.out.b
    go_wp2_with (first | (refine wpList_load_row (by rfl) 87 _ (by rfl) X (by rfl) 87 (syC { (⟨0, -1, id, r0, pj⟩ : Sy) with k := z } (.slice ap ({ (⟨0, -1, id, r0, pj⟩ : Sy) with k := z } : Sy).p.m cp)) (0, 0) _ ?_ Tryz.underlying87 (by rfl) Tryz.infoSy ?_; exact RXe.out) | (refine wpList_store_row (by rfl) 87 _ _ (by rfl) D (syC { (⟨0, -1, id, r0, pj⟩ : Sy) with k := z } (.slice ap ({ (⟨0, -1, id, r0, pj⟩ : Sy) with k := z } : Sy).p.m cp)) (by rfl) (by rfl) 87 #[.int .i64 0, .int .i64 0, .int .i64 0, .string ⟨#[]⟩, .string ⟨#[]⟩, .int .i64 0, .int .i64 0, .int .i64 0, .string ⟨#[]⟩, .slice none 0 0] ?_ Tryz.infoSy rfl (by simp [Value.oneCell']) ?_; exact RDe.out))
    exact bodyPost_ret (results_cell_row Tryz.results53 _ _ D 87 _ (0, 0) _ (by rfl) FR Tryz.underlying87 (by rfl) Tryz.infoSy) rfl FP
   have b0 : (q == 0) = false := by simpa using e0
   by_cases e1 : q = 1
   ·subst e1
    go_wp2_with fail
    refine (KAl.out w5).mono ?_
    rintro e w6 ⟨rfl, hw6⟩
    obtain rfl := hw6.symm
    go_wp2_with fail
    refine (pick_any g n cap a0 w5.heap.size 0 3 3 _ (K5.out.c.alloc _) (by omega) (by omega) (by omega) (lit_cells (cs := [-1, -2, al8 f]))).mono ?_
    rintro e w6 ⟨z, rfl, hg6, hc6⟩
    have K6 : Hid (SaW w w0 w6 g a0 n cap X ⟨0, -1, id, r0, pj⟩ ap cp) := K5.out.kept (grownBy_trans (World.grownBy_alloc w5 _ _) hg6) hc6
    have K7 : Hid (SaW w w0 (w6.setCell ⟨X, 1, none⟩ (.int .i64 z)) g a0 n cap X { (⟨0, -1, id, r0, pj⟩ : Sy) with f := z } ap cp) := K6.out.put 1 _ hab (K6.out.x.set 1 _) rfl K6.out.s.r
    have t1 := K6.out.x.cell 1
    have z1 := K6.out.x.free 1
    simp at t1
    obtain ⟨FR, FP⟩ := FIN.out _ _ _ _ K7.out _ rfl
    have RXe : Hid _ := K7.out.x
    have RDe : Hid _ := KRD.out _ K7.out.b
    go_wp2_with (first | (refine wpList_load_row (by rfl) 87 _ (by rfl) X (by rfl) 87 (syC { (⟨0, -1, id, r0, pj⟩ : Sy) with f := z } (.slice ap ({ (⟨0, -1, id, r0, pj⟩ : Sy) with f := z } : Sy).p.m cp)) (0, 0) _ ?_ Tryz.underlying87 (by rfl) Tryz.infoSy ?_; exact RXe.out) | (refine wpList_store_row (by rfl) 87 _ _ (by rfl) D (syC { (⟨0, -1, id, r0, pj⟩ : Sy) with f := z } (.slice ap ({ (⟨0, -1, id, r0, pj⟩ : Sy) with f := z } : Sy).p.m cp)) (by rfl) (by rfl) 87 #[.int .i64 0, .int .i64 0, .int .i64 0, .string ⟨#[]⟩, .string ⟨#[]⟩, .int .i64 0, .int .i64 0, .int .i64 0, .string ⟨#[]⟩, .slice none 0 0] ?_ Tryz.infoSy rfl (by simp [Value.oneCell']) ?_; exact RDe.out))
    exact bodyPost_ret (results_cell_row Tryz.results53 _ _ D 87 _ (0, 0) _ (by rfl) FR Tryz.underlying87 (by rfl) Tryz.infoSy) rfl FP
   have b1 : (q == 1) = false := by simpa using e1
   by_cases e2 : q = 2
   ·subst e2
    have hwi : IntKind.i64.wrap (id + 1) = id + 1 := by rw [IntKind.wrap_i64]; omega
    have K7 : Hid (SaW w w0 (w5.setCell ⟨X, 2, none⟩ (.int .i64 (id + 1))) g a0 n cap X { (⟨0, -1, id, r0, pj⟩ : Sy) with t := id + 1 } ap cp) := K5.out.put 2 _ hab (K5.out.x.set 2 _) rfl K5.out.s.r
    have t2 := K5.out.x.cell 2
    have z2 := K5.out.x.free 2
    simp at t2
    obtain ⟨FR, FP⟩ := FIN.out _ _ _ _ K7.out _ rfl
    have RXe : Hid _ := K7.out.x
    have RDe : Hid _ := KRD.out _ K7.out.b
    go_wp2_with (first | (refine wpList_load_row (by rfl) 87 _ (by rfl) X (by rfl) 87 (syC { (⟨0, -1, id, r0, pj⟩ : Sy) with t := id + 1 } (.slice ap ({ (⟨0, -1, id, r0, pj⟩ : Sy) with t := id + 1 } : Sy).p.m cp)) (0, 0) _ ?_ Tryz.underlying87 (by rfl) Tryz.infoSy ?_; exact RXe.out) | (refine wpList_store_row (by rfl) 87 _ _ (by rfl) D (syC { (⟨0, -1, id, r0, pj⟩ : Sy) with t := id + 1 } (.slice ap ({ (⟨0, -1, id, r0, pj⟩ : Sy) with t := id + 1 } : Sy).p.m cp)) (by rfl) (by rfl) 87 #[.int .i64 0, .int .i64 0, .int .i64 0, .string ⟨#[]⟩, .string ⟨#[]⟩, .int .i64 0, .int .i64 0, .int .i64 0, .string ⟨#[]⟩, .slice none 0 0] ?_ Tryz.infoSy rfl (by simp [Value.oneCell']) ?_; exact RDe.out))
    exact bodyPost_ret (results_cell_row Tryz.results53 _ _ D 87 _ (0, 0) _ (by rfl) FR Tryz.underlying87 (by rfl) Tryz.infoSy) rfl FP
   have b2 : (q == 2) = false := by simpa using e2
   by_cases e3 : q = 3
   ·subst e3
    go_wp2_with fail
    refine (sleaf_any ⟨#[122]⟩ w5 (by decide)).mono ?_
    rintro e w6 ⟨rfl, hb6⟩
    have K6 : Hid (SaW w w0 w6 g a0 n cap X ⟨0, -1, id, r0, pj⟩ ap cp) := K5.out.kept (grownB g hb6) (curBelow K5.out.c hb6)
    have hz9 : (Gt.lf ⟨#[122]⟩).size ≤ 4096 := by rw [Gt.lf_size]; omega
    generalize Gt.lf ⟨#[122]⟩ = zz at hz9 ⊢
    have hlt6 := K6.out.c.lt
    go_wp2_with fail
    refine (pickQ_any (fun t => t.size ≤ 4096) g n cap a0 w6.heap.size 0 2 2 _ (K6.out.c.alloc _) (by omega) (by omega) (by omega) (fun i hi => ?_)).mono ?_
    ·have hr := (Row.new w6 #[.string ⟨#[]⟩, .string zz] 9).cell i
     rw [Nat.zero_add]
     match i, hi with
     | 0, _ => exact ⟨_, Nat.zero_le _, hr⟩
     | 1, _ => exact ⟨_, hz9, hr⟩
    rintro e w7 ⟨z, hz, rfl, hg7, hc7⟩
    have K8 : Hid (SaW w w0 w7 g a0 n cap X ⟨0, -1, id, r0, pj⟩ ap cp) := K6.out.kept (grownBy_trans (World.grownBy_alloc w6 _ _) hg7) hc7
    have K9 : Hid (SaW w w0 (w7.setCell ⟨X, 3, none⟩ (.string z)) g a0 n cap X { (⟨0, -1, id, r0, pj⟩ : Sy) with r := z } ap cp) := K8.out.put 3 _ hab (K8.out.x.set 3 _) rfl hz
    have t3 := K8.out.x.cell 3
    have z3 := K8.out.x.free 3
    simp at t3
    obtain ⟨FR, FP⟩ := FIN.out _ _ _ _ K9.out _ rfl
    have RXe : Hid _ := K9.out.x
    have RDe : Hid _ := KRD.out _ K9.out.b
    go_wp2_with (first | (refine wpList_load_row (by rfl) 87 _ (by rfl) X (by rfl) 87 (syC { (⟨0, -1, id, r0, pj⟩ : Sy) with r := z } (.slice ap ({ (⟨0, -1, id, r0, pj⟩ : Sy) with r := z } : Sy).p.m cp)) (0, 0) _ ?_ Tryz.underlying87 (by rfl) Tryz.infoSy ?_; exact RXe.out) | (refine wpList_store_row (by rfl) 87 _ _ (by rfl) D (syC { (⟨0, -1, id, r0, pj⟩ : Sy) with r := z } (.slice ap ({ (⟨0, -1, id, r0, pj⟩ : Sy) with r := z } : Sy).p.m cp)) (by rfl) (by rfl) 87 #[.int .i64 0, .int .i64 0, .int .i64 0, .string ⟨#[]⟩, .string ⟨#[]⟩, .int .i64 0, .int .i64 0, .int .i64 0, .string ⟨#[]⟩, .slice none 0 0] ?_ Tryz.infoSy rfl (by simp [Value.oneCell']) ?_; exact RDe.out))
    exact bodyPost_ret (results_cell_row Tryz.results53 _ _ D 87 _ (0, 0) _ (by rfl) FR Tryz.underlying87 (by rfl) Tryz.infoSy) rfl FP
   have b3 : (q == 3) = false := by simpa using e3
   by_cases e4 : q = 4
   ·subst e4
    obtain ⟨ap, cp, hcl, _⟩ := KEl.out w5 (upG (grownBy_trans KG0.out K5.out.b)) 0 n0
    have f0 : w5.cell? ⟨G, 0, none⟩ = some (.string (P 0).r) := by have h9 := hcl 0 (by omega); rw [Nat.zero_mul, Nat.zero_add] at h9; exact h9
    have f1 : w5.cell? ⟨G, 1, none⟩ = some (.int .i64 (P 0).k) := by have h9 := hcl 1 (by omega); rw [Nat.zero_mul, Nat.zero_add] at h9; exact h9
    have f2 : w5.cell? ⟨G, 2, none⟩ = some (.int .i64 (P 0).n) := by have h9 := hcl 2 (by omega); rw [Nat.zero_mul, Nat.zero_add] at h9; exact h9
    have f3 : w5.cell? ⟨G, 3, none⟩ = some (.int .i64 (P 0).i) := by have h9 := hcl 3 (by omega); rw [Nat.zero_mul, Nat.zero_add] at h9; exact h9
    have f4 : w5.cell? ⟨G, 4, none⟩ = some (.string (P 0).b) := by have h9 := hcl 4 (by omega); rw [Nat.zero_mul, Nat.zero_add] at h9; exact h9
    have f5 : w5.cell? ⟨G, 5, none⟩ = some (.slice ap (P 0).m cp) := by have h9 := hcl 5 (by omega); rw [Nat.zero_mul, Nat.zero_add] at h9; exact h9
    have K7 : Hid (SaW w w0 ((((((w5.setCell ⟨X, 4, none⟩ (.string (P 0).r)).setCell ⟨X, 5, none⟩ (.int .i64 (P 0).k)).setCell ⟨X, 6, none⟩ (.int .i64 (P 0).n)).setCell ⟨X, 7, none⟩ (.int .i64 (P 0).i)).setCell ⟨X, 8, none⟩ (.string (P 0).b)).setCell ⟨X, 9, none⟩ (.slice ap (P 0).m cp)) g a0 n cap X { (⟨0, -1, id, r0, pj⟩ : Sy) with p := P 0 } ap cp) := K5.out.pc hab (P 0) ap cp (KTx.out w5 (grownBy_trans KG0.out K5.out.b) 0 n0 ap cp hcl) (HPS.out 0 n0)
    obtain ⟨p0, HP0⟩ : ∃ x, Hid (P 0 = x) := ⟨_, rfl⟩
    rw [HP0.out] at f0 f1 f2 f3 f4 f5 K7
    clear hcl
    have t4 := K5.out.x.cell 4
    have t5 := K5.out.x.cell 5
    have t6 := K5.out.x.cell 6
    have t7 := K5.out.x.cell 7
    have t8 := K5.out.x.cell 8
    have t9 := K5.out.x.cell 9
    have z4 := K5.out.x.free 4
    have z5 := K5.out.x.free 5
    have z6 := K5.out.x.free 6
    have z7 := K5.out.x.free 7
    have z8 := K5.out.x.free 8
    have z9 := K5.out.x.free 9
    simp at t4 t5 t6 t7 t8 t9
    obtain ⟨FR, FP⟩ := FIN.out _ _ _ _ K7.out _ rfl
    have RXe : Hid _ := K7.out.x
    have RDe : Hid _ := KRD.out _ K7.out.b
    go_wp2_with (first | (refine wpList_load_row (by rfl) 87 _ (by rfl) X (by rfl) 87 (syC { (⟨0, -1, id, r0, pj⟩ : Sy) with p := p0 } (.slice ap ({ (⟨0, -1, id, r0, pj⟩ : Sy) with p := p0 } : Sy).p.m cp)) (0, 0) _ ?_ Tryz.underlying87 (by rfl) Tryz.infoSy ?_; exact RXe.out) | (refine wpList_store_row (by rfl) 87 _ _ (by rfl) D (syC { (⟨0, -1, id, r0, pj⟩ : Sy) with p := p0 } (.slice ap ({ (⟨0, -1, id, r0, pj⟩ : Sy) with p := p0 } : Sy).p.m cp)) (by rfl) (by rfl) 87 #[.int .i64 0, .int .i64 0, .int .i64 0, .string ⟨#[]⟩, .string ⟨#[]⟩, .int .i64 0, .int .i64 0, .int .i64 0, .string ⟨#[]⟩, .slice none 0 0] ?_ Tryz.infoSy rfl (by simp [Value.oneCell']) ?_; exact RDe.out))
    exact bodyPost_ret (results_cell_row Tryz.results53 _ _ D 87 _ (0, 0) _ (by rfl) FR Tryz.underlying87 (by rfl) Tryz.infoSy) rfl FP
   have b4 : (q == 4) = false := by simpa using e4
   obtain ⟨FR, FP⟩ := FIN.out _ _ _ _ K5.out _ rfl
   have RXe : Hid _ := K5.out.x
   have RDe : Hid _ := KRD.out _ K5.out.b
   go_wp2_with (first | (refine wpList_load_row (by rfl) 87 _ (by rfl) X (by rfl) 87 (syC ⟨0, -1, id, r0, pj⟩ (.slice ap (⟨0, -1, id, r0, pj⟩ : Sy).p.m cp)) (0, 0) _ ?_ Tryz.underlying87 (by rfl) Tryz.infoSy ?_; exact RXe.out) | (refine wpList_store_row (by rfl) 87 _ _ (by rfl) D (syC ⟨0, -1, id, r0, pj⟩ (.slice ap (⟨0, -1, id, r0, pj⟩ : Sy).p.m cp)) (by rfl) (by rfl) 87 #[.int .i64 0, .int .i64 0, .int .i64 0, .string ⟨#[]⟩, .string ⟨#[]⟩, .int .i64 0, .int .i64 0, .int .i64 0, .string ⟨#[]⟩, .slice none 0 0] ?_ Tryz.infoSy rfl (by simp [Value.oneCell']) ?_; exact RDe.out))
   exact bodyPost_ret (results_cell_row Tryz.results53 _ _ D 87 _ (0, 0) _ (by rfl) FR Tryz.underlying87 (by rfl) Tryz.infoSy) rfl FP
  have hkb : (k1 == 0) = false := by simpa using hk
  go_wp2_with fail
  refine (KB.out 20 wx K1.out.c).mono ?_
  rintro e w5 ⟨q, _, _, _, rfl, hg5, hc5⟩
  have K5 : Hid (SaW w w0 w5 g a0 n cap X ⟨k1, k5, id, r0, pcO⟩ none 0) := K1.out.kept hg5 hc5
  have hlt := K5.out.c.lt
  clear hg5 hc5
  by_cases e0 : q = 0
  ·subst e0
   go_wp2_with fail
   refine (pick_any g n cap a0 w5.heap.size 0 2 2 _ (K5.out.c.alloc _) (by omega) (by omega) (by omega) (lit_cells (cs := [-1, 3]))).mono ?_
   rintro e w6 ⟨z, rfl, hg6, hc6⟩
   have K6 : Hid (SaW w w0 w6 g a0 n cap X ⟨k1, k5, id, r0, pcO⟩ none 0) := K5.out.kept (grownBy_trans (World.grownBy_alloc w5 _ _) hg6) hc6
   have K7 : Hid (SaW w w0 (w6.setCell ⟨X, 0, none⟩ (.int .i64 z)) g a0 n cap X { (⟨k1, k5, id, r0, pcO⟩ : Sy) with k := z } none 0) := K6.out.put 0 _ hab (K6.out.x.set 0 _) rfl K6.out.s.r
   have t0 := K6.out.x.cell 0
   have z0 := K6.out.x.free 0
   simp at t0
   obtain ⟨FR, FP⟩ := FIN.out _ _ _ _ K7.out _ rfl
   have RXe : Hid _ := K7.out.x
   have RDe : Hid _ := KRD.out _ K7.out.b
   go_wp2_with (first | (refine wpList_load_row (by rfl) 87 _ (by rfl) X (by rfl) 87 (syC { (⟨k1, k5, id, r0, pcO⟩ : Sy) with k := z } (.slice none ({ (⟨k1, k5, id, r0, pcO⟩ : Sy) with k := z } : Sy).p.m 0)) (0, 0) _ ?_ Tryz.underlying87 (by rfl) Tryz.infoSy ?_; exact RXe.out) | (refine wpList_store_row (by rfl) 87 _ _ (by rfl) D (syC { (⟨k1, k5, id, r0, pcO⟩ : Sy) with k := z } (.slice none ({ (⟨k1, k5, id, r0, pcO⟩ : Sy) with k := z } : Sy).p.m 0)) (by rfl) (by rfl) 87 #[.int .i64 0, .int .i64 0, .int .i64 0, .string ⟨#[]⟩, .string ⟨#[]⟩, .int .i64 0, .int .i64 0, .int .i64 0, .string ⟨#[]⟩, .slice none 0 0] ?_ Tryz.infoSy rfl (by simp [Value.oneCell']) ?_; exact RDe.out))
   exact bodyPost_ret (results_cell_row Tryz.results53 _ _ D 87 _ (0, 0) _ (by rfl) FR Tryz.underlying87 (by rfl) Tryz.infoSy) rfl FP
  have b0 : (q == 0) = false := by simpa using e0
  by_cases e1 : q = 1
  ·subst e1
   go_wp2_with fail
   refine (KAl.out w5).mono ?_
   rintro e w6 ⟨rfl, hw6⟩
   obtain rfl := hw6.symm
   go_wp2_with fail
   refine (pick_any g n cap a0 w5.heap.size 0 3 3 _ (K5.out.c.alloc _) (by omega) (by omega) (by omega) (lit_cells (cs := [-1, -2, al8 f]))).mono ?_
   rintro e w6 ⟨z, rfl, hg6, hc6⟩
   have K6 : Hid (SaW w w0 w6 g a0 n cap X ⟨k1, k5, id, r0, pcO⟩ none 0) := K5.out.kept (grownBy_trans (World.grownBy_alloc w5 _ _) hg6) hc6
   have K7 : Hid (SaW w w0 (w6.setCell ⟨X, 1, none⟩ (.int .i64 z)) g a0 n cap X { (⟨k1, k5, id, r0, pcO⟩ : Sy) with f := z } none 0) := K6.out.put 1 _ hab (K6.out.x.set 1 _) rfl K6.out.s.r
   have t1 := K6.out.x.cell 1
   have z1 := K6.out.x.free 1
   simp at t1
   obtain ⟨FR, FP⟩ := FIN.out _ _ _ _ K7.out _ rfl
   have RXe : Hid _ := K7.out.x
   have RDe : Hid _ := KRD.out _ K7.out.b
   go_wp2_with (first | (refine wpList_load_row (by rfl) 87 _ (by rfl) X (by rfl) 87 (syC { (⟨k1, k5, id, r0, pcO⟩ : Sy) with f := z } (.slice none ({ (⟨k1, k5, id, r0, pcO⟩ : Sy) with f := z } : Sy).p.m 0)) (0, 0) _ ?_ Tryz.underlying87 (by rfl) Tryz.infoSy ?_; exact RXe.out) | (refine wpList_store_row (by rfl) 87 _ _ (by rfl) D (syC { (⟨k1, k5, id, r0, pcO⟩ : Sy) with f := z } (.slice none ({ (⟨k1, k5, id, r0, pcO⟩ : Sy) with f := z } : Sy).p.m 0)) (by rfl) (by rfl) 87 #[.int .i64 0, .int .i64 0, .int .i64 0, .string ⟨#[]⟩, .string ⟨#[]⟩, .int .i64 0, .int .i64 0, .int .i64 0, .string ⟨#[]⟩, .slice none 0 0] ?_ Tryz.infoSy rfl (by simp [Value.oneCell']) ?_; exact RDe.out))
   exact bodyPost_ret (results_cell_row Tryz.results53 _ _ D 87 _ (0, 0) _ (by rfl) FR Tryz.underlying87 (by rfl) Tryz.infoSy) rfl FP
  have b1 : (q == 1) = false := by simpa using e1
  by_cases e2 : q = 2
  ·subst e2
   have hwi : IntKind.i64.wrap (id + 1) = id + 1 := by rw [IntKind.wrap_i64]; omega
   have K7 : Hid (SaW w w0 (w5.setCell ⟨X, 2, none⟩ (.int .i64 (id + 1))) g a0 n cap X { (⟨k1, k5, id, r0, pcO⟩ : Sy) with t := id + 1 } none 0) := K5.out.put 2 _ hab (K5.out.x.set 2 _) rfl K5.out.s.r
   have t2 := K5.out.x.cell 2
   have z2 := K5.out.x.free 2
   simp at t2
   obtain ⟨FR, FP⟩ := FIN.out _ _ _ _ K7.out _ rfl
   have RXe : Hid _ := K7.out.x
   have RDe : Hid _ := KRD.out _ K7.out.b
   go_wp2_with (first | (refine wpList_load_row (by rfl) 87 _ (by rfl) X (by rfl) 87 (syC { (⟨k1, k5, id, r0, pcO⟩ : Sy) with t := id + 1 } (.slice none ({ (⟨k1, k5, id, r0, pcO⟩ : Sy) with t := id + 1 } : Sy).p.m 0)) (0, 0) _ ?_ Tryz.underlying87 (by rfl) Tryz.infoSy ?_; exact RXe.out) | (refine wpList_store_row (by rfl) 87 _ _ (by rfl) D (syC { (⟨k1, k5, id, r0, pcO⟩ : Sy) with t := id + 1 } (.slice none ({ (⟨k1, k5, id, r0, pcO⟩ : Sy) with t := id + 1 } : Sy).p.m 0)) (by rfl) (by rfl) 87 #[.int .i64 0, .int .i64 0, .int .i64 0, .string ⟨#[]⟩, .string ⟨#[]⟩, .int .i64 0, .int .i64 0, .int .i64 0, .string ⟨#[]⟩, .slice none 0 0] ?_ Tryz.infoSy rfl (by simp [Value.oneCell']) ?_; exact RDe.out))
   exact bodyPost_ret (results_cell_row Tryz.results53 _ _ D 87 _ (0, 0) _ (by rfl) FR Tryz.underlying87 (by rfl) Tryz.infoSy) rfl FP
  have b2 : (q == 2) = false := by simpa using e2
  by_cases e3 : q = 3
  ·subst e3
   go_wp2_with fail
   refine (sleaf_any ⟨#[122]⟩ w5 (by decide)).mono ?_
   rintro e w6 ⟨rfl, hb6⟩
   have K6 : Hid (SaW w w0 w6 g a0 n cap X ⟨k1, k5, id, r0, pcO⟩ none 0) := K5.out.kept (grownB g hb6) (curBelow K5.out.c hb6)
   have hz9 : (Gt.lf ⟨#[122]⟩).size ≤ 4096 := by rw [Gt.lf_size]; omega
   generalize Gt.lf ⟨#[122]⟩ = zz at hz9 ⊢
   have hlt6 := K6.out.c.lt
   go_wp2_with fail
   refine (pickQ_any (fun t => t.size ≤ 4096) g n cap a0 w6.heap.size 0 2 2 _ (K6.out.c.alloc _) (by omega) (by omega) (by omega) (fun i hi => ?_)).mono ?_
   ·have hr := (Row.new w6 #[.string ⟨#[]⟩, .string zz] 9).cell i
    rw [Nat.zero_add]
    match i, hi with
    | 0, _ => exact ⟨_, Nat.zero_le _, hr⟩
    | 1, _ => exact ⟨_, hz9, hr⟩
   rintro e w7 ⟨z, hz, rfl, hg7, hc7⟩
   have K8 : Hid (SaW w w0 w7 g a0 n cap X ⟨k1, k5, id, r0, pcO⟩ none 0) := K6.out.kept (grownBy_trans (World.grownBy_alloc w6 _ _) hg7) hc7
   have K9 : Hid (SaW w w0 (w7.setCell ⟨X, 3, none⟩ (.string z)) g a0 n cap X { (⟨k1, k5, id, r0, pcO⟩ : Sy) with r := z } none 0) := K8.out.put 3 _ hab (K8.out.x.set 3 _) rfl hz
   have t3 := K8.out.x.cell 3
   have z3 := K8.out.x.free 3
   simp at t3
   obtain ⟨FR, FP⟩ := FIN.out _ _ _ _ K9.out _ rfl
   have RXe : Hid _ := K9.out.x
   have RDe : Hid _ := KRD.out _ K9.out.b
   go_wp2_with (first | (refine wpList_load_row (by rfl) 87 _ (by rfl) X (by rfl) 87 (syC { (⟨k1, k5, id, r0, pcO⟩ : Sy) with r := z } (.slice none ({ (⟨k1, k5, id, r0, pcO⟩ : Sy) with r := z } : Sy).p.m 0)) (0, 0) _ ?_ Tryz.underlying87 (by rfl) Tryz.infoSy ?_; exact RXe.out) | (refine wpList_store_row (by rfl) 87 _ _ (by rfl) D (syC { (⟨k1, k5, id, r0, pcO⟩ : Sy) with r := z } (.slice none ({ (⟨k1, k5, id, r0, pcO⟩ : Sy) with r := z } : Sy).p.m 0)) (by rfl) (by rfl) 87 #[.int .i64 0, .int .i64 0, .int .i64 0, .string ⟨#[]⟩, .string ⟨#[]⟩, .int .i64 0, .int .i64 0, .int .i64 0, .string ⟨#[]⟩, .slice none 0 0] ?_ Tryz.infoSy rfl (by simp [Value.oneCell']) ?_; exact RDe.out))
   exact bodyPost_ret (results_cell_row Tryz.results53 _ _ D 87 _ (0, 0) _ (by rfl) FR Tryz.underlying87 (by rfl) Tryz.infoSy) rfl FP
  have b3 : (q == 3) = false := by simpa using e3
  by_cases e4 : q = 4
  ·subst e4
   obtain ⟨ap, cp, hcl, _⟩ := KEl.out w5 (upG (grownBy_trans KG0.out K5.out.b)) 0 n0
   have f0 : w5.cell? ⟨G, 0, none⟩ = some (.string (P 0).r) := by have h9 := hcl 0 (by omega); rw [Nat.zero_mul, Nat.zero_add] at h9; exact h9
   have f1 : w5.cell? ⟨G, 1, none⟩ = some (.int .i64 (P 0).k) := by have h9 := hcl 1 (by omega); rw [Nat.zero_mul, Nat.zero_add] at h9; exact h9
   have f2 : w5.cell? ⟨G, 2, none⟩ = some (.int .i64 (P 0).n) := by have h9 := hcl 2 (by omega); rw [Nat.zero_mul, Nat.zero_add] at h9; exact h9
   have f3 : w5.cell? ⟨G, 3, none⟩ = some (.int .i64 (P 0).i) := by have h9 := hcl 3 (by omega); rw [Nat.zero_mul, Nat.zero_add] at h9; exact h9
   have f4 : w5.cell? ⟨G, 4, none⟩ = some (.string (P 0).b) := by have h9 := hcl 4 (by omega); rw [Nat.zero_mul, Nat.zero_add] at h9; exact h9
   have f5 : w5.cell? ⟨G, 5, none⟩ = some (.slice ap (P 0).m cp) := by have h9 := hcl 5 (by omega); rw [Nat.zero_mul, Nat.zero_add] at h9; exact h9
   have K7 : Hid (SaW w w0 ((((((w5.setCell ⟨X, 4, none⟩ (.string (P 0).r)).setCell ⟨X, 5, none⟩ (.int .i64 (P 0).k)).setCell ⟨X, 6, none⟩ (.int .i64 (P 0).n)).setCell ⟨X, 7, none⟩ (.int .i64 (P 0).i)).setCell ⟨X, 8, none⟩ (.string (P 0).b)).setCell ⟨X, 9, none⟩ (.slice ap (P 0).m cp)) g a0 n cap X { (⟨k1, k5, id, r0, pcO⟩ : Sy) with p := P 0 } ap cp) := K5.out.pc hab (P 0) ap cp (KTx.out w5 (grownBy_trans KG0.out K5.out.b) 0 n0 ap cp hcl) (HPS.out 0 n0)
   obtain ⟨p0, HP0⟩ : ∃ x, Hid (P 0 = x) := ⟨_, rfl⟩
   rw [HP0.out] at f0 f1 f2 f3 f4 f5 K7
   clear hcl
   have t4 := K5.out.x.cell 4
   have t5 := K5.out.x.cell 5
   have t6 := K5.out.x.cell 6
   have t7 := K5.out.x.cell 7
   have t8 := K5.out.x.cell 8
   have t9 := K5.out.x.cell 9
   have z4 := K5.out.x.free 4
   have z5 := K5.out.x.free 5
   have z6 := K5.out.x.free 6
   have z7 := K5.out.x.free 7
   have z8 := K5.out.x.free 8
   have z9 := K5.out.x.free 9
   simp at t4 t5 t6 t7 t8 t9
   obtain ⟨FR, FP⟩ := FIN.out _ _ _ _ K7.out _ rfl
   have RXe : Hid _ := K7.out.x
   have RDe : Hid _ := KRD.out _ K7.out.b
   go_wp2_with (first | (refine wpList_load_row (by rfl) 87 _ (by rfl) X (by rfl) 87 (syC { (⟨k1, k5, id, r0, pcO⟩ : Sy) with p := p0 } (.slice ap ({ (⟨k1, k5, id, r0, pcO⟩ : Sy) with p := p0 } : Sy).p.m cp)) (0, 0) _ ?_ Tryz.underlying87 (by rfl) Tryz.infoSy ?_; exact RXe.out) | (refine wpList_store_row (by rfl) 87 _ _ (by rfl) D (syC { (⟨k1, k5, id, r0, pcO⟩ : Sy) with p := p0 } (.slice ap ({ (⟨k1, k5, id, r0, pcO⟩ : Sy) with p := p0 } : Sy).p.m cp)) (by rfl) (by rfl) 87 #[.int .i64 0, .int .i64 0, .int .i64 0, .string ⟨#[]⟩, .string ⟨#[]⟩, .int .i64 0, .int .i64 0, .int .i64 0, .string ⟨#[]⟩, .slice none 0 0] ?_ Tryz.infoSy rfl (by simp [Value.oneCell']) ?_; exact RDe.out))
   exact bodyPost_ret (results_cell_row Tryz.results53 _ _ D 87 _ (0, 0) _ (by rfl) FR Tryz.underlying87 (by rfl) Tryz.infoSy) rfl FP
  have b4 : (q == 4) = false := by simpa using e4
  obtain ⟨FR, FP⟩ := FIN.out _ _ _ _ K5.out _ rfl
  have RXe : Hid _ := K5.out.x
  have RDe : Hid _ := KRD.out _ K5.out.b
  go_wp2_with (first | (refine wpList_load_row (by rfl) 87 _ (by rfl) X (by rfl) 87 (syC ⟨k1, k5, id, r0, pcO⟩ (.slice none (⟨k1, k5, id, r0, pcO⟩ : Sy).p.m 0)) (0, 0) _ ?_ Tryz.underlying87 (by rfl) Tryz.infoSy ?_; exact RXe.out) | (refine wpList_store_row (by rfl) 87 _ _ (by rfl) D (syC ⟨k1, k5, id, r0, pcO⟩ (.slice none (⟨k1, k5, id, r0, pcO⟩ : Sy).p.m 0)) (by rfl) (by rfl) 87 #[.int .i64 0, .int .i64 0, .int .i64 0, .string ⟨#[]⟩, .string ⟨#[]⟩, .int .i64 0, .int .i64 0, .int .i64 0, .string ⟨#[]⟩, .slice none 0 0] ?_ Tryz.infoSy rfl (by simp [Value.oneCell']) ?_; exact RDe.out))
  exact bodyPost_ret (results_cell_row Tryz.results53 _ _ D 87 _ (0, 0) _ (by rfl) FR Tryz.underlying87 (by rfl) Tryz.infoSy) rfl FP
 refine wp_region_inv Tryz.mixed (by kernel_rfl) (fun L a W => ∃ u x1 x5 x11 : Value, a = ⟨(List.toArray (α := Value) ((.pointer (some ⟨g, 0, none⟩)) :: (.int .i64 id) :: (.int .i64 f) :: (.slice (some ⟨G, 0, none⟩) N cc) :: undef :: undef :: undef :: undef :: (.pointer (some ⟨D, 0, none⟩)) :: u :: (cV (L 0) (.pointer (some ⟨g, 0, none⟩))) :: x1 :: (cV (L 2) (.pointer (some ⟨g, 0, none⟩))) :: (cV (L 3) (.int .i64 f)) :: (cV (L 4) (.int .i64 (al8 f))) :: x5 :: (cV (L 6) (.int .i64 id)) :: (cV (L 7) (.slice (some ⟨G, 0, none⟩) N cc)) :: (cV (L 8) (.pointer (some ⟨G, 0, none⟩))) :: (cV (L 9) (.pointer (some ⟨G, 0, none⟩))) :: (cV (L 10) (.string r0)) :: x11 :: undef :: undef :: undef :: undef :: undef :: undef :: undef :: undef :: undef :: undef :: undef :: undef :: undef :: undef :: undef :: undef :: undef :: undef :: undef :: undef :: undef :: undef :: undef :: undef :: undef :: undef :: undef :: undef :: undef :: undef :: undef :: undef :: undef :: undef :: undef :: undef :: undef :: undef :: undef :: undef :: undef :: undef :: undef :: undef :: undef :: undef :: undef :: [])), []⟩ ∧ w0.grownBy W (some g) ∧ Cur W g a0 n cap ∧ (L 1 = true → ∃ k : Int, x1 = .int .i64 k) ∧ (L 5 = true → ∃ k : Int, x5 = .int .i64 k) ∧ (L 11 = true → ∃ k1 k5 : Int, x11 = .agg #[.int .i64 k1, .int .i64 k5, .int .i64 id, .string r0, .string ⟨#[]⟩, .int .i64 0, .int .i64 0, .int .i64 0, .string ⟨#[]⟩, .slice none 0 0]) ∧ (L 13 = true → L 12 = true) ∧ (L 12 = true → ∃ X, u = .pointer (some ⟨X, 0, none⟩) ∧ w0.heap.size ≤ X ∧ (L 13 = false → Row W X 87 #[.int .i64 0, .int .i64 0, .int .i64 0, .string ⟨#[]⟩, .string ⟨#[]⟩, .int .i64 0, .int .i64 0, .int .i64 0, .string ⟨#[]⟩, .slice none 0 0]) ∧ (L 13 = true → ∃ k1 k5 : Int, Row W X 87 #[.int .i64 k1, .int .i64 k5, .int .i64 id, .string r0, .string ⟨#[]⟩, .int .i64 0, .int .i64 0, .int .i64 0, .string ⟨#[]⟩, .slice none 0 0]))) ?_ ?_ ?_
 ·exact ⟨undef, undef, undef, undef, rfl, ⟨rfl, rfl, rfl, Nat.le_refl _, fun _ _ _ => rfl⟩, KC0.out, (fun h => by cases h), (fun h => by cases h), (fun h => by cases h), (fun h => by cases h), fun h => by cases h⟩
 ·intro i hi L a W hl hd hI
  obtain ⟨u, x1, x5, x11, rfl, hB, hC, h1, h5, h11, h13, hX⟩ := hI
  have c0 := KR0.out W hB
  match i, hi with
  | 0, _ =>
   refine wpOp_plain rfl (fun _ => rfl) fun K hK => ?_
   go_simp
   exact hK _ _ ⟨u, x1, x5, x11, by simp only [Nat.reduceBEq, Bool.false_or, Bool.true_or, cV_y], hB, hC, h1, h5, h11, h13, hX⟩
  | 1, _ =>
   have d0 := hd.dep 0 (by kernel_rfl)
   refine wpOp_plain rfl (fun _ => rfl) fun K hK => ?_
   simp only [d0, cV_y]
   go_simp
   refine Calls.mono (KB.out _ W hC) ?_
   rintro e w2 ⟨kx, _, _, _, rfl, hg2, hc2⟩
   refine hK _ _ ⟨u, .int .i64 kx, x5, x11, by simp only [Nat.reduceBEq, Bool.false_or, cV_y, d0], grownBy_trans hB hg2, hc2, (fun _ => ⟨kx, rfl⟩), h5, h11, h13, fun h => ?_⟩
   obtain ⟨X, hu, hX1, hX2, hX3⟩ := hX h
   exact ⟨X, hu, hX1, (fun h => (hX2 h).keptG hg2 (by omega)), fun h => by obtain ⟨k1, k5, h9⟩ := hX3 h; exact ⟨k1, k5, h9.keptG hg2 (by omega)⟩⟩
  | 2, _ =>
   refine wpOp_plain rfl (fun _ => rfl) fun K hK => ?_
   go_simp
   exact hK _ _ ⟨u, x1, x5, x11, by simp only [Nat.reduceBEq, Bool.false_or, Bool.true_or, cV_y], hB, hC, h1, h5, h11, h13, hX⟩
  | 3, _ =>
   refine wpOp_plain rfl (fun _ => rfl) fun K hK => ?_
   go_simp
   exact hK _ _ ⟨u, x1, x5, x11, by simp only [Nat.reduceBEq, Bool.false_or, Bool.true_or, cV_y], hB, hC, h1, h5, h11, h13, hX⟩
  | 4, _ =>
   have d3 := hd.dep 3 (by kernel_rfl)
   refine wpOp_plain rfl (fun _ => rfl) fun K hK => ?_
   simp only [d3, cV_y]
   go_simp
   refine Calls.mono (KAl.out W) ?_
   rintro e w2 ⟨rfl, hw2⟩
   subst hw2
   exact hK _ _ ⟨u, x1, x5, x11, by simp only [Nat.reduceBEq, Bool.false_or, Bool.true_or, cV_y, d3], hB, hC, h1, h5, h11, h13, hX⟩
  | 5, _ =>
   have d2 := hd.dep 2 (by kernel_rfl)
   have d4 := hd.dep 4 (by kernel_rfl)
   refine wpOp_plain rfl (fun _ => rfl) fun K hK => ?_
   simp only [d2, d4, cV_y]
   go_simp
   refine Calls.mono (KB.out _ W hC) ?_
   rintro e w2 ⟨kx, _, _, _, rfl, hg2, hc2⟩
   refine hK _ _ ⟨u, x1, .int .i64 kx, x11, by simp only [Nat.reduceBEq, Bool.false_or, cV_y, d2, d4], grownBy_trans hB hg2, hc2, h1, (fun _ => ⟨kx, rfl⟩), h11, h13, fun h => ?_⟩
   obtain ⟨X, hu, hX1, hX2, hX3⟩ := hX h
   exact ⟨X, hu, hX1, (fun h => (hX2 h).keptG hg2 (by omega)), fun h => by obtain ⟨k1, k5, h9⟩ := hX3 h; exact ⟨k1, k5, h9.keptG hg2 (by omega)⟩⟩
  | 6, _ =>
   refine wpOp_plain rfl (fun _ => rfl) fun K hK => ?_
   go_simp
   exact hK _ _ ⟨u, x1, x5, x11, by simp only [Nat.reduceBEq, Bool.false_or, Bool.true_or, cV_y], hB, hC, h1, h5, h11, h13, hX⟩
  | 7, _ =>
   refine wpOp_plain rfl (fun _ => rfl) fun K hK => ?_
   go_simp
   exact hK _ _ ⟨u, x1, x5, x11, by simp only [Nat.reduceBEq, Bool.false_or, Bool.true_or, cV_y], hB, hC, h1, h5, h11, h13, hX⟩
  | 8, _ =>
   have d7 := hd.dep 7 (by kernel_rfl)
   refine wpOp_plain rfl (fun _ => rfl) fun K hK => ?_
   simp only [d7, cV_y]
   go_simp
   exact hK _ _ ⟨u, x1, x5, x11, by simp only [Nat.reduceBEq, Bool.false_or, Bool.true_or, cV_y, d7], hB, hC, h1, h5, h11, h13, hX⟩
  | 9, _ =>
   have d8 := hd.dep 8 (by kernel_rfl)
   refine wpOp_plain rfl (fun _ => rfl) fun K hK => ?_
   simp only [d8, cV_y]
   go_simp
   exact hK _ _ ⟨u, x1, x5, x11, by simp only [Nat.reduceBEq, Bool.false_or, Bool.true_or, cV_y, d8], hB, hC, h1, h5, h11, h13, hX⟩
  | 10, _ =>
   have d9 := hd.dep 9 (by kernel_rfl)
   refine wpOp_plain rfl (fun _ => rfl) fun K hK => ?_
   simp only [d9, cV_y]
   go_simp
   exact hK _ _ ⟨u, x1, x5, x11, by simp only [Nat.reduceBEq, Bool.false_or, Bool.true_or, cV_y, d9], hB, hC, h1, h5, h11, h13, hX⟩
  | 11, _ =>
   have d1 := hd.dep 1 (by kernel_rfl)
   have d5 := hd.dep 5 (by kernel_rfl)
   have d6 := hd.dep 6 (by kernel_rfl)
   have d10 := hd.dep 10 (by kernel_rfl)
   obtain ⟨k1, rfl⟩ := h1 d1
   obtain ⟨k5, rfl⟩ := h5 d5
   refine wpOp_plain rfl (fun _ => rfl) fun K hK => ?_
   simp only [d6, d10, cV_y]
   go_simp
   exact hK _ _ ⟨u, _, _, .agg #[.int .i64 k1, .int .i64 k5, .int .i64 id, .string r0, .string ⟨#[]⟩, .int .i64 0, .int .i64 0, .int .i64 0, .string ⟨#[]⟩, .slice none 0 0], by simp only [Nat.reduceBEq, Bool.false_or, cV_y, d6, d10], hB, hC, (fun _ => ⟨k1, rfl⟩), (fun _ => ⟨k5, rfl⟩), (fun _ => ⟨k1, k5, rfl⟩), h13, hX⟩
  | 12, _ =>
   refine wpOp_plain rfl (fun _ => rfl) fun K hK => ?_
   go_simp
   refine hK _ _ ⟨_, x1, x5, x11, rfl, grownAlloc hB, hC.alloc _, h1, h5, h11, (fun _ => rfl), fun _ => ⟨_, rfl, hB.size, (fun _ => Row.new W _ _), fun h => ?_⟩⟩
   have h9 := h13 h
   rw [hl] at h9
   cases h9
  | 13, _ =>
   have d11 := hd.dep 11 (by kernel_rfl)
   have d12 := hd.dep 12 (by kernel_rfl)
   obtain ⟨k1, k5, rfl⟩ := h11 d11
   obtain ⟨X, rfl, hX1, hX2, _⟩ := hX d12
   have hX2 := hX2 hl
   have lX : g < X := by omega
   refine wpOp_plain rfl (fun _ => rfl) fun K hK => ?_
   refine wp_store_row 87 _ _ rfl X #[.int .i64 k1, .int .i64 k5, .int .i64 id, .string r0, .string ⟨#[]⟩, .int .i64 0, .int .i64 0, .int .i64 0, .string ⟨#[]⟩, .slice none 0 0] (by rfl) (by rfl) 87 #[.int .i64 0, .int .i64 0, .int .i64 0, .string ⟨#[]⟩, .string ⟨#[]⟩, .int .i64 0, .int .i64 0, .int .i64 0, .string ⟨#[]⟩, .slice none 0 0] hX2 Tryz.infoSy rfl (by simp [Value.oneCell']) ?_
   exact hK _ _ ⟨_, x1, x5, _, (by simp [Act.put]), grownRow hB hX1, hC.row _ lX hab, h1, h5, (fun _ => ⟨k1, k5, rfl⟩), (fun _ => d12), fun _ => ⟨X, rfl, hX1, (fun h => by cases h), fun _ => ⟨k1, k5, hX2.row⟩⟩⟩
  | n9 + 14, h => exact absurd h (by simp)
 ·intro L a W hall hI
  obtain ⟨u, x1, x5, x11, rfl, hB, hC, h1, h5, h11, h13, hX⟩ := hI
  have e0 := hall 0 (by decide)
  have e1 := hall 1 (by decide)
  have e2 := hall 2 (by decide)
  have e3 := hall 3 (by decide)
  have e4 := hall 4 (by decide)
  have e5 := hall 5 (by decide)
  have e6 := hall 6 (by decide)
  have e7 := hall 7 (by decide)
  have e8 := hall 8 (by decide)
  have e9 := hall 9 (by decide)
  have e10 := hall 10 (by decide)
  have e11 := hall 11 (by decide)
  have e12 := hall 12 (by decide)
  have e13 := hall 13 (by decide)
  obtain ⟨X, rfl, hX1, _, hX3⟩ := hX e12
  obtain ⟨k1, k5, h9⟩ := hX3 e13
  simp only [e0, e2, e3, e4, e6, e7, e8, e9, e10, cV_y]
  exact (HRR.out _ _).2 ⟨X, x1, x5, x11, k1, k5, rfl, hB, hC, hX1, h9⟩
end Go.Proofs.YtaenoiffamgcfaaGreatDoor
