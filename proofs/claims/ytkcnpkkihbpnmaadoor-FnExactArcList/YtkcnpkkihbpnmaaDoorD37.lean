/- Archives copied by the laws. Conditions: lists of at most 2^20. -/
import Derived.Test.YtkcnpkkihbpnmaaDoorD35
namespace Go.Proofs.YtkcnpkkihbpnmaaDoor
set_option maxRecDepth 2000
open Go.ChangeShapes Go.WideShapes Go.ChangeAt Go.RowKit

theorem NtO.turned {w w' : World} {B n m : Nat} {N : Nat → Nd} {zs : List Int} {Y : Nat → Sy} {v1 v2 v3 : Value} {F1 F2 F3 H : Nat → Prop} (h : NtO w B n N zs m Y v1 v2 v3 F1 F2 F3) (ht : Trn w w' H) (hn : ∀ x, F1 x ∨ F2 x ∨ F3 x → ¬ H x) : NtO w' B n N zs m Y v1 v2 v3 F1 F2 F3 := ⟨h.n.turned ht (fun x hx => hn x (.inl hx)), h.z.turned ht (fun x hx => hn x (.inr (.inl hx))), h.y.turned ht (fun x hx => hn x (.inr (.inr hx))), h.d1, h.d2, h.d3⟩
theorem NtO.base {w : World} {B B' n m : Nat} {N : Nat → Nd} {zs : List Int} {Y : Nat → Sy} {v1 v2 v3 : Value} {F1 F2 F3 : Nat → Prop} (h : NtO w B n N zs m Y v1 v2 v3 F1 F2 F3) (hb : B' ≤ B) : NtO w B' n N zs m Y v1 v2 v3 F1 F2 F3 := ⟨h.n.base hb, h.z.base hb, h.y.base hb, h.d1, h.d2, h.d3⟩
abbrev arZ' : Array Value := #[.int .i64 0, .slice none 0 0, .slice none 0 0, .slice none 0 0, .slice none 0 0, .slice none 0 0]
/-- An archive that is ours: where its lists lie. -/
structure ArO (w : World) (B n : Nat) (N : Nat → Nd) (zs : List Int) (m : Nat) (Y : Nat → Sy) (ne : Nat) (E : Nat → En) (nm : Nat) (M : Nat → Ma) (v1 v2 v3 v4 v5 : Value) (F1 F2 F3 F4 F5 : Nat → Prop) : Prop where
  nt : NtO w B n N zs m Y v1 v2 v3 F1 F2 F3
  e : Ow w B (ensD ne E) v4 F4
  m : Ow w B (masD nm M) v5 F5
  d4 : ∀ x, F1 x ∨ F2 x ∨ F3 x → ¬ F4 x
  d5 : ∀ x, F1 x ∨ F2 x ∨ F3 x → ¬ F5 x
  d6 : ∀ x, F4 x → ¬ F5 x
set_option maxHeartbeats 4000000 in
theorem toArc_any (f : Int) (a : Option Addr) (n c : Nat) (l : Option Addr) (zs : List Int) (d : Nat) (e : Option Addr) (m g : Nat) (N : Nat → Nd) (Y : Nat → Sy) (x : Option Addr) (ne cx : Nat) (E : Nat → En) (y : Option Addr) (nm cy : Nat) (M : Nat → Ma) (w : World) (h : ArcA w a n c l zs e m g N Y x ne cx E y nm cy M) (hn : n ≤ 1048576) (hN : ∀ i, i < n → NdS (N i)) (hz : zs.length ≤ 1048576) (hm : m ≤ 1048576) (hY : ∀ i, i < m → (Y i).p.m ≤ 1048576) (hne : ne ≤ 1048576) (hnm : nm ≤ 1048576) :
    Calls Tryd.prog 6 #[arV f (.slice a n c) (.slice l zs.length d) (.slice e m g) (.slice x ne cx) (.slice y nm cy)] w fun r w' => ∃ g1 g2 g3 g4 g5, r = .returned (arV f (.slice (some ⟨g1, 0, none⟩) n n) (.slice (some ⟨g2, 0, none⟩) zs.length zs.length) (.slice (some ⟨g3, 0, none⟩) m m) (.slice (some ⟨g4, 0, none⟩) ne ne) (.slice (some ⟨g5, 0, none⟩) nm nm)) ∧ (∃ F1 F2 F3 F4 F5, ArO w' w.heap.size n N zs m Y ne E nm M (.slice (some ⟨g1, 0, none⟩) n n) (.slice (some ⟨g2, 0, none⟩) zs.length zs.length) (.slice (some ⟨g3, 0, none⟩) m m) (.slice (some ⟨g4, 0, none⟩) ne ne) (.slice (some ⟨g5, 0, none⟩) nm nm) F1 F2 F3 F4 F5) ∧ Below w.heap.size w w' := by
  obtain ⟨A, HA⟩ : ∃ x, Hid (x = w.heap.size) := ⟨_, rfl⟩
  obtain ⟨D, HD⟩ : ∃ x, Hid (x = w.heap.size + 1) := ⟨_, rfl⟩
  obtain ⟨V, HV⟩ : ∃ x, Hid (x = w.heap.size + 1 + 1) := ⟨_, rfl⟩
  obtain ⟨v1, HV1⟩ : ∃ z, Hid (Value.slice a n c = z) := ⟨_, rfl⟩
  obtain ⟨v2, HV2⟩ : ∃ z, Hid (Value.slice l zs.length d = z) := ⟨_, rfl⟩
  obtain ⟨v3, HV3⟩ : ∃ z, Hid (Value.slice e m g = z) := ⟨_, rfl⟩
  obtain ⟨v4, HV4⟩ : ∃ z, Hid (Value.slice x ne cx = z) := ⟨_, rfl⟩
  obtain ⟨v5, HV5⟩ : ∃ z, Hid (Value.slice y nm cy = z) := ⟨_, rfl⟩
  obtain ⟨w0, HW0⟩ : ∃ z, Hid (z = ((w.alloc (.cells #[.int .i64 f, v1, v2, v3, v4, v5] 30)).alloc (.cells arZ' 40)).alloc (.cells arZ' 40)) := ⟨_, rfl⟩
  have RA : Hid (Row w0 A 30 #[.int .i64 f, v1, v2, v3, v4, v5]) := by show Row _ _ _ _; rw [HW0.out, HA.out]; exact Row.alloc (Row.alloc (Row.new w _ _) _) _
  have RD : Hid (Row w0 D 40 arZ') := by
    show Row _ _ _ _
    rw [HW0.out, HD.out]
    have := Row.new (w.alloc (.cells #[.int .i64 f, v1, v2, v3, v4, v5] 30)) arZ' 40
    exact Row.alloc (by simpa using this) _
  have RV : Hid (Row w0 V 40 arZ') := by
    show Row _ _ _ _
    rw [HW0.out, HV.out]
    have := Row.new ((w.alloc (.cells #[.int .i64 f, v1, v2, v3, v4, v5] 30)).alloc (.cells arZ' 40)) arZ' 40
    simpa using this
  have hb0 : Below w.heap.size w w0 := by rw [HW0.out]; exact (((Below.refl _ _).alloc (Nat.le_refl _) _).alloc (by simp) _).alloc (by simp; omega) _
  have KB0 : Hid (Below w.heap.size w w0) := hb0
  have HL : Hid (V ≠ D ∧ V ≠ A ∧ w.heap.size ≤ D ∧ w.heap.size ≤ V ∧ V < w0.heap.size ∧ D < w0.heap.size) := ⟨by have := HV.out; have := HD.out; omega, by have := HV.out; have := HA.out; omega, by have := HD.out; omega, by have := HV.out; omega, RV.out.lt, RD.out.lt⟩
  have K1 : Hid (Calls Tryd.prog 14 #[.agg #[.int .i64 f, v1, v2, v3]] w0 fun r w' => ∃ g1 g2 g3, r = .returned (ntV f (.slice (some ⟨g1, 0, none⟩) n n) (.slice (some ⟨g2, 0, none⟩) zs.length zs.length) (.slice (some ⟨g3, 0, none⟩) m m)) ∧ (∃ F1 F2 F3, NtO w' w0.heap.size n N zs m Y (.slice (some ⟨g1, 0, none⟩) n n) (.slice (some ⟨g2, 0, none⟩) zs.length zs.length) (.slice (some ⟨g3, 0, none⟩) m m) F1 F2 F3 ∧ ∀ x, F1 x ∨ F2 x ∨ F3 x → w0.heap.size ≤ x ∧ x < w'.heap.size) ∧ Below w0.heap.size w0 w') := by
    rw [← HV1.out, ← HV2.out, ← HV3.out]
    refine (toNt_any f a n c l zs d e m g N Y w0 (h.nt.below hb0) hn hN hz hm hY).mono ?_
    rintro r w' ⟨g1, g2, g3, rfl, F1, F2, F3, o1, o2, o3, d1, d2, d3, bb⟩
    obtain ⟨G1, G2, G3, o, hd⟩ := NtO.cut (⟨o1, o2, o3, d1, d2, d3⟩ : NtO w' w0.heap.size n N zs m Y _ _ _ F1 F2 F3)
    exact ⟨g1, g2, g3, rfl, ⟨G1, G2, G3, o, hd⟩, bb⟩
  have K2 : Hid (∀ W, Below w.heap.size w W → Calls Tryd.prog 15 #[v4] W fun e w' => ∃ g, e = .returned (.slice (some ⟨g, 0, none⟩) ne ne) ∧ Ow w' W.heap.size (ensD ne E) (.slice (some ⟨g, 0, none⟩) ne ne) (rng W.heap.size w'.heap.size) ∧ Below W.heap.size W w') := fun W hW => by rw [← HV4.out]; exact toEns_any x ne cx E W (h.re.below hW) hne
  have K3 : Hid (∀ W, Below w.heap.size w W → Calls Tryd.prog 16 #[v5] W fun e w' => ∃ g, e = .returned (.slice (some ⟨g, 0, none⟩) nm nm) ∧ Ow w' W.heap.size (masD nm M) (.slice (some ⟨g, 0, none⟩) nm nm) (rng W.heap.size w'.heap.size) ∧ Below W.heap.size W w') := fun W hW => by rw [← HV5.out]; exact toMas_any y nm cy M W (h.rm.below hW) hnm
  rw [HV1.out, HV2.out, HV3.out, HV4.out, HV5.out]
  clear h hb0 hN hY HV1 HV2 HV3 HV4 HV5
  obtain ⟨zl, HZL⟩ : ∃ z, Hid (zs.length = z) := ⟨_, rfl⟩
  rw [HZL.out] at K1
  rw [HZL.out]
  go_enter Tryd.func6, Tryd.ntmps6
  go_wp2_with fail
  rw [← HW0.out, ← HV.out, ← HD.out, ← HA.out]
  refine Calls.mono K1.out ?_
  rintro e' w1 ⟨g1, g2, g3, rfl, ⟨F1, F2, F3, O1, hF⟩, b1⟩
  obtain ⟨w2, HW2⟩ : ∃ z, Hid (z = ((((w1.setCell ⟨V, 0, none⟩ (.int .i64 f)).setCell ⟨V, 1, none⟩ (.slice (some ⟨g1, 0, none⟩) n n)).setCell ⟨V, 2, none⟩ (.slice (some ⟨g2, 0, none⟩) zl zl)).setCell ⟨V, 3, none⟩ (.slice (some ⟨g3, 0, none⟩) m m))) := ⟨_, rfl⟩
  have RA1 := RA.out.below b1 RA.out.lt
  have RV1 := RV.out.below b1 RV.out.lt
  have RD1 := RD.out.below b1 RD.out.lt
  have y0 := RV1.cell 0
  have y1 := RV1.cell 1
  have y2 := RV1.cell 2
  have y3 := RV1.cell 3
  have f0 := RV1.free 0
  have f1 := RV1.free 1
  have f2 := RV1.free 2
  have f3 := RV1.free 3
  have q4 := RA1.cell 4
  simp at y0 y1 y2 y3 q4
  have nVA : ¬ V = A := HL.out.2.1
  have nAV : ¬ A = V := fun e => HL.out.2.1 e.symm
  have S2 : w2.heap.size = w1.heap.size := by rw [HW2.out]; simp
  have s01 : w0.heap.size ≤ w1.heap.size := b1.size
  have T2 : Trn w1 w2 (fun x => x = V) := by rw [HW2.out]; exact (((Trn.set (F := fun x => x = V) _ 0 _ rfl).trans (Trn.set (F := fun x => x = V) _ 1 _ rfl)).trans (Trn.set (F := fun x => x = V) _ 2 _ rfl)).trans (Trn.set (F := fun x => x = V) _ 3 _ rfl)
  have J2 : Hid (Row w2 A 30 #[.int .i64 f, v1, v2, v3, v4, v5] ∧ Row w2 V 40 #[.int .i64 f, .slice (some ⟨g1, 0, none⟩) n n, .slice (some ⟨g2, 0, none⟩) zl zl, .slice (some ⟨g3, 0, none⟩) m m, .slice none 0 0, .slice none 0 0] ∧ Row w2 D 40 arZ' ∧ NtO w2 w.heap.size n N zs m Y (.slice (some ⟨g1, 0, none⟩) n n) (.slice (some ⟨g2, 0, none⟩) zl zl) (.slice (some ⟨g3, 0, none⟩) m m) F1 F2 F3 ∧ (∀ x, F1 x ∨ F2 x ∨ F3 x → w0.heap.size ≤ x ∧ x < w2.heap.size) ∧ Below w.heap.size w w2) := by
    have hV1 : V < w1.heap.size := RV1.lt
    refine ⟨(T2.block A RA1.lt (fun e => HL.out.2.1 e.symm)).trans RA1, ?_, (T2.block D RD1.lt (fun e => HL.out.1 e.symm)).trans RD1, (O1.turned T2 (fun x hx e => by have := (hF x hx).1; have := HL.out.2.2.2.2.1; omega)).base KB0.out.size, fun x hx => by rw [S2]; exact hF x hx, (below2 KB0.out b1).trans (T2.below (fun x e => by rw [e]; exact HL.out.2.2.2.1) (by have := KB0.out.size; omega))⟩
    rw [HW2.out]
    exact ((((RV1.set 0 _).set 1 _).set 2 _).set 3 _)
  have K2' : Hid _ := K2.out w2 J2.out.2.2.2.2.2
  have HS2 : Hid (w0.heap.size ≤ w2.heap.size) := by show _ ≤ _; rw [S2]; exact s01
  clear O1 b1 RA1 RV1 RD1 K1 K2 T2 S2 s01 hF
  go_wp2_with (fail)
  rw [← HW2.out]
  refine Calls.mono K2'.out ?_
  rintro e' w3 ⟨g4, rfl, O3, b3⟩
  obtain ⟨w4, HW4⟩ : ∃ z, Hid (z = w3.setCell ⟨V, 4, none⟩ (.slice (some ⟨g4, 0, none⟩) ne ne)) := ⟨_, rfl⟩
  have RA3 := J2.out.1.below b3 J2.out.1.lt
  have RV3 := J2.out.2.1.below b3 J2.out.2.1.lt
  have RD3 := J2.out.2.2.1.below b3 J2.out.2.2.1.lt
  have y4 := RV3.cell 4
  have f4 := RV3.free 4
  have q5 := RA3.cell 5
  simp at y4 q5
  have lV2 : V < w2.heap.size := J2.out.2.1.lt
  have T4 : Trn w3 w4 (fun x => x = V) := by rw [HW4.out]; exact Trn.set (F := fun x => x = V) _ 4 _ rfl
  have S4 : w4.heap.size = w3.heap.size := by rw [HW4.out]; simp
  have s23 := b3.size
  have J4 : Hid (Row w4 A 30 #[.int .i64 f, v1, v2, v3, v4, v5] ∧ Row w4 V 40 #[.int .i64 f, .slice (some ⟨g1, 0, none⟩) n n, .slice (some ⟨g2, 0, none⟩) zl zl, .slice (some ⟨g3, 0, none⟩) m m, .slice (some ⟨g4, 0, none⟩) ne ne, .slice none 0 0] ∧ Row w4 D 40 arZ' ∧ NtO w4 w.heap.size n N zs m Y (.slice (some ⟨g1, 0, none⟩) n n) (.slice (some ⟨g2, 0, none⟩) zl zl) (.slice (some ⟨g3, 0, none⟩) m m) F1 F2 F3 ∧ Ow w4 w.heap.size (ensD ne E) (.slice (some ⟨g4, 0, none⟩) ne ne) (rng w2.heap.size w4.heap.size) ∧ Below w.heap.size w w4) := by
    refine ⟨(T4.block A RA3.lt (fun e => HL.out.2.1 e.symm)).trans RA3, ?_, (T4.block D RD3.lt (fun e => HL.out.1 e.symm)).trans RD3, (J2.out.2.2.2.1.below b3).turned T4 (fun x hx e => by have := (J2.out.2.2.2.2.1 x hx).1; have := HL.out.2.2.2.2.1; omega), ?_, (below2 J2.out.2.2.2.2.2 b3).trans (T4.below (fun x e => by rw [e]; exact HL.out.2.2.2.1) (by have := J2.out.2.2.2.2.2.size; omega))⟩
    · rw [HW4.out]
      exact RV3.set 4 _
    · rw [S4]
      exact (O3.base J2.out.2.2.2.2.2.size).turned T4 (fun x hx e => by have := hx.1; omega)
  have HS4 : Hid (w2.heap.size ≤ w4.heap.size) := by show _ ≤ _; rw [S4]; exact s23
  have K3' : Hid _ := K3.out w4 J4.out.2.2.2.2.2
  clear O3 b3 RA3 RV3 RD3 K3 T4 S4 s23 y0 y1 y2 y3 f0 f1 f2 f3 q4
  go_wp2_with (fail)
  rw [← HW4.out]
  refine Calls.mono K3'.out ?_
  rintro e' w5 ⟨g5, rfl, O5, b5⟩
  obtain ⟨w6, HW6⟩ : ∃ z, Hid (z = w5.setCell ⟨V, 5, none⟩ (.slice (some ⟨g5, 0, none⟩) nm nm)) := ⟨_, rfl⟩
  have RV5 := J4.out.2.1.below b5 J4.out.2.1.lt
  have RD5 := J4.out.2.2.1.below b5 J4.out.2.2.1.lt
  have y5 := RV5.cell 5
  have f5 := RV5.free 5
  simp at y5
  have lV4 : V < w4.heap.size := J4.out.2.1.lt
  have lD4 : D < w4.heap.size := J4.out.2.2.1.lt
  have T6 : Trn w5 w6 (fun x => x = V) := by rw [HW6.out]; exact Trn.set (F := fun x => x = V) _ 5 _ rfl
  obtain ⟨cs, HCS⟩ : ∃ z : Array Value, Hid (z = #[.int .i64 f, .slice (some ⟨g1, 0, none⟩) n n, .slice (some ⟨g2, 0, none⟩) zl zl, .slice (some ⟨g3, 0, none⟩) m m, .slice (some ⟨g4, 0, none⟩) ne ne, .slice (some ⟨g5, 0, none⟩) nm nm]) := ⟨_, rfl⟩
  have R6 : Hid (Row w6 V 40 #[.int .i64 f, .slice (some ⟨g1, 0, none⟩) n n, .slice (some ⟨g2, 0, none⟩) zl zl, .slice (some ⟨g3, 0, none⟩) m m, .slice (some ⟨g4, 0, none⟩) ne ne, .slice (some ⟨g5, 0, none⟩) nm nm] ∧ Row w6 D 40 arZ') := ⟨by rw [HW6.out]; exact RV5.set 5 _, (T6.block D RD5.lt (fun e => HL.out.1 e.symm)).trans RD5⟩
  obtain ⟨w7, HW7⟩ : ∃ z, Hid (z = w6.setRow D #[.int .i64 f, .slice (some ⟨g1, 0, none⟩) n n, .slice (some ⟨g2, 0, none⟩) zl zl, .slice (some ⟨g3, 0, none⟩) m m, .slice (some ⟨g4, 0, none⟩) ne ne, .slice (some ⟨g5, 0, none⟩) nm nm]) := ⟨_, rfl⟩
  have ZR : Hid (Row w7 D 40 #[.int .i64 f, .slice (some ⟨g1, 0, none⟩) n n, .slice (some ⟨g2, 0, none⟩) zl zl, .slice (some ⟨g3, 0, none⟩) m m, .slice (some ⟨g4, 0, none⟩) ne ne, .slice (some ⟨g5, 0, none⟩) nm nm]) := by show Row _ _ _ _; rw [HW7.out]; exact R6.out.2.row
  have ZF : Hid ((∃ F1 F2 F3 F4 F5, ArO w7 w.heap.size n N zs m Y ne E nm M (.slice (some ⟨g1, 0, none⟩) n n) (.slice (some ⟨g2, 0, none⟩) zl zl) (.slice (some ⟨g3, 0, none⟩) m m) (.slice (some ⟨g4, 0, none⟩) ne ne) (.slice (some ⟨g5, 0, none⟩) nm nm) F1 F2 F3 F4 F5) ∧ Below w.heap.size w w7) := by
    rw [HW7.out]
    have hD := HL.out.2.2.2.2.2
    have hVl := HL.out.2.2.2.2.1
    have h2 := HS2.out
    have h4 := HS4.out
    have hF := J2.out.2.2.2.2.1
    have o4 := ((J4.out.2.2.2.1.below b5).turned T6 (fun x hx e => by have := (hF x hx).1; omega))
    have e4 := (J4.out.2.2.2.2.1.below b5).turned T6 (fun x hx e => by have := hx.1; omega)
    have m4 := (O5.base J4.out.2.2.2.2.2.size).turned T6 (fun x hx e => by have := hx.1; omega)
    have fr : ∀ {d : Dt} {v : Value} {H : Nat → Prop}, Ow w6 w.heap.size d v H → (∀ x, H x → x ≠ D) → Ow (w6.setRow D #[.int .i64 f, .slice (some ⟨g1, 0, none⟩) n n, .slice (some ⟨g2, 0, none⟩) zl zl, .slice (some ⟨g3, 0, none⟩) m m, .slice (some ⟨g4, 0, none⟩) ne ne, .slice (some ⟨g5, 0, none⟩) nm nm]) w.heap.size d v H := fun o hH => o.frame fun x hx _ => setRow_other _ _ _ _ (hH x hx)
    have hFD : ∀ x, F1 x ∨ F2 x ∨ F3 x → x ≠ D := fun x hx e => by have := (hF x hx).1; omega
    refine ⟨⟨F1, F2, F3, _, _, ⟨⟨fr o4.n (fun x hx => hFD x (.inl hx)), fr o4.z (fun x hx => hFD x (.inr (.inl hx))), fr o4.y (fun x hx => hFD x (.inr (.inr hx))), o4.d1, o4.d2, o4.d3⟩, fr e4 (fun x hx e => by have := hx.1; omega), fr m4 (fun x hx e => by have := hx.1; omega), fun x hx hy => ?_, fun x hx hy => ?_, fun x hx hy => ?_⟩⟩, belowSetRow ((below2 J4.out.2.2.2.2.2 b5).trans (T6.below (fun x e => by rw [e]; exact HL.out.2.2.2.1) (by have := J4.out.2.2.2.2.2.size; have := b5.size; omega))) HL.out.2.2.1 _⟩
    · have := (hF x hx).2; have := hy.1; omega
    · have := (hF x hx).2; have := hy.1; omega
    · have := hx.2; have := hy.1; omega
  clear O5 b5 RV5 RD5 T6 lV2 lV4 lD4 y4 f4 q5
  go_wp2_with (first | (rw [← HW6.out]; refine wpList_load_row (by rfl) 40 _ (by rfl) V (by rfl) 40 #[.int .i64 f, .slice (some ⟨g1, 0, none⟩) n n, .slice (some ⟨g2, 0, none⟩) zl zl, .slice (some ⟨g3, 0, none⟩) m m, .slice (some ⟨g4, 0, none⟩) ne ne, .slice (some ⟨g5, 0, none⟩) nm nm] (0, 0) _ ?_ Tryd.underlying40 (by rfl) Tryd.infoAr ?_; exact R6.out.1; clear y5 f5) | (refine wpList_store_row (by rfl) 40 _ _ (by rfl) D #[.int .i64 f, .slice (some ⟨g1, 0, none⟩) n n, .slice (some ⟨g2, 0, none⟩) zl zl, .slice (some ⟨g3, 0, none⟩) m m, .slice (some ⟨g4, 0, none⟩) ne ne, .slice (some ⟨g5, 0, none⟩) nm nm] (by rfl) (by rfl) 40 arZ' ?_ Tryd.infoAr rfl (by simp [Value.oneCell']) ?_; exact R6.out.2; rw [← HW7.out]))
  exact bodyPost_ret (v := arV f (.slice (some ⟨g1, 0, none⟩) n n) (.slice (some ⟨g2, 0, none⟩) zl zl) (.slice (some ⟨g3, 0, none⟩) m m) (.slice (some ⟨g4, 0, none⟩) ne ne) (.slice (some ⟨g5, 0, none⟩) nm nm)) (results_cell_row Tryd.results6 _ _ D 40 _ (0, 0) _ (by rfl) ZR.out Tryd.underlying40 (by rfl) Tryd.infoAr) rfl ⟨g1, g2, g3, g4, g5, rfl, ZF.out.1, ZF.out.2⟩
end Go.Proofs.YtkcnpkkihbpnmaaDoor
