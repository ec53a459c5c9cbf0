/- Slots, lists of slots and nodes, copied by the exact laws: the copies lie in new memory. Conditions: no list is longer than 2^20. Written by mknto.py. -/
import Derived.Test.YtgiegoamcfjfmaaGreatH18
import Derived.Test.YtgiegoamcfjfmaaGreatH9
import Derived.Test.YtgiegoamcfjfmaaGreatH8
import Derived.Test.YtgiegoamcfjfmaaGreatShelf
import Derived.Test.YtgiegoamcfjfmaaGreatH5
namespace Go.Proofs.YtgiegoamcfjfmaaGreat
set_option maxRecDepth 2000
open Go.ChangeShapes Go.WideShapes Go.ChangeAt Go.RowKit

/-- A row of numbers that is ours, as a datum. -/
theorem ow_ints {w : World} {B : Nat} {a : Option Addr} {cap : Nat} {zs : List Int} {F : Nat → Prop} (h : w.ownsRow B 3 1 (.slice a zs.length cap) zs.length (zs.map (Value.int .i64))) (hF : ∀ x, a = some x → F x.block) : Ow w B (inD zs) (.slice a zs.length cap) F := by
  refine ⟨a, cap, fun i _ => .int .i64 (zs.getD i 0), fun _ _ _ => False, rfl, ?_, ⟨hF, fun _ _ _ _ _ h => h.elim, fun _ _ _ _ _ _ h => h, fun _ _ _ _ _ _ _ _ _ h => h.elim⟩, fun _ _ _ _ => rfl⟩
  have : cL 1 (fun i _ => Value.int .i64 (zs.getD i 0)) zs.length = zs.map (Value.int .i64) := by
    apply List.ext_getElem?
    intro i
    by_cases hi : i < zs.length
    · have := cL_get 1 (fun i _ => Value.int .i64 (zs.getD i 0)) zs.length i 0 hi (by omega)
      rw [Nat.mul_one, Nat.add_zero] at this
      rw [this]
      simp [hi]
    · rw [List.getElem?_eq_none (by rw [cL_len]; omega), List.getElem?_eq_none (by simp; omega)]
  rw [this]
  exact h
theorem ints_ow {w : World} {B : Nat} {v : Value} {zs : List Int} {F : Nat → Prop} (h : Ow w B (inD zs) v F) : ∃ a cap, v = .slice a zs.length cap ∧ w.ownsRow B 3 1 (.slice a zs.length cap) zs.length (zs.map (Value.int .i64)) ∧ ∀ x, a = some x → F x.block := by
  obtain ⟨a, cap, c, G, e, ho, hs, hr⟩ := h
  refine ⟨a, cap, e, ?_, hs.head⟩
  have : cL 1 c zs.length = zs.map (Value.int .i64) := by
    apply List.ext_getElem?
    intro i
    by_cases hi : i < zs.length
    · have := cL_get 1 c zs.length i 0 hi (by omega)
      rw [Nat.mul_one, Nat.add_zero] at this
      rw [this]
      have h2 : c i 0 = .int .i64 (zs.getD i 0) := hr i 0 hi (by omega)
      rw [h2]
      simp [hi]
    · rw [List.getElem?_eq_none (by rw [cL_len]; omega), List.getElem?_eq_none (by simp; omega)]
  rw [← this]
  exact ho
theorem grown_row (w : World) (g : Nat) (cs : Array Value) : w.grownBy (w.setRow g cs) (some g) := ⟨rfl, rfl, rfl, by simp, fun i _ hi => setRow_other _ _ _ _ (fun e => hi (by simp [e]))⟩
theorem World.size_setCells (b : Nat) : ∀ (vs : List Value) (o : Nat) (w : World), (w.setCells b o vs).heap.size = w.heap.size
  | [], _, _ => rfl
  | v :: r, o, w => by rw [World.setCells, World.size_setCells b r (o + 1) _]; simp
set_option maxHeartbeats 4000000 in
theorem toSl_any (s : Sl) (a6 a11 a12 : Option Addr) (c6 c11 c12 : Nat) (w : World) (h6 : TxtAt w a6 s.p.m s.p.S) (h11 : IntsAt w a11 s.ze.length s.ze) (h12 : IntsAt w a12 s.zr.length s.zr) (hs : SlS s) :
    Calls Tryz.prog 131 #[slV s (.slice a6 s.p.m c6) (.slice a11 s.ze.length c11) (.slice a12 s.zr.length c12)] w fun e w' => ∃ g6 g11 g12 : Nat, e = .returned (slV s (.slice (some ⟨g6, 0, none⟩) s.p.m s.p.m) (.slice (some ⟨g11, 0, none⟩) s.ze.length s.ze.length) (.slice (some ⟨g12, 0, none⟩) s.zr.length s.zr.length)) ∧
      w.heap.size ≤ g6 ∧ g6 < g11 ∧ g11 < g12 ∧ g12 < w'.heap.size ∧ Ow w' w.heap.size (txD s.p.m s.p.S) (.slice (some ⟨g6, 0, none⟩) s.p.m s.p.m) (fun g => g = g6) ∧ Ow w' w.heap.size (inD s.ze) (.slice (some ⟨g11, 0, none⟩) s.ze.length s.ze.length) (fun g => g = g11) ∧ Ow w' w.heap.size (inD s.zr) (.slice (some ⟨g12, 0, none⟩) s.zr.length s.zr.length) (fun g => g = g12) ∧ Below w.heap.size w w' := by
  obtain ⟨r, p, fh, fe, fd, fo, ze, zr⟩ := s
  obtain ⟨pr, pk, pn, pi, pb, m, S⟩ := p
  obtain ⟨hm, he, hz⟩ := hs
  simp only at h6 h11 h12 hm he hz ⊢
  obtain ⟨A, HA⟩ : ∃ x, Hid (x = w.heap.size) := ⟨_, rfl⟩
  obtain ⟨D, HD⟩ : ∃ x, Hid (x = w.heap.size + 1) := ⟨_, rfl⟩
  obtain ⟨V, HV⟩ : ∃ x, Hid (x = w.heap.size + 1 + 1) := ⟨_, rfl⟩
  obtain ⟨w0, HW0⟩ : ∃ x, Hid (x = ((w.alloc (.cells (slC ⟨r, ⟨pr, pk, pn, pi, pb, m, S⟩, fh, fe, fd, fo, ze, zr⟩ (.slice a6 m c6) (.slice a11 ze.length c11) (.slice a12 zr.length c12)) 168)).alloc (.cells #[.string ⟨#[]⟩, .string ⟨#[]⟩, .int .i64 0, .int .i64 0, .int .i64 0, .string ⟨#[]⟩, .slice none 0 0, .bool false, .bool false, .bool false, .bool false, .slice none 0 0, .slice none 0 0] 62)).alloc (.cells #[.string r, .string ⟨#[]⟩, .int .i64 0, .int .i64 0, .int .i64 0, .string ⟨#[]⟩, .slice none 0 0, .bool false, .bool false, .bool false, .bool false, .slice none 0 0, .slice none 0 0] 62)) := ⟨_, rfl⟩
  have RA : Hid (Row w0 A 168 (slC ⟨r, ⟨pr, pk, pn, pi, pb, m, S⟩, fh, fe, fd, fo, ze, zr⟩ (.slice a6 m c6) (.slice a11 ze.length c11) (.slice a12 zr.length c12))) := by show Row _ _ _ _; rw [HW0.out, HA.out]; exact Row.alloc (Row.alloc (Row.new w _ _) _) _
  have RD : Hid (Row w0 D 62 #[.string ⟨#[]⟩, .string ⟨#[]⟩, .int .i64 0, .int .i64 0, .int .i64 0, .string ⟨#[]⟩, .slice none 0 0, .bool false, .bool false, .bool false, .bool false, .slice none 0 0, .slice none 0 0]) := by
    show Row _ _ _ _
    rw [HW0.out, HD.out]
    have := Row.new (w.alloc (.cells (slC ⟨r, ⟨pr, pk, pn, pi, pb, m, S⟩, fh, fe, fd, fo, ze, zr⟩ (.slice a6 m c6) (.slice a11 ze.length c11) (.slice a12 zr.length c12)) 168)) #[.string ⟨#[]⟩, .string ⟨#[]⟩, .int .i64 0, .int .i64 0, .int .i64 0, .string ⟨#[]⟩, .slice none 0 0, .bool false, .bool false, .bool false, .bool false, .slice none 0 0, .slice none 0 0] 62
    exact Row.alloc (by simpa using this) _
  have RV : Hid (Row w0 V 62 #[.string r, .string ⟨#[]⟩, .int .i64 0, .int .i64 0, .int .i64 0, .string ⟨#[]⟩, .slice none 0 0, .bool false, .bool false, .bool false, .bool false, .slice none 0 0, .slice none 0 0]) := by
    show Row _ _ _ _
    rw [HW0.out, HV.out]
    have := Row.new ((w.alloc (.cells (slC ⟨r, ⟨pr, pk, pn, pi, pb, m, S⟩, fh, fe, fd, fo, ze, zr⟩ (.slice a6 m c6) (.slice a11 ze.length c11) (.slice a12 zr.length c12)) 168)).alloc (.cells #[.string ⟨#[]⟩, .string ⟨#[]⟩, .int .i64 0, .int .i64 0, .int .i64 0, .string ⟨#[]⟩, .slice none 0 0, .bool false, .bool false, .bool false, .bool false, .slice none 0 0, .slice none 0 0] 62)) #[.string r, .string ⟨#[]⟩, .int .i64 0, .int .i64 0, .int .i64 0, .string ⟨#[]⟩, .slice none 0 0, .bool false, .bool false, .bool false, .bool false, .slice none 0 0, .slice none 0 0] 62
    simpa using this
  have hb0 : Below w.heap.size w w0 := by rw [HW0.out]; exact (((Below.refl _ _).alloc (Nat.le_refl _) _).alloc (by simp) _).alloc (by simp; omega) _
  have hVD : Hid (V ≠ D ∧ A ≠ V ∧ A ≠ D ∧ w.heap.size ≤ D ∧ w.heap.size ≤ V ∧ V < w0.heap.size ∧ D < w0.heap.size) := by
    have h1 := HV.out; have h2 := HD.out; have h3 := HA.out
    exact ⟨by omega, by omega, by omega, by omega, by omega, RV.out.lt, RD.out.lt⟩
  have KB0 : Hid (Below w.heap.size w w0) := hb0
  have KP : Hid _ := toPc_any pr pk pn pi pb a6 m c6 S w0 (h6.below hb0) hm
  have KEW : Hid (∀ W, Below w.heap.size w W → Calls Tryz.prog 109 #[.slice a11 ze.length c11] W fun e w' => e = .returned (.slice (some ⟨W.heap.size, 0, none⟩) ze.length ze.length) ∧ w'.ownsRow W.heap.size 3 1 (.slice (some ⟨W.heap.size, 0, none⟩) ze.length ze.length) ze.length (ze.map (Value.int .i64)) ∧ Below W.heap.size W w') := fun W hW => toIntS_any a11 _ c11 ze W (h11.below hW) he
  have KZW : Hid (∀ W, Below w.heap.size w W → Calls Tryz.prog 109 #[.slice a12 zr.length c12] W fun e w' => e = .returned (.slice (some ⟨W.heap.size, 0, none⟩) zr.length zr.length) ∧ w'.ownsRow W.heap.size 3 1 (.slice (some ⟨W.heap.size, 0, none⟩) zr.length zr.length) zr.length (zr.map (Value.int .i64)) ∧ Below W.heap.size W w') := fun W hW => toIntS_any a12 _ c12 zr W (h12.below hW) hz
  obtain ⟨le, HLE⟩ : ∃ x, Hid (ze.length = x) := ⟨_, rfl⟩
  obtain ⟨lr, HLR⟩ : ∃ x, Hid (zr.length = x) := ⟨_, rfl⟩
  have OI : Hid (∀ (B : Nat) (W : World) (g : Nat), W.ownsRow B 3 1 (.slice (some ⟨g, 0, none⟩) le le) le (ze.map (Value.int .i64)) → Ow W B (inD ze) (.slice (some ⟨g, 0, none⟩) le le) (fun x => x = g)) := fun B W g ho => by
    rw [← HLE.out] at ho ⊢
    exact ow_ints ho (fun x e => by cases e; rfl)
  have OZ : Hid (∀ (B : Nat) (W : World) (g : Nat), W.ownsRow B 3 1 (.slice (some ⟨g, 0, none⟩) lr lr) lr (zr.map (Value.int .i64)) → Ow W B (inD zr) (.slice (some ⟨g, 0, none⟩) lr lr) (fun x => x = g)) := fun B W g ho => by
    rw [← HLR.out] at ho ⊢
    exact ow_ints ho (fun x e => by cases e; rfl)
  rw [HLE.out] at KEW RA HW0 ⊢
  rw [HLR.out] at KZW RA HW0 ⊢
  clear h6 h11 h12 hm he hz hb0
  go_enter Tryz.func131, Tryz.ntmps131
  go_wp2_with fail
  rw [← HW0.out, ← HV.out, ← HD.out, ← HA.out]
  refine Calls.mono KP.out ?_
  rintro e w1 ⟨g6, rfl, O6, b1⟩
  have S6 : Hid (w0.heap.size ≤ g6 ∧ g6 < w1.heap.size) := World.ownsRow.lt O6 g6 rfl
  have A1 := RA.out.below b1 RA.out.lt
  have D1 : Hid (Row w1 D 62 #[.string ⟨#[]⟩, .string ⟨#[]⟩, .int .i64 0, .int .i64 0, .int .i64 0, .string ⟨#[]⟩, .slice none 0 0, .bool false, .bool false, .bool false, .bool false, .slice none 0 0, .slice none 0 0]) := RD.out.below b1 RD.out.lt
  have V1 := RV.out.below b1 RV.out.lt
  have x7 := A1.cell 7
  have x8 := A1.cell 8
  have x9 := A1.cell 9
  have x10 := A1.cell 10
  have x11 := A1.cell 11
  have y1 := V1.cell 1
  have y2 := V1.cell 2
  have y3 := V1.cell 3
  have y4 := V1.cell 4
  have y5 := V1.cell 5
  have y6 := V1.cell 6
  have y7 := V1.cell 7
  have y8 := V1.cell 8
  have y9 := V1.cell 9
  have y10 := V1.cell 10
  have f1 := V1.free 1
  have f2 := V1.free 2
  have f3 := V1.free 3
  have f4 := V1.free 4
  have f5 := V1.free 5
  have f6 := V1.free 6
  have f7 := V1.free 7
  have f8 := V1.free 8
  have f9 := V1.free 9
  have f10 := V1.free 10
  simp at x7 x8 x9 x10 x11 y1 y2 y3 y4 y5 y6 y7 y8 y9 y10
  have TH : Hid (w1.there V 1 6) := fun j hj => by
    match j, hj with
    | 0, _ => exact ⟨by rw [y1]; rfl, f1⟩
    | 1, _ => exact ⟨by rw [y2]; rfl, f2⟩
    | 2, _ => exact ⟨by rw [y3]; rfl, f3⟩
    | 3, _ => exact ⟨by rw [y4]; rfl, f4⟩
    | 4, _ => exact ⟨by rw [y5]; rfl, f5⟩
    | 5, _ => exact ⟨by rw [y6]; rfl, f6⟩
  clear x7 x8 x9 x10 x11 y1 y2 y3 y4 y5 y6 y7 y8 y9 y10 f1 f2 f3 f4 f5 f6 f7 f8 f9 f10
  obtain ⟨wa, HWa⟩ : ∃ x, Hid (x = w1.setCells V 1 (pcC pr pk pn pi pb (.slice (some ⟨g6, 0, none⟩) m m)).toList) := ⟨_, rfl⟩
  have Va : Hid (Row wa V 62 #[.string r, .string pr, .int .i64 pk, .int .i64 pn, .int .i64 pi, .string pb, .slice (some ⟨g6, 0, none⟩) m m, .bool false, .bool false, .bool false, .bool false, .slice none 0 0, .slice none 0 0]) := by show Row _ _ _ _; rw [HWa.out]; exact ((((((V1.set 1 _).set 2 _).set 3 _).set 4 _).set 5 _).set 6 _)
  have Aa : Hid (Row wa A 168 (slC ⟨r, ⟨pr, pk, pn, pi, pb, m, S⟩, fh, fe, fd, fo, ze, zr⟩ (.slice a6 m c6) (.slice a11 le c11) (.slice a12 lr c12))) := by show Row _ _ _ _; rw [HWa.out]; exact ((((((A1.other 1 _ hVD.out.2.1).other 2 _ hVD.out.2.1).other 3 _ hVD.out.2.1).other 4 _ hVD.out.2.1).other 5 _ hVD.out.2.1).other 6 _ hVD.out.2.1)
  have Da : Hid (Row wa D 62 #[.string ⟨#[]⟩, .string ⟨#[]⟩, .int .i64 0, .int .i64 0, .int .i64 0, .string ⟨#[]⟩, .slice none 0 0, .bool false, .bool false, .bool false, .bool false, .slice none 0 0, .slice none 0 0]) := by show Row _ _ _ _; rw [HWa.out]; exact ((((((D1.out.other 1 _ (Ne.symm hVD.out.1)).other 2 _ (Ne.symm hVD.out.1)).other 3 _ (Ne.symm hVD.out.1)).other 4 _ (Ne.symm hVD.out.1)).other 5 _ (Ne.symm hVD.out.1)).other 6 _ (Ne.symm hVD.out.1))
  have O6a : Hid (OwnT wa w0.heap.size (some ⟨g6, 0, none⟩) m m S) := by show OwnT _ _ _ _ _ _; rw [HWa.out]; exact (OwnT.setFar (OwnT.setFar (OwnT.setFar (OwnT.setFar (OwnT.setFar (OwnT.setFar O6 hVD.out.2.2.2.2.2.1) hVD.out.2.2.2.2.2.1) hVD.out.2.2.2.2.2.1) hVD.out.2.2.2.2.2.1) hVD.out.2.2.2.2.2.1) hVD.out.2.2.2.2.2.1)
  have Ba : Hid (Below w.heap.size w wa) := by show Below _ _ _; rw [HWa.out]; exact (Below.setCell (Below.setCell (Below.setCell (Below.setCell (Below.setCell (Below.setCell (below2 KB0.out b1) hVD.out.2.2.2.2.1 _) hVD.out.2.2.2.2.1 _) hVD.out.2.2.2.2.1 _) hVD.out.2.2.2.2.1 _) hVD.out.2.2.2.2.1 _) hVD.out.2.2.2.2.1 _)
  have sza : Hid (w1.heap.size = wa.heap.size) := by show _ = _; rw [HWa.out]; exact (World.size_setCells _ _ _ _).symm
  have x7 := Aa.out.cell 7
  have x8 := Aa.out.cell 8
  have x9 := Aa.out.cell 9
  have x10 := Aa.out.cell 10
  have x11 := Aa.out.cell 11
  have y7 := Va.out.cell 7
  have y8 := Va.out.cell 8
  have y9 := Va.out.cell 9
  have y10 := Va.out.cell 10
  have f7 := Va.out.free 7
  have f8 := Va.out.free 8
  have f9 := Va.out.free 9
  have f10 := Va.out.free 10
  simp at x7 x8 x9 x10 x11 y7 y8 y9 y10
  obtain ⟨w2, HW2⟩ : ∃ x, Hid (x = ((((wa.setCell ⟨V, 7, none⟩ (.bool fh)).setCell ⟨V, 8, none⟩ (.bool fe)).setCell ⟨V, 9, none⟩ (.bool fd)).setCell ⟨V, 10, none⟩ (.bool fo))) := ⟨_, rfl⟩
  have V2 : Hid (Row w2 V 62 #[.string r, .string pr, .int .i64 pk, .int .i64 pn, .int .i64 pi, .string pb, .slice (some ⟨g6, 0, none⟩) m m, .bool fh, .bool fe, .bool fd, .bool fo, .slice none 0 0, .slice none 0 0]) := by show Row _ _ _ _; rw [HW2.out]; exact ((((Va.out.set 7 _).set 8 _).set 9 _).set 10 _)
  have A2 : Hid (Row w2 A 168 (slC ⟨r, ⟨pr, pk, pn, pi, pb, m, S⟩, fh, fe, fd, fo, ze, zr⟩ (.slice a6 m c6) (.slice a11 le c11) (.slice a12 lr c12))) := by show Row _ _ _ _; rw [HW2.out]; exact ((((Aa.out.other 7 _ hVD.out.2.1).other 8 _ hVD.out.2.1).other 9 _ hVD.out.2.1).other 10 _ hVD.out.2.1)
  have D2 : Hid (Row w2 D 62 #[.string ⟨#[]⟩, .string ⟨#[]⟩, .int .i64 0, .int .i64 0, .int .i64 0, .string ⟨#[]⟩, .slice none 0 0, .bool false, .bool false, .bool false, .bool false, .slice none 0 0, .slice none 0 0]) := by show Row _ _ _ _; rw [HW2.out]; exact ((((Da.out.other 7 _ (Ne.symm hVD.out.1)).other 8 _ (Ne.symm hVD.out.1)).other 9 _ (Ne.symm hVD.out.1)).other 10 _ (Ne.symm hVD.out.1))
  have O62 : Hid (OwnT w2 w0.heap.size (some ⟨g6, 0, none⟩) m m S) := by show OwnT _ _ _ _ _ _; rw [HW2.out]; exact (OwnT.setFar (OwnT.setFar (OwnT.setFar (OwnT.setFar O6a.out hVD.out.2.2.2.2.2.1) hVD.out.2.2.2.2.2.1) hVD.out.2.2.2.2.2.1) hVD.out.2.2.2.2.2.1)
  have BW2 : Hid (Below w.heap.size w w2) := by show Below _ _ _; rw [HW2.out]; exact (Below.setCell (Below.setCell (Below.setCell (Below.setCell Ba.out hVD.out.2.2.2.2.1 _) hVD.out.2.2.2.2.1 _) hVD.out.2.2.2.2.1 _) hVD.out.2.2.2.2.1 _)
  have KE2 : Hid (Calls Tryz.prog 109 #[.slice a11 le c11] w2 fun e w' => e = .returned (.slice (some ⟨w2.heap.size, 0, none⟩) le le) ∧ w'.ownsRow w2.heap.size 3 1 (.slice (some ⟨w2.heap.size, 0, none⟩) le le) le (ze.map (Value.int .i64)) ∧ Below w2.heap.size w2 w') := KEW.out w2 BW2.out
  have sz2 : Hid (w1.heap.size = w2.heap.size) := by show _ = _; rw [sza.out, HW2.out]; simp
  clear A1 V1 b1 O6 D1
  go_wp2_with (refine wpList_store_mid (by rfl) 39 _ _ (by rfl) V 1 (pcC pr pk pn pi pb (.slice (some ⟨g6, 0, none⟩) m m)) (by rfl) (by rfl) ?_ Tryz.infoPc (by simp [Value.oneCell']) ?_; exact TH.out; rw [← HWa.out])
  rw [← HW2.out]
  clear x7 x8 x9 x10 x11 y7 y8 y9 y10 f7 f8 f9 f10
  refine Calls.mono KE2.out ?_
  obtain ⟨g11, HG11⟩ : ∃ x, Hid (x = w2.heap.size) := ⟨_, rfl⟩
  rw [← HG11.out]
  rintro e w3 ⟨rfl, O11, b3⟩
  rw [HG11.out] at b3
  have A3 := A2.out.below b3 A2.out.lt
  have D3 : Hid (Row w3 D 62 #[.string ⟨#[]⟩, .string ⟨#[]⟩, .int .i64 0, .int .i64 0, .int .i64 0, .string ⟨#[]⟩, .slice none 0 0, .bool false, .bool false, .bool false, .bool false, .slice none 0 0, .slice none 0 0]) := D2.out.below b3 D2.out.lt
  have V3 := V2.out.below b3 V2.out.lt
  have x12 := A3.cell 12
  have y11 := V3.cell 11
  have f11 := V3.free 11
  simp at x12 y11
  obtain ⟨w4, HW4⟩ : ∃ x, Hid (x = w3.setCell ⟨V, 11, none⟩ (.slice (some ⟨g11, 0, none⟩) le le)) := ⟨_, rfl⟩
  have V4 : Hid (Row w4 V 62 #[.string r, .string pr, .int .i64 pk, .int .i64 pn, .int .i64 pi, .string pb, .slice (some ⟨g6, 0, none⟩) m m, .bool fh, .bool fe, .bool fd, .bool fo, .slice (some ⟨g11, 0, none⟩) le le, .slice none 0 0]) := by show Row _ _ _ _; rw [HW4.out]; exact V3.set 11 _
  have D4 : Hid (Row w4 D 62 #[.string ⟨#[]⟩, .string ⟨#[]⟩, .int .i64 0, .int .i64 0, .int .i64 0, .string ⟨#[]⟩, .slice none 0 0, .bool false, .bool false, .bool false, .bool false, .slice none 0 0, .slice none 0 0]) := by show Row _ _ _ _; rw [HW4.out]; exact D3.out.other 11 _ (Ne.symm hVD.out.1)
  have hV2 : V < w2.heap.size := V2.out.lt
  have O64 : Hid (OwnT w4 w0.heap.size (some ⟨g6, 0, none⟩) m m S) := by show OwnT _ _ _ _ _ _; rw [HW4.out]; exact OwnT.setFar (OwnT.below O62.out b3) hVD.out.2.2.2.2.2.1
  have O114 : Hid (w4.ownsRow w2.heap.size 3 1 (.slice (some ⟨g11, 0, none⟩) le le) le (ze.map (Value.int .i64))) := by
    show World.ownsRow _ _ _ _ _ _ _
    rw [HW4.out]
    rw [HG11.out] at O11 ⊢
    exact own_kept O11 (grown_set _ _ _ _) (fun x e => by cases e; show w2.heap.size ≠ V; omega)
  have B4 : Hid (Below w.heap.size w w4) := by show Below _ _ _; rw [HW4.out]; exact Below.setCell (below2 BW2.out b3) hVD.out.2.2.2.2.1 _
  have sz4 : Hid (w2.heap.size < w4.heap.size) := by
    show _ < _
    have := (World.ownsRow.lt O114.out g11 rfl)
    have e := HG11.out
    omega
  have KZ4 : Hid (Calls Tryz.prog 109 #[.slice a12 lr c12] w4 fun e w' => e = .returned (.slice (some ⟨w4.heap.size, 0, none⟩) lr lr) ∧ w'.ownsRow w4.heap.size 3 1 (.slice (some ⟨w4.heap.size, 0, none⟩) lr lr) lr (zr.map (Value.int .i64)) ∧ Below w4.heap.size w4 w') := KZW.out w4 B4.out
  clear A3 V3 b3 O11 D3 A2 V2 D2
  go_wp2_with fail
  rw [← HW4.out]
  clear x12 y11 f11
  refine Calls.mono KZ4.out ?_
  obtain ⟨g12, HG12⟩ : ∃ x, Hid (x = w4.heap.size) := ⟨_, rfl⟩
  rw [← HG12.out]
  rintro e w5 ⟨rfl, O12, b5⟩
  rw [HG12.out] at b5
  have D5 : Hid (Row w5 D 62 #[.string ⟨#[]⟩, .string ⟨#[]⟩, .int .i64 0, .int .i64 0, .int .i64 0, .string ⟨#[]⟩, .slice none 0 0, .bool false, .bool false, .bool false, .bool false, .slice none 0 0, .slice none 0 0]) := D4.out.below b5 D4.out.lt
  have V5 := V4.out.below b5 V4.out.lt
  have y12 := V5.cell 12
  have f12 := V5.free 12
  simp at y12
  obtain ⟨w6, HW6⟩ : ∃ x, Hid (x = w5.setCell ⟨V, 12, none⟩ (.slice (some ⟨g12, 0, none⟩) lr lr)) := ⟨_, rfl⟩
  have V6 : Hid (Row w6 V 62 #[.string r, .string pr, .int .i64 pk, .int .i64 pn, .int .i64 pi, .string pb, .slice (some ⟨g6, 0, none⟩) m m, .bool fh, .bool fe, .bool fd, .bool fo, .slice (some ⟨g11, 0, none⟩) le le, .slice (some ⟨g12, 0, none⟩) lr lr]) := by show Row _ _ _ _; rw [HW6.out]; exact V5.set 12 _
  have D6 : Hid (Row w6 D 62 #[.string ⟨#[]⟩, .string ⟨#[]⟩, .int .i64 0, .int .i64 0, .int .i64 0, .string ⟨#[]⟩, .slice none 0 0, .bool false, .bool false, .bool false, .bool false, .slice none 0 0, .slice none 0 0]) := by show Row _ _ _ _; rw [HW6.out]; exact D5.out.other 12 _ (Ne.symm hVD.out.1)
  have hV4 : V < w4.heap.size := V4.out.lt
  have O66 : Hid (OwnT w6 w0.heap.size (some ⟨g6, 0, none⟩) m m S) := by show OwnT _ _ _ _ _ _; rw [HW6.out]; exact OwnT.setFar (OwnT.below O64.out b5) hVD.out.2.2.2.2.2.1
  have O116 : Hid (w6.ownsRow w2.heap.size 3 1 (.slice (some ⟨g11, 0, none⟩) le le) le (ze.map (Value.int .i64))) := by
    show World.ownsRow _ _ _ _ _ _ _
    rw [HW6.out]
    exact own_kept (ownsRow_below O114.out b5) (grown_set _ _ _ _) (fun x e => by cases e; show g11 ≠ V; rw [HG11.out]; omega)
  have O126 : Hid (w6.ownsRow w4.heap.size 3 1 (.slice (some ⟨g12, 0, none⟩) lr lr) lr (zr.map (Value.int .i64))) := by
    show World.ownsRow _ _ _ _ _ _ _
    rw [HW6.out]
    rw [HG12.out] at O12 ⊢
    exact own_kept O12 (grown_set _ _ _ _) (fun x e => by cases e; show w4.heap.size ≠ V; omega)
  have B6 : Hid (Below w.heap.size w w6) := by show Below _ _ _; rw [HW6.out]; exact Below.setCell (below2 B4.out b5) hVD.out.2.2.2.2.1 _
  clear V5 b5 O12 D5 V4 D4
  obtain ⟨w7, HW7⟩ : ∃ x, Hid (x = w6.setRow D #[.string r, .string pr, .int .i64 pk, .int .i64 pn, .int .i64 pi, .string pb, .slice (some ⟨g6, 0, none⟩) m m, .bool fh, .bool fe, .bool fd, .bool fo, .slice (some ⟨g11, 0, none⟩) le le, .slice (some ⟨g12, 0, none⟩) lr lr]) := ⟨_, rfl⟩
  have ZR : Hid (Row w7 D 62 #[.string r, .string pr, .int .i64 pk, .int .i64 pn, .int .i64 pi, .string pb, .slice (some ⟨g6, 0, none⟩) m m, .bool fh, .bool fe, .bool fd, .bool fo, .slice (some ⟨g11, 0, none⟩) le le, .slice (some ⟨g12, 0, none⟩) lr lr]) := by show Row _ _ _ _; rw [HW7.out]; exact D6.out.row
  have ZB : Hid (Below w.heap.size w w7) := by show Below _ _ _; rw [HW7.out]; exact belowSetRow B6.out hVD.out.2.2.2.1 _
  have far6 : ∀ x, (some ⟨g6, 0, none⟩ : Option Addr) = some x → x.block ≠ D := fun x e => by cases e; have h1 := S6.out.1; have h2 := hVD.out.2.2.2.2.2.2; show g6 ≠ D; omega
  have hD2 : D < w2.heap.size := by have h1 := sz2.out; have h2 := S6.out; have h3 := hVD.out.2.2.2.2.2.2; omega
  have far11 : ∀ x, (some ⟨g11, 0, none⟩ : Option Addr) = some x → x.block ≠ D := fun x e => by cases e; show g11 ≠ D; rw [HG11.out]; omega
  have far12 : ∀ x, (some ⟨g12, 0, none⟩ : Option Addr) = some x → x.block ≠ D := fun x e => by cases e; show g12 ≠ D; rw [HG12.out]; have := sz4.out; omega
  have Z6 : Hid (OwnT w7 w0.heap.size (some ⟨g6, 0, none⟩) m m S) := by show OwnT _ _ _ _ _ _; rw [HW7.out]; exact own_kept O66.out (grown_row _ _ _) far6
  have Z11 : Hid (World.ownsRow w7 w2.heap.size 3 1 (.slice (some ⟨g11, 0, none⟩) le le) le (ze.map (Value.int .i64))) := by show World.ownsRow _ _ _ _ _ _ _; rw [HW7.out]; exact own_kept O116.out (grown_row _ _ _) far11
  have Z12 : Hid (World.ownsRow w7 w4.heap.size 3 1 (.slice (some ⟨g12, 0, none⟩) lr lr) lr (zr.map (Value.int .i64))) := by show World.ownsRow _ _ _ _ _ _ _; rw [HW7.out]; exact own_kept O126.out (grown_row _ _ _) far12
  have l12 := (World.ownsRow.lt Z12.out g12 rfl).2
  go_wp2_with (first | (rw [← HW6.out]; refine wpList_load_row (by rfl) 62 _ (by rfl) V (by rfl) 62 _ (0, 0) _ V6.out Tryz.underlying62 (by rfl) Tryz.infoSl ?_; clear y12 f12) | (refine wpList_store_row (by rfl) 62 _ _ (by rfl) D #[.string r, .string pr, .int .i64 pk, .int .i64 pn, .int .i64 pi, .string pb, .slice (some ⟨g6, 0, none⟩) m m, .bool fh, .bool fe, .bool fd, .bool fo, .slice (some ⟨g11, 0, none⟩) le le, .slice (some ⟨g12, 0, none⟩) lr lr] (by rfl) (by rfl) 62 #[.string ⟨#[]⟩, .string ⟨#[]⟩, .int .i64 0, .int .i64 0, .int .i64 0, .string ⟨#[]⟩, .slice none 0 0, .bool false, .bool false, .bool false, .bool false, .slice none 0 0, .slice none 0 0] ?_ Tryz.infoSl rfl (by simp [Value.oneCell']) ?_; exact D6.out; rw [← HW7.out]))
  refine bodyPost_ret (v := .agg #[.string r, .string pr, .int .i64 pk, .int .i64 pn, .int .i64 pi, .string pb, .slice (some ⟨g6, 0, none⟩) m m, .bool fh, .bool fe, .bool fd, .bool fo, .slice (some ⟨g11, 0, none⟩) le le, .slice (some ⟨g12, 0, none⟩) lr lr]) (results_cell_row Tryz.results131 _ _ D 62 _ (0, 0) _ (by rfl) ZR.out Tryz.underlying62 (by rfl) Tryz.infoSl) rfl ⟨g6, g11, g12, rfl, ?_, ?_, ?_, l12, ?_, ?_, ?_, ZB.out⟩
  · have h1 := S6.out.1; have h2 := KB0.out.size; omega
  · have h1 := S6.out.2; have h2 := sz2.out; have h3 := HG11.out; omega
  · have h1 := HG11.out; have h2 := HG12.out; have h3 := sz4.out; omega
  · exact ow_txt (OwnT.base Z6.out KB0.out.size) (fun x e => by cases e; rfl)
  · exact OI.out _ _ _ (own_base Z11.out BW2.out.size)
  · exact OZ.out _ _ _ (own_base Z12.out B4.out.size)
end Go.Proofs.YtgiegoamcfjfmaaGreat
/- Lists of numbers, copied: slices.Clone, and the model's way. Condition: at most 2^20 numbers. -/
namespace Go.Proofs.YtgiegoamcfjfmaaGreat
set_option maxRecDepth 2000
open Go.ChangeShapes Go.WideShapes Go.ChangeAt Go.RowKit

/-- The cells of a list that is read, as append asks for them. -/
theorem ints_news {w : World} {b off n : Nat} {zs : List Int} (h : IntsAt w (some ⟨b, off, none⟩) n zs) : ∀ (j : Nat) (u : Value), (zs.map (Value.int .i64))[j]? = some u → w.cell? ((⟨b, off, none⟩ : Addr).add j) = some u := fun j u hu => by
  have hj : j < zs.length := by
    have := (List.getElem?_eq_some_iff.1 hu).1
    simpa using this
  obtain ⟨b', off', e, hc⟩ := h.2 j (by rw [← h.1]; exact hj)
  cases e
  have ea : (⟨b, off, none⟩ : Addr).add j = ⟨b, off + j, none⟩ := by unfold Addr.add; split <;> simp_all
  rw [ea, hc, ← hu]
  simp [hj]
theorem ints_spot {w : World} {a : Addr} {n : Nat} {zs : List Int} (h : IntsAt w (some a) n zs) (hn : 0 < n) : a = ⟨a.block, a.off, none⟩ := by
  obtain ⟨b, off, e, _⟩ := h.2 0 hn
  cases e
  rfl
theorem slice_none (n c : Nat) (w : World) : Sem.run Tryz.prog (binOp BinOp.eql 60 (.slice none n c) (.slice none 0 0)) w = .ok (.bool true) w := by rfl
theorem slice_some (x : Addr) (n c : Nat) (w : World) : Sem.run Tryz.prog (binOp BinOp.eql 60 (.slice (some x) n c) (.slice none 0 0)) w = .ok (.bool false) w := by rfl
set_option maxHeartbeats 1000000 in
theorem cloneI_any (a : Option Addr) (cap : Nat) (zs : List Int) (w : World) (h : IntsAt w a zs.length zs) (hn : zs.length ≤ 1048576) :
    Calls Tryz.prog 126 #[.slice a zs.length cap] w fun e w' => ∃ a' c', e = .returned (.slice a' zs.length c') ∧ Ow w' w.heap.size (inD zs) (.slice a' zs.length c') (rng w.heap.size w'.heap.size) ∧ Below w.heap.size w w' := by
  obtain ⟨i0, hi, hz0, hz1, hz2⟩ : ∃ i0, Tryz.prog.info? 3 = some i0 ∧ i0.zero = some (.int .i64 0) ∧ i0.size = 1 ∧ i0.bytes = 8 := ⟨_, rfl, rfl, rfl, rfl⟩
  obtain ⟨n, HN⟩ : ∃ x, Hid (zs.length = x) := ⟨_, rfl⟩
  rw [HN.out] at h hn ⊢
  match a, h with
  | none, h =>
    have e0 : n = 0 := by
      by_cases h0 : n = 0
      · exact h0
      · obtain ⟨b, off, e, _⟩ := h.2 0 (by omega)
        cases e
    subst e0
    have ez : zs = [] := List.length_eq_zero_iff.1 HN.out
    subst ez
    have hsn := slice_none
    go_enter Tryz.func126, Tryz.ntmps126
    go_wp2
    go_ret
    exact ⟨none, 0, rfl, ow_ints (zs := []) (World.ownsRow_nil _ _ _ _) (fun x e => by cases e), Below.refl _ _⟩
  | some ad, h =>
    obtain ⟨b, off, sp⟩ := ad
    have HNW : Hid (∀ (j : Nat) (u : Value), (zs.map (Value.int .i64))[j]? = some u → w.cell? ((⟨b, off, sp⟩ : Addr).add j) = some u) := fun j u hu => by
      have hj : 0 < n := by
        have := (List.getElem?_eq_some_iff.1 hu).1
        have := HN.out
        simp at *
        omega
      have e := ints_spot h hj
      simp at e
      subst e
      exact ints_news h j u hu
    have HLL : Hid ((zs.map (Value.int .i64)).length = n * 1) := by show _ = _; simp [HN.out]
    have HO : Hid ((w.alloc (.cells #[] 3)).ownsRow w.heap.size 3 1 (.slice (some ⟨w.heap.size, 0, none⟩) 0 0) 0 []) := by
      have := World.ownsRow_lit (e := 3) (size := 1) (base := w.heap.size) w #[] 0 (by simp) (by unfold maxLen; omega) (by simp)
      exact this
    have HNA : Hid (∀ (j : Nat) (u : Value), (zs.map (Value.int .i64))[j]? = some u → (w.alloc (.cells #[] 3)).cell? ((⟨b, off, sp⟩ : Addr).add j) = some u) := fun j u hu => by
      have := HNW.out j u hu
      rw [((Below.refl w.heap.size w).alloc (Nat.le_refl _) _).cell (block_lt_of_cell this)]
      exact this
    have HB0 : Hid (Below w.heap.size w (w.alloc (.cells #[] 3))) := (Below.refl _ _).alloc (Nat.le_refl _) _
    clear h
    have hss := slice_some
    go_enter Tryz.func126, Tryz.ntmps126
    go_wp2_with (at_builtin; refine wpList_append_all _ (by rfl) _ _ 60 (by rfl) w.heap.size 3 i0 (.int .i64 0) 1 8 Tryz.underlying60 hi hz0 hz1 hz2 rfl (by decide) w.heap.size 0 0 [] (by rfl) ?_ ⟨b, off, sp⟩ n cap (zs.map (Value.int .i64)) (by rfl) ?_ ?_ (by simp [Value.oneCell']) (by unfold maxLen; omega) (by omega) (by simp) ?_; exact HO.out; exact HLL.out; exact HNA.out; intro g3 cap3 w3 hown3 hgrow3)
    have HB3 : Hid (Below w.heap.size w w3) := HB0.out.grown hgrow3 (by simp) (fun x hx => by cases hx; exact Nat.le_refl _)
    have HO3 : Hid (w3.ownsRow w.heap.size 3 1 (.slice (some ⟨g3, 0, none⟩) zs.length cap3) zs.length (zs.map (Value.int .i64))) := by
      show World.ownsRow _ _ _ _ _ _ _
      rw [HN.out]
      simpa using hown3
    have lg := World.ownsRow.lt HO3.out g3 rfl
    clear hown3 hgrow3
    go_wp2
    go_ret
    refine ⟨some ⟨g3, 0, none⟩, cap3, by simp, ?_, HB3.out⟩
    have := ow_ints HO3.out (F := rng w.heap.size w3.heap.size) (fun x e => by cases e; exact lg)
    rw [HN.out] at this
    exact this
end Go.Proofs.YtgiegoamcfjfmaaGreat
/- One number put into a list of ours, as the library's Insert does it. Conditions: lists of at most 2^20. No walk of ours. -/
namespace Go.Proofs.YtgiegoamcfjfmaaGreat
set_option maxRecDepth 2000
open Go.ChangeShapes Go.WideShapes Go.ChangeAt Go.RowKit

theorem set_cut {α : Type} (l : List α) (o : Nat) (v : α) (r : List α) (h : o < l.length) : (l.set o v).take (o + 1) ++ r ++ (l.set o v).drop (o + 1 + r.length) = l.take o ++ (v :: r) ++ l.drop (o + (v :: r).length) := by
  have e : l.set o v = l.take o ++ v :: l.drop (o + 1) := by rw [List.set_eq_take_append_cons_drop, if_pos h]
  have hl : (l.take o).length = o := by rw [List.length_take]; omega
  have h1 : (l.set o v).take (o + 1) = l.take o ++ [v] := by
    rw [e, List.take_append, hl, List.take_of_length_le (by omega)]
    simp
  have h2 : (l.set o v).drop (o + 1 + r.length) = l.drop (o + (r.length + 1)) := by
    rw [List.drop_set, if_pos (by omega)]
    congr 1
    omega
  rw [h1, h2]
  simp
theorem rowSets {g : Nat} {t : TypeId} : ∀ (vs : List Value) (o : Nat) (w : World) (cs : Array Value), Row w g t cs → o + vs.length ≤ cs.size → Row (w.setCells g o vs) g t (cs.toList.take o ++ vs ++ cs.toList.drop (o + vs.length)).toArray
  | [], o, w, cs, h, _ => by
    rw [World.setCells]
    simpa using h
  | v :: r, o, w, cs, h, hl => by
    rw [World.setCells]
    have hl' : o + (r.length + 1) ≤ cs.size := hl
    have h1 := rowSets r (o + 1) _ _ (h.set o v) (by rw [Array.size_setIfInBounds]; omega)
    rw [Array.toList_setIfInBounds, set_cut _ _ _ _ (by rw [Array.length_toList]; omega)] at h1
    exact h1
theorem own_of_row {w : World} {B g t n cap : Nat} {cs : Array Value} {xs : List Value} (h : Row w g t cs) (hB : B ≤ g) (hc : cs.size = cap) (hn : n ≤ cap) (hm : cap ≤ maxLen) (hx : cs.toList.take n = xs) : w.ownsRow B t 1 (.slice (some ⟨g, 0, none⟩) n cap) n xs :=
  ⟨by rw [← hx, List.length_take, Array.length_toList]; omega, .inr ⟨g, cap, cs, rfl, hB, h, hn, hm, by omega, by rw [Nat.mul_one]; exact hx⟩⟩
theorem Trn.sets {g : Nat} {F : Nat → Prop} (hF : F g) : ∀ (vs : List Value) (o : Nat) (w : World), Trn w (w.setCells g o vs) F
  | [], _, w => Trn.refl w F
  | v :: r, o, w => by
    rw [World.setCells]
    exact (Trn.set w o v hF).trans (Trn.sets hF r (o + 1) _)
theorem Trn.drew (w : World) (F : Nat → Prop) : Trn w w.drew F := ⟨rfl, rfl, rfl, Nat.le_refl _, fun _ _ _ => rfl⟩
theorem Trn.drewN (w : World) (k : Nat) (F : Nat → Prop) : Trn w (w.drewN k) F := ⟨rfl, rfl, rfl, Nat.le_refl _, fun _ _ _ => rfl⟩
theorem Trn.alloc (w : World) (o : Obj) (F : Nat → Prop) : Trn w (w.alloc o) F := Trn.ofBelow F ((Below.refl _ _).alloc (Nat.le_refl _) _)
theorem shift_list {α : Type} (L Z : List α) (x : α) (k N : Nat) (hZ : L.take N = Z) (hN : N + 1 ≤ L.length) (hk : k < N) : ((L.take (k + 1) ++ Z.drop k ++ L.drop (k + 1 + (Z.drop k).length)).take k ++ [x] ++ (L.take (k + 1) ++ Z.drop k ++ L.drop (k + 1 + (Z.drop k).length)).drop (k + 1)).take (N + 1) = Z.take k ++ x :: Z.drop k ∧ ((L.take (k + 1) ++ Z.drop k ++ L.drop (k + 1 + (Z.drop k).length)).take k ++ [x] ++ (L.take (k + 1) ++ Z.drop k ++ L.drop (k + 1 + (Z.drop k).length)).drop (k + 1)).length = L.length := by
  have hl : Z.length = N := by rw [← hZ, List.length_take]; omega
  have h0 : (Z.drop k).length = N - k := by rw [List.length_drop, hl]
  have hl1 : (L.take (k + 1)).length = k + 1 := by rw [List.length_take]; omega
  have h1 : (L.take (k + 1) ++ Z.drop k ++ L.drop (k + 1 + (Z.drop k).length)).take k = Z.take k := by
    rw [List.append_assoc, List.take_append_of_le_length (by omega), List.take_take, ← hZ, List.take_take]
    congr 1
    omega
  have h2 : (L.take (k + 1) ++ Z.drop k ++ L.drop (k + 1 + (Z.drop k).length)).drop (k + 1) = Z.drop k ++ L.drop (N + 1) := by
    rw [List.append_assoc, List.drop_left' hl1, h0]
    congr 2
    omega
  rw [h1, h2]
  constructor
  · have e : Z.take k ++ [x] ++ (Z.drop k ++ L.drop (N + 1)) = (Z.take k ++ x :: Z.drop k) ++ L.drop (N + 1) := by simp
    rw [e, List.take_left' (by simp [List.length_take, List.length_drop, hl]; omega)]
  · simp [List.length_take, List.length_drop, hl]
    omega
theorem grow_list {α : Type} (Z : List α) (x z : α) (k N c : Nat) (hl : Z.length = N) (hk : k < N) (A : List α) (hA : A = Z.take k ++ List.replicate (N + 1 - k) z ++ List.replicate (c - (N + 1)) z) (hc : N + 1 ≤ c) : ((A.take k ++ [x] ++ A.drop (k + 1)).take (k + 1) ++ Z.drop k ++ (A.take k ++ [x] ++ A.drop (k + 1)).drop (k + 1 + (Z.drop k).length)).take (N + 1) = Z.take k ++ x :: Z.drop k ∧ ((A.take k ++ [x] ++ A.drop (k + 1)).take (k + 1) ++ Z.drop k ++ (A.take k ++ [x] ++ A.drop (k + 1)).drop (k + 1 + (Z.drop k).length)).length = c ∧ A.length = c := by
  have h0 : (Z.drop k).length = N - k := by rw [List.length_drop, hl]
  have ht : (Z.take k).length = k := by rw [List.length_take]; omega
  have hAl : A.length = c := by rw [hA]; simp [ht]; omega
  have h1 : A.take k = Z.take k := by rw [hA, List.append_assoc, List.take_left' ht]
  have h2 : (A.take k ++ [x] ++ A.drop (k + 1)).take (k + 1) = Z.take k ++ [x] := by
    rw [h1, List.take_left' (by simp [ht])]
  have h3 : (A.take k ++ [x] ++ A.drop (k + 1)).drop (k + 1 + (Z.drop k).length) = A.drop (N + 1) := by
    rw [h1, ← List.drop_drop, List.drop_left' (by simp [ht]), List.drop_drop, h0]
    congr 1
    omega
  rw [h2, h3]
  refine ⟨?_, ?_, hAl⟩
  · have e : Z.take k ++ [x] ++ Z.drop k ++ A.drop (N + 1) = (Z.take k ++ x :: Z.drop k) ++ A.drop (N + 1) := by simp
    rw [e, List.take_left' (by simp [ht, h0]; omega)]
  · simp [ht, h0, hAl]
    omega
theorem ins_any (B : Nat) (a : Option Addr) (zs : List Int) (c : Nat) (x : Int) (k vb : Nat) (w : World) (h : w.ownsRow B 3 1 (.slice a zs.length c) zs.length (zs.map (Value.int .i64))) (hB : B ≤ w.heap.size) (hk : k ≤ zs.length) (hn : zs.length ≤ 1048576) (hv : Row w vb 3 #[.int .i64 x]) (hne : ∀ y, a = some y → vb ≠ y.block) :
    Calls Tryz.prog 202 #[.slice a zs.length c, .int .i64 (k : Int), .slice (some ⟨vb, 0, none⟩) 1 1] w fun e w' => ∃ g' c', e = .returned (.slice (some ⟨g', 0, none⟩) (zs.length + 1) c') ∧ w'.ownsRow B 3 1 (.slice (some ⟨g', 0, none⟩) (zs.length + 1) c') (zs.length + 1) ((zs.take k ++ x :: zs.drop k).map (Value.int .i64)) ∧ Trn w w' (fun y => a = some ⟨y, 0, none⟩) ∧ (a = some ⟨g', 0, none⟩ ∨ w.heap.size ≤ g') := by
  have hvs : ∀ j v, [Value.int .i64 x][j]? = some v → w.cell? ⟨vb, 0 + j, none⟩ = some v := by
    intro j v hj
    rw [Nat.zero_add, hv.cell j]
    simpa using hj
  have h1v : ∀ v ∈ [Value.int .i64 x], v.oneCell' = true := by simp [Value.oneCell']
  have h1c : ∀ v ∈ zs.map (Value.int .i64), v.oneCell' = true := by simp [Value.oneCell']
  have hml : maxLen = 9223372036854775807 ∨ maxLen ≤ 9223372036854775807 := by unfold maxLen; omega
  have zc : (Value.int .i64 0).cells = #[Value.int .i64 0] := rfl
  have zero : ∀ q, (Builtin.zeroCells (Value.int .i64 0).cells q).toList = List.replicate q (Value.int .i64 0) := fun q => by
    refine List.ext_getElem (by simp [Builtin.zeroCells, zc]) fun i h1 h2 => ?_
    simp [Builtin.zeroCells, zc, Nat.mod_one]
  rcases h.2 with ⟨e, h0⟩ | ⟨g, cap, cur, e, hBg, hr, hnc, hcm, hsz, htk⟩
  · have hz : zs = [] := List.length_eq_zero_iff.1 h0
    subst hz
    simp only [Value.slice.injEq] at e
    obtain ⟨rfl, _, rfl⟩ := e
    obtain rfl : k = 0 := by simp at hk; exact hk
    refine (Any2.slices_Insert_int_end_grow Tryz.laysNm221 none 0 0 vb 0 1 1 [] [.int .i64 x] w (by omega) (by omega) (by omega) (by omega) rfl rfl (fun _ => rfl) (fun _ e => by cases e) hvs h1v).mono ?_
    rintro e w' ⟨rfl, rfl⟩
    have hge := grownCap_ge w (0 + 1) 0 3
    refine ⟨w.heap.size, _, rfl, own_of_row (Row.new w.drew _ _) hB ?_ hge (grownCap_le_maxLen w (0 + 1) 0 3 (by unfold maxLen; omega)) ?_, (Trn.drew w _).trans (Trn.alloc _ _ _), .inr (Nat.le_refl _)⟩
    · have hz := zero (grownCap w (0 + 1) 0 3 - (0 + 1))
      have hs : (Builtin.zeroCells (Value.int .i64 0).cells (grownCap w (0 + 1) 0 3 - (0 + 1))).size = grownCap w (0 + 1) 0 3 - (0 + 1) := by rw [← Array.length_toList, hz, List.length_replicate]
      rw [Array.size_append]
      show 1 + (Builtin.zeroCells (Value.int .i64 0).cells (grownCap w (0 + 1) 0 3 - (0 + 1))).size = grownCap w (0 + 1) 0 3
      rw [hs]
      omega
    · rw [Array.toList_append]
      rfl
  · simp only [Value.slice.injEq] at e
    obtain ⟨rfl, _, rfl⟩ := e
    have hcur : cur.size = c := by omega
    rw [Nat.mul_one] at htk
    have hL : cur.toList.length = c := by rw [Array.length_toList]; exact hcur
    have hcs : ∀ j v, (zs.map (Value.int .i64))[j]? = some v → w.cell? ⟨g, 0 + j, none⟩ = some v := by
      intro j v hj
      have hj' : j < zs.length := by have := (List.getElem?_eq_some_iff.1 hj).1; simpa using this
      rw [Nat.zero_add, World.ownsRow.cellAt h j (by omega)]
      exact hj
    have some_at : ∀ j, j < c → (w.cell? ⟨g, j, none⟩).isSome = true := fun j hj => by
      rw [show w.cell? ⟨g, j, none⟩ = cur[j]? from Row.cell (g := g) (t := 3) (cs := cur) hr j]
      simp [hcur, hj]
    have hfz : ∀ j, w.frozen? ⟨g, j, none⟩ = false := fun j => Row.free (g := g) (t := 3) (cs := cur) hr j
    by_cases hke : k = zs.length
    · subst hke
      have ez : zs.take zs.length ++ x :: zs.drop zs.length = zs ++ [x] := by simp
      rw [ez]
      by_cases hroom : zs.length + 1 ≤ c
      · refine (Any2.slices_Insert_int_end_room Tryz.laysNm221 g 0 zs.length c vb 0 1 1 [.int .i64 x] w (by omega) hroom (by omega) rfl (fun j hj => by rw [Nat.zero_add]; exact some_at _ (by omega)) (fun j _ => hfz _) hvs h1v).mono ?_
        rintro e w' ⟨rfl, rfl⟩
        have hR := rowSets [Value.int .i64 x] (0 + zs.length) w cur hr (by simp; omega)
        refine ⟨g, c, rfl, own_of_row hR hBg ?_ hroom hcm ?_, Trn.sets (F := fun y => (some ⟨g, 0, none⟩ : Option Addr) = some ⟨y, 0, none⟩) rfl _ _ _, .inl rfl⟩
        · simp [hL]; omega
        · have e1 : cur.toList.take (0 + zs.length) = zs.map (Value.int .i64) := by rw [Nat.zero_add]; exact htk
          show List.take (zs.length + 1) (cur.toList.take (0 + zs.length) ++ [Value.int .i64 x] ++ cur.toList.drop (0 + zs.length + 1)) = _
          rw [e1, List.take_left' (by simp)]
          simp
      · have hcc : c = zs.length := by omega
        refine (Any2.slices_Insert_int_end_grow Tryz.laysNm221 (some ⟨g, 0, none⟩) zs.length c vb 0 1 1 (zs.map (Value.int .i64)) [.int .i64 x] w (by omega) (by omega) (by omega) (by omega) (by simp) rfl (fun e => by cases e) (fun b e j v hj => by cases e; rw [Addr.add_lit]; exact hcs j v hj) hvs h1v).mono ?_
        rintro e w' ⟨rfl, rfl⟩
        have hge := grownCap_ge w (zs.length + 1) c 3
        refine ⟨w.heap.size, _, rfl, own_of_row (Row.new w.drew _ _) hB ?_ hge (grownCap_le_maxLen w (zs.length + 1) c 3 (by unfold maxLen; omega)) ?_, (Trn.drew w _).trans (Trn.alloc _ _ _), .inr (Nat.le_refl _)⟩
        · have hz := zero (grownCap w (zs.length + 1) c 3 - (zs.length + 1))
          have hs : (Builtin.zeroCells (Value.int .i64 0).cells (grownCap w (zs.length + 1) c 3 - (zs.length + 1))).size = grownCap w (zs.length + 1) c 3 - (zs.length + 1) := by rw [← Array.length_toList, hz, List.length_replicate]
          rw [Array.size_append]
          have h2 : (zs.map (Value.int .i64) ++ [Value.int .i64 x]).toArray.size = zs.length + 1 := by simp
          rw [h2]
          show zs.length + 1 + (Builtin.zeroCells (Value.int .i64 0).cells (grownCap w (zs.length + 1) c 3 - (zs.length + 1))).size = grownCap w (zs.length + 1) c 3
          rw [hs]
          omega
        · rw [Array.toList_append, List.map_append]
          exact List.take_left' (by simp)
    · have hkl : k < zs.length := by omega
      have em : (zs.take k ++ x :: zs.drop k).map (Value.int .i64) = (zs.map (Value.int .i64)).take k ++ Value.int .i64 x :: (zs.map (Value.int .i64)).drop k := by simp [List.map_take, List.map_drop]
      rw [em]
      by_cases hroom : zs.length + 1 ≤ c
      · refine (Any2.slices_Insert_int_shift Tryz.laysNm221 g 0 zs.length c k vb 0 1 1 (zs.map (Value.int .i64)) [.int .i64 x] w hkl (by omega) hroom (by omega) (hne _ rfl) (by simp) rfl hcs (fun j hj => by rw [Nat.zero_add]; exact some_at _ (by omega)) (fun j _ => hfz _) hvs h1c h1v 3 3 1 c (by simp [World.shape?, show w.heap[vb]? = some (.cells #[.int .i64 x] 3 (0, 0)) from hv]) (by simp [World.shape?, hr, hcur]) (by omega) (hv.free 0) (hv.free 1)).mono ?_
        rintro e w' ⟨rfl, rfl⟩
        rw [Nat.zero_add, Nat.zero_add]
        obtain ⟨q1, q2⟩ := shift_list cur.toList (zs.map (Value.int .i64)) (Value.int .i64 x) k zs.length htk (by omega) hkl
        have hdl : ((zs.map (Value.int .i64)).drop k).length = zs.length - k := by simp
        have hR1 := rowSets ((zs.map (Value.int .i64)).drop k) (k + 1) w.drew cur hr (by rw [hdl]; omega)
        have hR2 := rowSets [Value.int .i64 x] k _ _ hR1 (by rw [← Array.length_toList]; simp [List.length_take, List.length_drop, hL]; omega)
        refine ⟨g, c, rfl, own_of_row hR2 hBg ?_ hroom hcm ?_, ((Trn.drew w _).trans (Trn.sets (F := fun y => (some ⟨g, 0, none⟩ : Option Addr) = some ⟨y, 0, none⟩) rfl _ _ _)).trans (Trn.sets (F := fun y => (some ⟨g, 0, none⟩ : Option Addr) = some ⟨y, 0, none⟩) rfl _ _ _), .inl rfl⟩
        · rw [← Array.length_toList]
          exact q2.trans hL
        · exact q1
      · have hcc : c = zs.length := by omega
        refine (Any2.slices_Insert_int_grow Tryz.laysNm221 g 0 zs.length c k vb 0 1 1 (zs.map (Value.int .i64)) [.int .i64 x] w hkl (by omega) (by omega) (by omega) (by omega) (by simp) rfl hcs hvs h1c h1v).mono ?_
        rintro e w' ⟨rfl, rfl⟩
        have hge := grownCap_ge w (zs.length + 1) c 3
        obtain ⟨q1, q2, q3⟩ := grow_list (zs.map (Value.int .i64)) (Value.int .i64 x) (Value.int .i64 0) k zs.length (grownCap w (zs.length + 1) c 3) (by simp) hkl _ rfl hge
        have eA : ((zs.map (Value.int .i64)).take k).toArray ++ Builtin.zeroCells (Value.int .i64 0).cells (zs.length + 1 - k) ++ Builtin.zeroCells (Value.int .i64 0).cells (grownCap w (zs.length + 1) c 3 - (zs.length + 1)) = ((zs.map (Value.int .i64)).take k ++ List.replicate (zs.length + 1 - k) (Value.int .i64 0) ++ List.replicate (grownCap w (zs.length + 1) c 3 - (zs.length + 1)) (Value.int .i64 0)).toArray := by
          apply Array.ext'
          rw [Array.toList_append, Array.toList_append, zero, zero]
        have hR0 := Row.new w (((zs.map (Value.int .i64)).take k).toArray ++ Builtin.zeroCells (Value.int .i64 0).cells (zs.length + 1 - k) ++ Builtin.zeroCells (Value.int .i64 0).cells (grownCap w (zs.length + 1) c 3 - (zs.length + 1))) 3
        have hR1 := rowSets [Value.int .i64 x] k _ _ hR0.drew (by rw [eA, ← Array.length_toList, List.toList_toArray, q3]; simp; omega)
        have hdl : ((zs.map (Value.int .i64)).drop k).length = zs.length - k := by simp
        have hR2 := rowSets ((zs.map (Value.int .i64)).drop k) (k + 1) _ _ hR1.drew (by rw [← Array.length_toList, List.toList_toArray, hdl, eA]; simp [List.length_take, List.length_drop]; omega)
        refine ⟨w.heap.size, _, rfl, own_of_row hR2 hB ?_ hge (grownCap_le_maxLen w (zs.length + 1) c 3 (by unfold maxLen; omega)) ?_, ?_, .inr (Nat.le_refl _)⟩
        · rw [← Array.length_toList, eA]
          exact q2
        · rw [eA]
          exact q1
        · have b1 : Below w.heap.size w (w.alloc (.cells (((zs.map (Value.int .i64)).take k).toArray ++ Builtin.zeroCells (Value.int .i64 0).cells (zs.length + 1 - k) ++ Builtin.zeroCells (Value.int .i64 0).cells (grownCap w (zs.length + 1) c 3 - (zs.length + 1))) 3)) := (Below.refl _ _).alloc (Nat.le_refl _) _
          refine Trn.ofBelow _ ?_
          exact (b1.trans ((Trn.drew _ (fun y => y = w.heap.size)).below (fun g e => Nat.le_of_eq e.symm) b1.size)).trans ((((Trn.sets (F := fun y => y = w.heap.size) rfl _ _ _).trans (Trn.drew _ _)).trans (Trn.sets (F := fun y => y = w.heap.size) rfl _ _ _)).below (fun g e => Nat.le_of_eq e.symm) b1.size)
end Go.Proofs.YtgiegoamcfjfmaaGreat
