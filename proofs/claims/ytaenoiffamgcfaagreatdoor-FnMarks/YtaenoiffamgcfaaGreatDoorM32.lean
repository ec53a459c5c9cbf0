import Derived.Test.YtaenoiffamgcfaaGreatDoorM28
import Derived.Test.YtaenoiffamgcfaaGreatDoorM23
import Derived.Test.YtaenoiffamgcfaaGreatDoorM21
import Derived.Test.YtaenoiffamgcfaaGreatDoorM29
import Derived.Deep.MidRow
import Derived.Test.YtaenoiffamgcfaaGreatDoorM8
import Derived.Test.YtaenoiffamgcfaaGreatDoorM26
set_option maxHeartbeats 8000000
set_option maxRecDepth 2000
open Go.ChangeShapes Go.WideShapes Go.ChangeAt Go.RowKit
namespace Go.Proofs.YtaenoiffamgcfaaGreatDoor
def soS (S : Nat → Sl) (root : ByteArray) (n : Nat) : Sl := match plc S root n with
 | some x => S x
 | none => slZ
def soB (S : Nat → Sl) (root : ByteArray) (n : Nat) : Bool := (plc S root n).isSome
def plN (S : Nat → Sl) (root : ByteArray) (n : Nat) : Nat := match plc S root n with
 | some x => x
 | none => n
theorem SlO.setRow {w : World} {B B' : Nat} {s : Sl} {v6 v11 v12 : Value} {F6 F11 F12 : Nat → Prop} (h : SlO w B s v6 v11 v12 F6 F11 F12) (D : Nat) (cs : Array Value) (hD : D < B) (hB : B' ≤ B) : ∃ F6 F11 F12, SlO (w.setRow D cs) B' s v6 v11 v12 F6 F11 F12 :=
 ⟨_, _, _, ⟨(h.t.cut.base hB).frame fun x hx _ => setRow_other _ _ _ _ (fun e => by have := hx.2.1; omega), (h.e.cut.base hB).frame fun x hx _ => setRow_other _ _ _ _ (fun e => by have := hx.2.1; omega), (h.z.cut.base hB).frame fun x hx _ => setRow_other _ _ _ _ (fun e => by have := hx.2.1; omega), fun x h1 h2 => h.d1 x h1.1 h2.1, fun x h1 h2 => h.d2 x h1.1 h2.1, fun x h1 h2 => h.d3 x h1.1 h2.1⟩⟩
theorem sPlace_any (id f : Int) (a : Option Addr) (n cap : Nat) (S : Nat → Sl) (root : ByteArray) (w : World) (h : Rd w (slsD n S) (.slice a n cap)) (hn : n ≤ 1048576) :
  Calls Tryz.prog 71 #[ndV id f (.slice a n cap), .string root] w fun e w' => e = .returned (.int .i64 (plN S root n : Nat)) ∧ Below w.heap.size w w' := by
 obtain ⟨A, HA⟩ : ∃ x, Hid (x = w.heap.size) := ⟨_, rfl⟩
 obtain ⟨w0, HW0⟩ : ∃ x, Hid (x = w.alloc (.cells #[.int .i64 id, .int .i64 f, .slice a n cap] 37)) := ⟨_, rfl⟩
 have RA : Hid (Row w0 A 37 #[.int .i64 id, .int .i64 f, .slice a n cap]) := by show Row _ _ _ _; rw [HW0.out, HA.out]; exact Row.new w _ _
 have hb0 : Below w.heap.size w w0 := by rw [HW0.out]; exact (Below.refl _ _).alloc (Nat.le_refl _) _
 have KB0 : Hid (Below w.heap.size w w0) := hb0
 have KH : Hid (Rd w0 (slsD n S) (.slice a n cap)) := h.below hb0
 have x2 := RA.out.cell 2
 simp at x2
 clear h hb0
 go_enter Tryz.func71, Tryz.ntmps71
 go_wp2_with fail
 rw [← HW0.out, ← HA.out]
 go_loopw [5] (fun vi wr => ∃ k : Nat, k ≤ n ∧ vi = .int .i64 (k : Int) ∧ Hid (plF S root (n - k) k = plc S root n) ∧ Below w0.heap.size w0 wr) (fun vi _ => n - (intOf vi).toNat)
 case atStart => exact ⟨0, Nat.zero_le _, rfl, rfl, Below.refl _ _⟩
 case round =>
  obtain ⟨k, hk, rfl, HP, hbel⟩ := hrel
  replace x2 := (hbel.cell (p := ⟨A, 2, none⟩) RA.out.lt).trans x2
  have KBr : Hid (Below w.heap.size w wr ∧ Below w0.heap.size w0 wr) := ⟨below2 KB0.out hbel, hbel⟩
  by_cases hlt : k < n
  ·have hki : (k : Int) < (n : Int) := by omega
   obtain ⟨b1, f1, p6, p11, p12, q6, q11, q12, rfl, R1, _, _, _⟩ := slot_at (KH.out.below hbel) hlt
   have v0 : wr.cell? ⟨b1, f1 + k * 13, none⟩ = some (.string (S k).r) := by
    have := R1 0 (.string (S k).r) rfl
    simpa using this
   have e2 : n - k = (n - (k + 1)) + 1 := by omega
   have HP' := HP.out
   rw [e2] at HP'
   unfold plF at HP'
   clear R1 HP e2 hbel
   by_cases hr : (S k).r = root
   ·rw [if_pos hr] at HP'
    have HI : Hid (plN S root n = k) := by show _ = _; unfold plN; rw [← HP']
    rw [hr] at v0
    have hb := ba_beq root
    clear HP' hr
    go_wp2
    go_ret
    exact ⟨ret_int (by rw [HI.out]), KBr.out.1⟩
   ·rw [if_neg hr] at HP'
    have HP2 : Hid (plF S root (n - (k + 1)) (k + 1) = plc S root n) := HP'
    have hb := ba_ne hr
    clear HP' hr
    go_wp2
    go_roundw
    case rel => exact ⟨k + 1, by omega, by go_num, HP2, KBr.out.2⟩
    case measure => simp [intOf]; omega
  ·obtain rfl : k = n := by omega
   have HI : Hid (plN S root k = k) := by
    have := HP.out
    rw [Nat.sub_self] at this
    show _ = _
    unfold plN
    rw [← this]
    rfl
   go_wp2
   go_ret
   exact ⟨ret_int (by rw [HI.out]), KBr.out.1⟩
theorem slotOf_any (id f : Int) (a : Option Addr) (n cap : Nat) (S : Nat → Sl) (root : ByteArray) (w : World) (h : Rd w (slsD n S) (.slice a n cap)) (hn : n ≤ 1048576) (hs : ∀ i, i < n → SlK (S i)) :
  Calls Tryz.prog 38 #[ndV id f (.slice a n cap), .string root] w fun e w' => ∃ (a6 a11 a12 : Option Addr) (c6 c11 c12 : Nat) (F6 F11 F12 : Nat → Prop), e = .returned (.tuple #[slV (soS S root n) (.slice a6 (soS S root n).p.m c6) (.slice a11 (soS S root n).ze.length c11) (.slice a12 (soS S root n).zr.length c12), .bool (soB S root n)]) ∧ SlO w' w.heap.size (soS S root n) (.slice a6 (soS S root n).p.m c6) (.slice a11 (soS S root n).ze.length c11) (.slice a12 (soS S root n).zr.length c12) F6 F11 F12 ∧ Below w.heap.size w w' := by
 obtain ⟨A, HA⟩ : ∃ x, Hid (x = w.heap.size) := ⟨_, rfl⟩
 obtain ⟨D, HD⟩ : ∃ x, Hid (x = w.heap.size + 1) := ⟨_, rfl⟩
 obtain ⟨w0, HW0⟩ : ∃ x, Hid (x = (w.alloc (.cells #[.int .i64 id, .int .i64 f, .slice a n cap] 37)).alloc (.cells #[.string ⟨#[]⟩, .string ⟨#[]⟩, .int .i64 0, .int .i64 0, .int .i64 0, .string ⟨#[]⟩, .slice none 0 0, .bool false, .bool false, .bool false, .bool false, .slice none 0 0, .slice none 0 0] 65)) := ⟨_, rfl⟩
 have RA : Hid (Row w0 A 37 #[.int .i64 id, .int .i64 f, .slice a n cap]) := by show Row _ _ _ _; rw [HW0.out, HA.out]; exact Row.alloc (Row.new w _ _) _
 have RD : Hid (Row w0 D 65 #[.string ⟨#[]⟩, .string ⟨#[]⟩, .int .i64 0, .int .i64 0, .int .i64 0, .string ⟨#[]⟩, .slice none 0 0, .bool false, .bool false, .bool false, .bool false, .slice none 0 0, .slice none 0 0]) := by
  show Row _ _ _ _
  rw [HW0.out, HD.out]
  have := Row.new (w.alloc (.cells #[.int .i64 id, .int .i64 f, .slice a n cap] 37)) #[.string ⟨#[]⟩, .string ⟨#[]⟩, .int .i64 0, .int .i64 0, .int .i64 0, .string ⟨#[]⟩, .slice none 0 0, .bool false, .bool false, .bool false, .bool false, .slice none 0 0, .slice none 0 0] 65
  simpa using this
 have hb0 : Below w.heap.size w w0 := by rw [HW0.out]; exact ((Below.refl _ _).alloc (Nat.le_refl _) _).alloc (by simp) _
 have KB0 : Hid (Below w.heap.size w w0) := hb0
 have HL : Hid (w.heap.size ≤ D ∧ D < w0.heap.size) := ⟨by have := HD.out; omega, RD.out.lt⟩
 have KP : Hid _ := placeOf_any id f a n cap S root w0 (h.below hb0) hn
 have KH : Hid (Rd w0 (slsD n S) (.slice a n cap)) := h.below hb0
 have KN : Hid (∀ i, i < n → SlK (S i)) := hs
 clear h hb0 hs
 cases hp : plc S root n with
 | none =>
  have hpx : plX S root n = -1 := by unfold plX; rw [hp]
  rw [hpx] at KP
  have e1 : soS S root n = slZ := by unfold soS; rw [hp]
  have e2 : soB S root n = false := by unfold soB; rw [hp]; rfl
  rw [e1, e2]
  clear hp hpx e1 e2 KH KN
  go_enter Tryz.func38, Tryz.ntmps38
  go_wp2_with fail
  rw [← HW0.out, ← HD.out, ← HA.out]
  refine Calls.mono KP.out ?_
  rintro e w1 ⟨rfl, b1⟩
  have RA1 := RA.out.below b1 RA.out.lt
  have x2 := RA1.cell 2
  simp at x2
  have HD1 : Hid (Row w1 D 65 #[.string ⟨#[]⟩, .string ⟨#[]⟩, .int .i64 0, .int .i64 0, .int .i64 0, .string ⟨#[]⟩, .slice none 0 0, .bool false, .bool false, .bool false, .bool false, .slice none 0 0, .slice none 0 0]) := RD.out.below b1 RD.out.lt
  have KB1 : Hid (Below w.heap.size w w1) := below2 KB0.out b1
  obtain ⟨w7, HW7⟩ : ∃ x, Hid (x = w1.setRow D #[.string ⟨#[]⟩, .string ⟨#[]⟩, .int .i64 0, .int .i64 0, .int .i64 0, .string ⟨#[]⟩, .slice none 0 0, .bool false, .bool false, .bool false, .bool false, .slice none 0 0, .slice none 0 0]) := ⟨_, rfl⟩
  have ZR : Hid (Row w7 D 65 #[.string ⟨#[]⟩, .string ⟨#[]⟩, .int .i64 0, .int .i64 0, .int .i64 0, .string ⟨#[]⟩, .slice none 0 0, .bool false, .bool false, .bool false, .bool false, .slice none 0 0, .slice none 0 0]) := by show Row _ _ _ _; rw [HW7.out]; exact HD1.out.row
  have ZB : Hid (Below w.heap.size w w7) := by show Below _ _ _; rw [HW7.out]; exact belowSetRow KB1.out HL.out.1 _
  clear b1 RA1
  go_wp2_with (refine wpList_store_row (by rfl) 65 _ _ (by rfl) D #[.string ⟨#[]⟩, .string ⟨#[]⟩, .int .i64 0, .int .i64 0, .int .i64 0, .string ⟨#[]⟩, .slice none 0 0, .bool false, .bool false, .bool false, .bool false, .slice none 0 0, .slice none 0 0] (by rfl) (by rfl) 65 #[.string ⟨#[]⟩, .string ⟨#[]⟩, .int .i64 0, .int .i64 0, .int .i64 0, .string ⟨#[]⟩, .slice none 0 0, .bool false, .bool false, .bool false, .bool false, .slice none 0 0, .slice none 0 0] ?_ Tryz.infoSl rfl (by simp [Value.oneCell']) ?_; exact HD1.out; rw [← HW7.out])
  refine bodyPost_ret (v := .tuple #[slV slZ (.slice none 0 0) (.slice none 0 0) (.slice none 0 0), .bool false]) (by
   have p0 := ZR.out.cell 0
   have p1 := ZR.out.cell 1
   have p2 := ZR.out.cell 2
   have p3 := ZR.out.cell 3
   have p4 := ZR.out.cell 4
   have p5 := ZR.out.cell 5
   have p6 := ZR.out.cell 6
   have p7 := ZR.out.cell 7
   have p8 := ZR.out.cell 8
   have p9 := ZR.out.cell 9
   have p10 := ZR.out.cell 10
   have p11 := ZR.out.cell 11
   have p12 := ZR.out.cell 12
   simp at p0 p1 p2 p3 p4 p5 p6 p7 p8 p9 p10 p11 p12
   simp [results, Tryz.results38, go_sem, p0, p1, p2, p3, p4, p5, p6, p7, p8, p9, p10, p11, p12, slZ]
   try rfl) rfl ⟨none, none, none, 0, 0, 0, fun _ => False, fun _ => False, fun _ => False, rfl, ⟨Ow.nil _ _ _ _ _ _, Ow.nil _ _ _ _ _ _, Ow.nil _ _ _ _ _ _, fun _ h => h.elim, fun _ h => h.elim, fun _ h => h.elim⟩, ZB.out⟩
 | some x =>
  obtain ⟨_, hxn', _, _⟩ := plF_some hp
  have hxn : x < n := by omega
  clear hxn'
  have hpx : plX S root n = (x : Int) := by unfold plX; rw [hp]
  rw [hpx] at KP
  have hneg : ¬ ((x : Int) < 0) := by omega
  have hxi : (x : Int) < (n : Int) := by omega
  have e1 : soS S root n = S x := by unfold soS; rw [hp]
  have e2 : soB S root n = true := by unfold soB; rw [hp]; rfl
  rw [e1, e2]
  clear hp hpx e1 e2
  go_enter Tryz.func38, Tryz.ntmps38
  go_wp2_with fail
  rw [← HW0.out, ← HD.out, ← HA.out]
  refine Calls.mono KP.out ?_
  rintro e w1 ⟨rfl, b1⟩
  obtain ⟨q1, f1, p6, p11, p12, c6, c11, c12, rfl, R1, t6, t11, t12⟩ := slot_at (KH.out.below b1) hxn
  have R1 : Hid _ := R1
  have RA1 := RA.out.below b1 RA.out.lt
  have x2 := RA1.cell 2
  simp at x2
  have HD1 : Hid (Row w1 D 65 #[.string ⟨#[]⟩, .string ⟨#[]⟩, .int .i64 0, .int .i64 0, .int .i64 0, .string ⟨#[]⟩, .slice none 0 0, .bool false, .bool false, .bool false, .bool false, .slice none 0 0, .slice none 0 0]) := RD.out.below b1 RD.out.lt
  have KB1 : Hid (Below w.heap.size w w1) := below2 KB0.out b1
  have KC : Hid _ := copiedS_any (S x) p6 p11 p12 c6 c11 c12 w1 t6 t11 t12 (KN.out x hxn)
  have KSz : Hid (w0.heap.size ≤ w1.heap.size) := b1.size
  clear b1 RA1 t6 t11 t12
  go_wp2_with (refine wpList_load_mid (by rfl) 65 _ (by rfl) q1 (f1 + x * 13) (by rfl) (slL (S x) (.slice p6 (S x).p.m c6) (.slice p11 (S x).ze.length c11) (.slice p12 (S x).zr.length c12)) _ ?_ Tryz.underlying65 (by rfl) Tryz.infoSl ?_; exact R1.out)
  refine Calls.mono KC.out ?_
  rintro e w3 ⟨g6, e11, e12, h11, h12, F6, F11, F12, rfl, HS, b3⟩
  have HD3 : Hid (Row w3 D 65 #[.string ⟨#[]⟩, .string ⟨#[]⟩, .int .i64 0, .int .i64 0, .int .i64 0, .string ⟨#[]⟩, .slice none 0 0, .bool false, .bool false, .bool false, .bool false, .slice none 0 0, .slice none 0 0]) := HD1.out.below b3 HD1.out.lt
  have KB3 : Hid (Below w.heap.size w w3) := below2 KB1.out b3
  obtain ⟨w7, HW7⟩ : ∃ y, Hid (y = w3.setRow D (slC (S x) (.slice (some ⟨g6, 0, none⟩) (S x).p.m (S x).p.m) (.slice e11 (S x).ze.length h11) (.slice e12 (S x).zr.length h12))) := ⟨_, rfl⟩
  have ZR : Hid (Row w7 D 65 (slC (S x) (.slice (some ⟨g6, 0, none⟩) (S x).p.m (S x).p.m) (.slice e11 (S x).ze.length h11) (.slice e12 (S x).zr.length h12))) := by show Row _ _ _ _; rw [HW7.out]; exact HD3.out.row
  have ZB : Hid (Below w.heap.size w w7) := by show Below _ _ _; rw [HW7.out]; exact belowSetRow KB3.out HL.out.1 _
  have HSO : Hid (∃ F6 F11 F12, SlO w7 w.heap.size (S x) (.slice (some ⟨g6, 0, none⟩) (S x).p.m (S x).p.m) (.slice e11 (S x).ze.length h11) (.slice e12 (S x).zr.length h12) F6 F11 F12) := by
   rw [HW7.out]
   exact HS.setRow D _ (by have := KSz.out; have := HL.out.2; omega) KB1.out.size
  clear HS b3
  go_wp2_with (refine wpList_store_row (by rfl) 65 _ _ (by rfl) D (slC (S x) (.slice (some ⟨g6, 0, none⟩) (S x).p.m (S x).p.m) (.slice e11 (S x).ze.length h11) (.slice e12 (S x).zr.length h12)) (by rfl) (by rfl) 65 #[.string ⟨#[]⟩, .string ⟨#[]⟩, .int .i64 0, .int .i64 0, .int .i64 0, .string ⟨#[]⟩, .slice none 0 0, .bool false, .bool false, .bool false, .bool false, .slice none 0 0, .slice none 0 0] ?_ Tryz.infoSl rfl (by simp [Value.oneCell']) ?_; exact HD3.out; rw [← HW7.out])
  obtain ⟨F6', F11', F12', HS'⟩ := HSO.out
  refine bodyPost_ret (v := .tuple #[slV (S x) (.slice (some ⟨g6, 0, none⟩) (S x).p.m (S x).p.m) (.slice e11 (S x).ze.length h11) (.slice e12 (S x).zr.length h12), .bool true]) (by
   have p0 := ZR.out.cell 0
   have p1 := ZR.out.cell 1
   have p2 := ZR.out.cell 2
   have p3 := ZR.out.cell 3
   have p4 := ZR.out.cell 4
   have p5 := ZR.out.cell 5
   have p6 := ZR.out.cell 6
   have p7 := ZR.out.cell 7
   have p8 := ZR.out.cell 8
   have p9 := ZR.out.cell 9
   have p10 := ZR.out.cell 10
   have p11 := ZR.out.cell 11
   have p12 := ZR.out.cell 12
   simp at p0 p1 p2 p3 p4 p5 p6 p7 p8 p9 p10 p11 p12
   simp [results, Tryz.results38, go_sem, p0, p1, p2, p3, p4, p5, p6, p7, p8, p9, p10, p11, p12]) rfl ⟨some ⟨g6, 0, none⟩, e11, e12, (S x).p.m, h11, h12, F6', F11', F12', rfl, HS', ZB.out⟩
theorem sSlotOf_any (id f : Int) (a : Option Addr) (n cap : Nat) (S : Nat → Sl) (root : ByteArray) (w : World) (h : Rd w (slsD n S) (.slice a n cap)) (hn : n ≤ 1048576) (hs : ∀ i, i < n → SlS (S i)) :
  Calls Tryz.prog 39 #[ndV id f (.slice a n cap), .string root] w fun e w' => ∃ (a6 a11 a12 : Option Addr) (c6 c11 c12 : Nat) (F6 F11 F12 : Nat → Prop), e = .returned (.tuple #[slV (soS S root n) (.slice a6 (soS S root n).p.m c6) (.slice a11 (soS S root n).ze.length c11) (.slice a12 (soS S root n).zr.length c12), .bool (soB S root n)]) ∧ SlO w' w.heap.size (soS S root n) (.slice a6 (soS S root n).p.m c6) (.slice a11 (soS S root n).ze.length c11) (.slice a12 (soS S root n).zr.length c12) F6 F11 F12 ∧ Below w.heap.size w w' := by
 obtain ⟨A, HA⟩ : ∃ x, Hid (x = w.heap.size) := ⟨_, rfl⟩
 obtain ⟨D, HD⟩ : ∃ x, Hid (x = w.heap.size + 1) := ⟨_, rfl⟩
 obtain ⟨w0, HW0⟩ : ∃ x, Hid (x = (w.alloc (.cells #[.int .i64 id, .int .i64 f, .slice a n cap] 37)).alloc (.cells #[.string ⟨#[]⟩, .string ⟨#[]⟩, .int .i64 0, .int .i64 0, .int .i64 0, .string ⟨#[]⟩, .slice none 0 0, .bool false, .bool false, .bool false, .bool false, .slice none 0 0, .slice none 0 0] 65)) := ⟨_, rfl⟩
 have RA : Hid (Row w0 A 37 #[.int .i64 id, .int .i64 f, .slice a n cap]) := by show Row _ _ _ _; rw [HW0.out, HA.out]; exact Row.alloc (Row.new w _ _) _
 have RD : Hid (Row w0 D 65 #[.string ⟨#[]⟩, .string ⟨#[]⟩, .int .i64 0, .int .i64 0, .int .i64 0, .string ⟨#[]⟩, .slice none 0 0, .bool false, .bool false, .bool false, .bool false, .slice none 0 0, .slice none 0 0]) := by
  show Row _ _ _ _
  rw [HW0.out, HD.out]
  have := Row.new (w.alloc (.cells #[.int .i64 id, .int .i64 f, .slice a n cap] 37)) #[.string ⟨#[]⟩, .string ⟨#[]⟩, .int .i64 0, .int .i64 0, .int .i64 0, .string ⟨#[]⟩, .slice none 0 0, .bool false, .bool false, .bool false, .bool false, .slice none 0 0, .slice none 0 0] 65
  simpa using this
 have hb0 : Below w.heap.size w w0 := by rw [HW0.out]; exact ((Below.refl _ _).alloc (Nat.le_refl _) _).alloc (by simp) _
 have KB0 : Hid (Below w.heap.size w w0) := hb0
 have HL : Hid (w.heap.size ≤ D ∧ D < w0.heap.size) := ⟨by have := HD.out; omega, RD.out.lt⟩
 have KP : Hid _ := sPlace_any id f a n cap S root w0 (h.below hb0) hn
 have KH : Hid (Rd w0 (slsD n S) (.slice a n cap)) := h.below hb0
 have KN : Hid (∀ i, i < n → SlS (S i)) := hs
 clear h hb0 hs
 cases hp : plc S root n with
 | none =>
  have hpx : plN S root n = n := by unfold plN; rw [hp]
  rw [hpx] at KP
  have hnn : ((n : Int) == (n : Int)) = true := by simp
  have e1 : soS S root n = slZ := by unfold soS; rw [hp]
  have e2 : soB S root n = false := by unfold soB; rw [hp]; rfl
  rw [e1, e2]
  clear hp hpx e1 e2 KH KN
  go_enter Tryz.func39, Tryz.ntmps39
  go_wp2_with fail
  rw [← HW0.out, ← HD.out, ← HA.out]
  refine Calls.mono KP.out ?_
  rintro e w1 ⟨rfl, b1⟩
  have RA1 := RA.out.below b1 RA.out.lt
  have x2 := RA1.cell 2
  simp at x2
  have HD1 : Hid (Row w1 D 65 #[.string ⟨#[]⟩, .string ⟨#[]⟩, .int .i64 0, .int .i64 0, .int .i64 0, .string ⟨#[]⟩, .slice none 0 0, .bool false, .bool false, .bool false, .bool false, .slice none 0 0, .slice none 0 0]) := RD.out.below b1 RD.out.lt
  have KB1 : Hid (Below w.heap.size w w1) := below2 KB0.out b1
  obtain ⟨w7, HW7⟩ : ∃ x, Hid (x = w1.setRow D #[.string ⟨#[]⟩, .string ⟨#[]⟩, .int .i64 0, .int .i64 0, .int .i64 0, .string ⟨#[]⟩, .slice none 0 0, .bool false, .bool false, .bool false, .bool false, .slice none 0 0, .slice none 0 0]) := ⟨_, rfl⟩
  have ZR : Hid (Row w7 D 65 #[.string ⟨#[]⟩, .string ⟨#[]⟩, .int .i64 0, .int .i64 0, .int .i64 0, .string ⟨#[]⟩, .slice none 0 0, .bool false, .bool false, .bool false, .bool false, .slice none 0 0, .slice none 0 0]) := by show Row _ _ _ _; rw [HW7.out]; exact HD1.out.row
  have ZB : Hid (Below w.heap.size w w7) := by show Below _ _ _; rw [HW7.out]; exact belowSetRow KB1.out HL.out.1 _
  clear b1 RA1
  go_wp2_with (refine wpList_store_row (by rfl) 65 _ _ (by rfl) D #[.string ⟨#[]⟩, .string ⟨#[]⟩, .int .i64 0, .int .i64 0, .int .i64 0, .string ⟨#[]⟩, .slice none 0 0, .bool false, .bool false, .bool false, .bool false, .slice none 0 0, .slice none 0 0] (by rfl) (by rfl) 65 #[.string ⟨#[]⟩, .string ⟨#[]⟩, .int .i64 0, .int .i64 0, .int .i64 0, .string ⟨#[]⟩, .slice none 0 0, .bool false, .bool false, .bool false, .bool false, .slice none 0 0, .slice none 0 0] ?_ Tryz.infoSl rfl (by simp [Value.oneCell']) ?_; exact HD1.out; rw [← HW7.out])
  refine bodyPost_ret (v := .tuple #[slV slZ (.slice none 0 0) (.slice none 0 0) (.slice none 0 0), .bool false]) (by
   have p0 := ZR.out.cell 0
   have p1 := ZR.out.cell 1
   have p2 := ZR.out.cell 2
   have p3 := ZR.out.cell 3
   have p4 := ZR.out.cell 4
   have p5 := ZR.out.cell 5
   have p6 := ZR.out.cell 6
   have p7 := ZR.out.cell 7
   have p8 := ZR.out.cell 8
   have p9 := ZR.out.cell 9
   have p10 := ZR.out.cell 10
   have p11 := ZR.out.cell 11
   have p12 := ZR.out.cell 12
   simp at p0 p1 p2 p3 p4 p5 p6 p7 p8 p9 p10 p11 p12
   simp [results, Tryz.results39, go_sem, p0, p1, p2, p3, p4, p5, p6, p7, p8, p9, p10, p11, p12, slZ]
   try rfl) rfl ⟨none, none, none, 0, 0, 0, fun _ => False, fun _ => False, fun _ => False, rfl, ⟨Ow.nil _ _ _ _ _ _, Ow.nil _ _ _ _ _ _, Ow.nil _ _ _ _ _ _, fun _ h => h.elim, fun _ h => h.elim, fun _ h => h.elim⟩, ZB.out⟩
 | some x =>
  obtain ⟨_, hxn', _, _⟩ := plF_some hp
  have hxn : x < n := by omega
  clear hxn'
  have hpx : plN S root n = x := by unfold plN; rw [hp]
  rw [hpx] at KP
  have hneg : ((x : Int) == (n : Int)) = false := by simp; omega
  have hxi : (x : Int) < (n : Int) := by omega
  have e1 : soS S root n = S x := by unfold soS; rw [hp]
  have e2 : soB S root n = true := by unfold soB; rw [hp]; rfl
  rw [e1, e2]
  clear hp hpx e1 e2
  go_enter Tryz.func39, Tryz.ntmps39
  go_wp2_with fail
  rw [← HW0.out, ← HD.out, ← HA.out]
  refine Calls.mono KP.out ?_
  rintro e w1 ⟨rfl, b1⟩
  obtain ⟨q1, f1, p6, p11, p12, c6, c11, c12, rfl, R1, t6, t11, t12⟩ := slot_at (KH.out.below b1) hxn
  have R1 : Hid _ := R1
  have RA1 := RA.out.below b1 RA.out.lt
  have x2 := RA1.cell 2
  simp at x2
  have HD1 : Hid (Row w1 D 65 #[.string ⟨#[]⟩, .string ⟨#[]⟩, .int .i64 0, .int .i64 0, .int .i64 0, .string ⟨#[]⟩, .slice none 0 0, .bool false, .bool false, .bool false, .bool false, .slice none 0 0, .slice none 0 0]) := RD.out.below b1 RD.out.lt
  have KB1 : Hid (Below w.heap.size w w1) := below2 KB0.out b1
  have KC : Hid _ := sCopyS_any (S x) p6 p11 p12 c6 c11 c12 w1 t6 t11 t12 (KN.out x hxn)
  have KSz : Hid (w0.heap.size ≤ w1.heap.size) := b1.size
  clear b1 RA1 t6 t11 t12
  go_wp2_with (refine wpList_load_mid (by rfl) 65 _ (by rfl) q1 (f1 + x * 13) (by rfl) (slL (S x) (.slice p6 (S x).p.m c6) (.slice p11 (S x).ze.length c11) (.slice p12 (S x).zr.length c12)) _ ?_ Tryz.underlying65 (by rfl) Tryz.infoSl ?_; exact R1.out)
  refine Calls.mono KC.out ?_
  rintro e w3 ⟨g6, g11, g12, h6, h11, h12, F6, F11, F12, rfl, HS, b3⟩
  have HD3 : Hid (Row w3 D 65 #[.string ⟨#[]⟩, .string ⟨#[]⟩, .int .i64 0, .int .i64 0, .int .i64 0, .string ⟨#[]⟩, .slice none 0 0, .bool false, .bool false, .bool false, .bool false, .slice none 0 0, .slice none 0 0]) := HD1.out.below b3 HD1.out.lt
  have KB3 : Hid (Below w.heap.size w w3) := below2 KB1.out b3
  obtain ⟨w7, HW7⟩ : ∃ y, Hid (y = w3.setRow D (slC (S x) (.slice (some ⟨g6, 0, none⟩) (S x).p.m h6) (.slice (some ⟨g11, 0, none⟩) (S x).ze.length h11) (.slice (some ⟨g12, 0, none⟩) (S x).zr.length h12))) := ⟨_, rfl⟩
  have ZR : Hid (Row w7 D 65 (slC (S x) (.slice (some ⟨g6, 0, none⟩) (S x).p.m h6) (.slice (some ⟨g11, 0, none⟩) (S x).ze.length h11) (.slice (some ⟨g12, 0, none⟩) (S x).zr.length h12))) := by show Row _ _ _ _; rw [HW7.out]; exact HD3.out.row
  have ZB : Hid (Below w.heap.size w w7) := by show Below _ _ _; rw [HW7.out]; exact belowSetRow KB3.out HL.out.1 _
  have HSO : Hid (∃ F6 F11 F12, SlO w7 w.heap.size (S x) (.slice (some ⟨g6, 0, none⟩) (S x).p.m h6) (.slice (some ⟨g11, 0, none⟩) (S x).ze.length h11) (.slice (some ⟨g12, 0, none⟩) (S x).zr.length h12) F6 F11 F12) := by
   rw [HW7.out]
   exact HS.setRow D _ (by have := KSz.out; have := HL.out.2; omega) KB1.out.size
  clear HS b3
  go_wp2_with (refine wpList_store_row (by rfl) 65 _ _ (by rfl) D (slC (S x) (.slice (some ⟨g6, 0, none⟩) (S x).p.m h6) (.slice (some ⟨g11, 0, none⟩) (S x).ze.length h11) (.slice (some ⟨g12, 0, none⟩) (S x).zr.length h12)) (by rfl) (by rfl) 65 #[.string ⟨#[]⟩, .string ⟨#[]⟩, .int .i64 0, .int .i64 0, .int .i64 0, .string ⟨#[]⟩, .slice none 0 0, .bool false, .bool false, .bool false, .bool false, .slice none 0 0, .slice none 0 0] ?_ Tryz.infoSl rfl (by simp [Value.oneCell']) ?_; exact HD3.out; rw [← HW7.out])
  obtain ⟨F6', F11', F12', HS'⟩ := HSO.out
  refine bodyPost_ret (v := .tuple #[slV (S x) (.slice (some ⟨g6, 0, none⟩) (S x).p.m h6) (.slice (some ⟨g11, 0, none⟩) (S x).ze.length h11) (.slice (some ⟨g12, 0, none⟩) (S x).zr.length h12), .bool true]) (by
   have p0 := ZR.out.cell 0
   have p1 := ZR.out.cell 1
   have p2 := ZR.out.cell 2
   have p3 := ZR.out.cell 3
   have p4 := ZR.out.cell 4
   have p5 := ZR.out.cell 5
   have p6 := ZR.out.cell 6
   have p7 := ZR.out.cell 7
   have p8 := ZR.out.cell 8
   have p9 := ZR.out.cell 9
   have p10 := ZR.out.cell 10
   have p11 := ZR.out.cell 11
   have p12 := ZR.out.cell 12
   simp at p0 p1 p2 p3 p4 p5 p6 p7 p8 p9 p10 p11 p12
   simp [results, Tryz.results39, go_sem, p0, p1, p2, p3, p4, p5, p6, p7, p8, p9, p10, p11, p12]) rfl ⟨some ⟨g6, 0, none⟩, some ⟨g11, 0, none⟩, some ⟨g12, 0, none⟩, h6, h11, h12, F6', F11', F12', rfl, HS', ZB.out⟩
def HO3 (F6 F11 F12 : Nat → Prop) (q x : Nat) : Prop := (q = 6 ∧ F6 x) ∨ (q = 11 ∧ F11 x) ∨ (q = 12 ∧ F12 x)
theorem ow_slotO {w : World} {B : Nat} {s : Sl} {v6 v11 v12 : Value} {F6 F11 F12 : Nat → Prop} (h : SlO w B s v6 v11 v12 F6 F11 F12) (q : Nat) (hq : q < 13) : Ow w B (slD s q) ((slC s v6 v11 v12).toList.getD q undef) (HO3 F6 F11 F12 q) := by
 match q, hq with
 | 0, _ | 1, _ | 2, _ | 3, _ | 4, _ | 5, _ | 7, _ | 8, _ | 9, _ | 10, _ => rfl
 | 6, _ => exact Ow.mono h.t fun g hg => .inl ⟨rfl, hg⟩
 | 11, _ => exact Ow.mono h.e fun g hg => .inr (.inl ⟨rfl, hg⟩)
 | 12, _ => exact Ow.mono h.z fun g hg => .inr (.inr ⟨rfl, hg⟩)
def MindP (id f : Int) (n : Nat) (S : Nat → Sl) (y : Sy) : Prop := y.t = id ∧ (y.f = -1 ∨ (0 ≤ y.f ∧ y.f < 3 * f + 1)) ∧ (0 ≤ y.k ∧ y.k ≤ 2) ∧ y.r.size = 16 ∧ (n < 40 ∨ 0 ≤ plX S y.r n)
noncomputable def mindB (id f : Int) (n : Nat) (S : Nat → Sl) (y : Sy) : Bool := @decide (MindP id f n S y) (Classical.propDecidable _)
theorem mindB_no {id f : Int} {n : Nat} {S : Nat → Sl} {y : Sy} (h : ¬ MindP id f n S y) : mindB id f n S y = false := by unfold mindB; exact @decide_eq_false _ (Classical.propDecidable _) h
def slR (r : ByteArray) : Sl := ⟨r, ⟨ByteArray.empty, 0, 0, 0, ByteArray.empty, 0, fun _ => ByteArray.empty⟩, false, false, false, false, [], []⟩
abbrev slRC (r : ByteArray) : Array Value := #[.string r, .string ⟨#[]⟩, .int .i64 0, .int .i64 0, .int .i64 0, .string ⟨#[]⟩, .slice none 0 0, .bool false, .bool false, .bool false, .bool false, .slice none 0 0, .slice none 0 0]
def hrN (S : Nat → Sl) (r : ByteArray) (n : Nat) : Nat := if (plc S r n).isSome then n else n + 1
def slF (S : Nat → Sl) (r : ByteArray) (n i : Nat) : Sl := if i = n then slR r else S i
theorem ow_slR {W : World} {B : Nat} {r : ByteArray} (q : Nat) (hq : q < 13) : Ow W B (slD (slR r) q) ((slRC r).toList.getD q undef) (fun _ => False) := by
 match q, hq with
 | 0, _ | 1, _ | 2, _ | 3, _ | 4, _ | 5, _ | 7, _ | 8, _ | 9, _ | 10, _ => rfl
 | 6, _ | 11, _ | 12, _ => exact Ow.nil _ _ _ _ _ _
structure NwT (T : TypeId) (xx : List Value) (W : World) (B Nb : Nat) (id f : Int) (g n cap : Nat) (S : Nat → Sl) (F1 : Nat → Prop) : Prop where
 r : Row W Nb T (.int .i64 id :: .int .i64 f :: .slice (some ⟨g, 0, none⟩) n cap :: xx).toArray
 o : Ow W B (slsD n S) (.slice (some ⟨g, 0, none⟩) n cap) F1
 h1 : ¬ F1 Nb
 b : B ≤ Nb ∧ B ≤ W.heap.size
 l1 : ∀ x, F1 x → B ≤ x ∧ x < W.heap.size
theorem NwT.below {T : TypeId} {xx : List Value} {W W' : World} {B Nb : Nat} {id f : Int} {g n cap : Nat} {S : Nat → Sl} {F1 : Nat → Prop} (h : NwT T xx W B Nb id f g n cap S F1) (hb : Below W.heap.size W W') : NwT T xx W' B Nb id f g n cap S F1 :=
 ⟨h.r.below hb h.r.lt, h.o.below hb, h.h1, ⟨h.b.1, Nat.le_trans h.b.2 hb.size⟩, fun x hx => ⟨(h.l1 x hx).1, Nat.lt_of_lt_of_le (h.l1 x hx).2 hb.size⟩⟩
abbrev Nw := NwT 37 []
theorem slot_more {S : Nat → Sl} {n : Nat} {r : ByteArray} (i q : Nat) (_hi : i < n + 1) : (if i = n then slD (slR r) else slD (S i)) q = slD (slF S r n i) q := by
 unfold slF
 by_cases e : i = n
 ·rw [if_pos e, if_pos e]
 ·rw [if_neg e, if_neg e]
theorem ho3_one {F6 F11 F12 : Nat → Prop} (d1 : ∀ g, F6 g → ¬ F11 g) (d2 : ∀ g, F6 g → ¬ F12 g) (d3 : ∀ g, F11 g → ¬ F12 g) (q q' x : Nat) (hx : HO3 F6 F11 F12 q x) (hx' : HO3 F6 F11 F12 q' x) : q = q' := by
 rcases hx with ⟨e1, hx⟩ | ⟨e1, hx⟩ | ⟨e1, hx⟩ <;> rcases hx' with ⟨e2, hx'⟩ | ⟨e2, hx'⟩ | ⟨e2, hx'⟩
 ·omega
 ·exact absurd hx' (d1 x hx)
 ·exact absurd hx' (d2 x hx)
 ·exact absurd hx (d1 x hx')
 ·omega
 ·exact absurd hx' (d3 x hx)
 ·exact absurd hx (d2 x hx')
 ·exact absurd hx (d3 x hx')
 ·omega
theorem HO3.any {F6 F11 F12 : Nat → Prop} {q x : Nat} (h : HO3 F6 F11 F12 q x) : F6 x ∨ F11 x ∨ F12 x := by
 rcases h with ⟨_, h⟩ | ⟨_, h⟩ | ⟨_, h⟩
 ·exact .inl h
 ·exact .inr (.inl h)
 ·exact .inr (.inr h)
theorem sCopyN_any (id f : Int) (a : Option Addr) (n cap : Nat) (S : Nat → Sl) (w : World) (h : Rd w (slsD n S) (.slice a n cap)) (hn : n ≤ 1048576) (hs : ∀ i, i < n → SlS (S i)) :
  Calls Tryz.prog 78 #[ndV id f (.slice a n cap)] w fun e w' => ∃ g c, e = .returned (ndV id f (.slice (some ⟨g, 0, none⟩) n c)) ∧ Ow w' w.heap.size (slsD n S) (.slice (some ⟨g, 0, none⟩) n c) (rng w.heap.size w'.heap.size) ∧ Below w.heap.size w w' := by
 obtain ⟨i0, hi, hz0, hz1, hz2⟩ := info_parts Tryz.infoSlZ
 obtain ⟨A, HA⟩ : ∃ x, Hid (x = w.heap.size) := ⟨_, rfl⟩
 obtain ⟨D, HD⟩ : ∃ x, Hid (x = w.heap.size + 1) := ⟨_, rfl⟩
 obtain ⟨w0, HW0⟩ : ∃ x, Hid (x = (w.alloc (.cells #[.int .i64 id, .int .i64 f, .slice a n cap] 37)).alloc (.cells #[.int .i64 0, .int .i64 0, .slice none 0 0] 37)) := ⟨_, rfl⟩
 have RA : Hid (Row w0 A 37 #[.int .i64 id, .int .i64 f, .slice a n cap]) := by show Row _ _ _ _; rw [HW0.out, HA.out]; exact Row.alloc (Row.new w _ _) _
 have RD : Hid (Row w0 D 37 #[.int .i64 0, .int .i64 0, .slice none 0 0]) := by
  show Row _ _ _ _
  rw [HW0.out, HD.out]
  have := Row.new (w.alloc (.cells #[.int .i64 id, .int .i64 f, .slice a n cap] 37)) #[.int .i64 0, .int .i64 0, .slice none 0 0] 37
  simpa using this
 have hb0 : Below w.heap.size w w0 := by rw [HW0.out]; exact ((Below.refl _ _).alloc (Nat.le_refl _) _).alloc (by simp) _
 have KB0 : Hid (Below w.heap.size w w0) := hb0
 have HL : Hid (A ≠ D ∧ w.heap.size ≤ A ∧ w.heap.size ≤ D ∧ A < w0.heap.size ∧ D < w0.heap.size) := ⟨by have := HA.out; have := HD.out; omega, by have := HA.out; omega, by have := HD.out; omega, RA.out.lt, RD.out.lt⟩
 have KH : Hid (Rd w0 (slsD n S) (.slice a n cap)) := h.below hb0
 have HS : Hid (∀ i, i < n → SlS (S i)) := hs
 obtain ⟨w1, HW1⟩ : ∃ x, Hid (x = w0.alloc (.cells #[] 65)) := ⟨_, rfl⟩
 have K1 : Hid (Ow w1 w0.heap.size (slsD 0 S) (.slice (some ⟨w0.heap.size, 0, none⟩) 0 0) (rng w0.heap.size w1.heap.size) ∧ Below w0.heap.size w0 w1) := by
  rw [HW1.out]
  refine ⟨⟨_, 0, fun _ _ => undef, fun _ _ _ => False, rfl, ?_, ⟨fun x e => ?_, fun _ _ _ hi => absurd hi (Nat.not_lt_zero _), fun _ _ _ hi => absurd hi (Nat.not_lt_zero _), fun _ _ _ _ _ hi => absurd hi (Nat.not_lt_zero _)⟩, fun _ _ hi => absurd hi (Nat.not_lt_zero _)⟩, (Below.refl _ _).alloc (Nat.le_refl _) _⟩
  ·have := World.ownsRow_lit (e := 65) (size := 13) (base := w0.heap.size) w0 #[] 0 (by simp) (by unfold maxLen; omega) (by simp)
   simpa [cL] using this
  ·cases e
   exact ⟨Nat.le_refl _, by simp⟩
 obtain ⟨g1, HG1⟩ : ∃ x, Hid (x = D + 1) := ⟨_, rfl⟩
 have hg1 : D + 1 = w0.heap.size := by rw [HW0.out, HD.out]; simp
 have K1' : Hid (Ow w1 w0.heap.size (slsD 0 S) (.slice (some ⟨g1, 0, none⟩) 0 0) (rng w0.heap.size w1.heap.size) ∧ Below w0.heap.size w0 w1) := by rw [HG1.out, hg1]; exact K1.out
 clear h hb0 hs K1 hg1
 go_enter Tryz.func78, Tryz.ntmps78
 go_wp2_with fail
 rw [← HW0.out, ← HD.out, ← HA.out, ← HW1.out, ← HG1.out]
 go_loopw [3, 4] (fun v vi wr => ∃ k g c : Nat, k ≤ n ∧ v = .slice (some ⟨g, 0, none⟩) k c ∧ vi = .int .i64 (k : Int) ∧ Hid (Ow wr w0.heap.size (slsD k S) (.slice (some ⟨g, 0, none⟩) k c) (rng w0.heap.size wr.heap.size) ∧ Below w0.heap.size w0 wr)) (fun _ vi _ => n - (intOf vi).toNat)
 case atStart => exact ⟨0, g1, 0, Nat.zero_le _, rfl, rfl, K1'⟩
 case round =>
  obtain ⟨k, g, c, hk, rfl, rfl, HO⟩ := hrel
  clear K1' HW1 HG1
  have x2 := (RA.out.below HO.out.2 RA.out.lt).cell 2
  simp at x2
  by_cases hlt : k < n
  ·have hki : (k : Int) < (n : Int) := by omega
   obtain ⟨b1, f1, p6, p11, p12, q6, q11, q12, rfl, R1', t6, t11, t12⟩ := slot_at (KH.out.below HO.out.2) hlt
   have R1 : Hid (wr.rangeAt b1 (f1 + k * 13) (slL (S k) (.slice p6 (S k).p.m q6) (.slice p11 (S k).ze.length q11) (.slice p12 (S k).zr.length q12))) := R1'
   have KC : Hid _ := sCopyS_any (S k) p6 p11 p12 q6 q11 q12 wr t6 t11 t12 (HS.out k hlt)
   have HLT : Hid (k < n) := hlt
   clear R1' t6 t11 t12 KH HS
   go_wp2_with (refine wpList_load_mid (by rfl) 65 _ (by rfl) b1 (f1 + k * 13) (by rfl) (slL (S k) (.slice p6 (S k).p.m q6) (.slice p11 (S k).ze.length q11) (.slice p12 (S k).zr.length q12)) _ ?_ Tryz.underlying65 (by rfl) Tryz.infoSl ?_; exact R1.out)
   refine Calls.mono KC.out ?_
   rintro e w3 ⟨g6, g11, g12, h6, h11, h12, F6', F11', F12', rfl, SO', b3⟩
   obtain ⟨F6, F11, F12, SO, SC⟩ : ∃ H6 H11 H12, SlO w3 wr.heap.size (S k) (.slice (some ⟨g6, 0, none⟩) (S k).p.m h6) (.slice (some ⟨g11, 0, none⟩) (S k).ze.length h11) (.slice (some ⟨g12, 0, none⟩) (S k).zr.length h12) H6 H11 H12 ∧ ∀ g, H6 g ∨ H11 g ∨ H12 g → wr.heap.size ≤ g ∧ g < w3.heap.size := ⟨_, _, _, ⟨SO'.t.cut, SO'.e.cut, SO'.z.cut, fun g h1 h2 => SO'.d1 g h1.1 h2.1, fun g h1 h2 => SO'.d2 g h1.1 h2.1, fun g h1 h2 => SO'.d3 g h1.1 h2.1⟩, fun g hg => by rcases hg with hg | hg | hg <;> exact hg.2⟩
   obtain ⟨w5, HW5⟩ : ∃ x, Hid (x = w3.alloc (.cells (slC (S k) (.slice (some ⟨g6, 0, none⟩) (S k).p.m h6) (.slice (some ⟨g11, 0, none⟩) (S k).ze.length h11) (.slice (some ⟨g12, 0, none⟩) (S k).zr.length h12)) 65)) := ⟨_, rfl⟩
   have b5 : Below w3.heap.size w3 w5 := by rw [HW5.out]; exact (Below.refl _ _).alloc (Nat.le_refl _) _
   have b35 : Below wr.heap.size wr w5 := below2 b3 b5
   have hsz := HO.out.2.size
   clear R1 KC SO'
   go_wp2_with (at_builtin; rw [← HW5.out]; refine (show True → _ from ?_) trivial)
   intro _
   refine wpList_snoc w5 (by rfl) _ _ 35 (by rfl) w0.heap.size 65 i0 (.agg zcS.toArray) 13 _ Tryz.underlying35 hi hz0 hz1 hz2 rfl (by decide) (.slice (some ⟨g, 0, none⟩) k c) k _ _ (by rfl) (HO.out.1.below b35) ⟨w3.heap.size, 0, none⟩ 1 (slC (S k) (.slice (some ⟨g6, 0, none⟩) (S k).p.m h6) (.slice (some ⟨g11, 0, none⟩) (S k).ze.length h11) (.slice (some ⟨g12, 0, none⟩) (S k).zr.length h12)).toList (by rfl) rfl ?_ (by simp [Value.oneCell']) (slD (S k)) (HO3 F6 F11 F12) ?_ ?_ (fun q q' x _ _ hx hx' => ho3_one SO.d1 SO.d2 SO.d3 q q' x hx hx') (by unfold maxLen; omega) (by omega) ?_ ?_
   ·rw [HW5.out]
    exact World.news_of_block (t := 65) (fr := (0, 0)) (Row.new w3 _ _)
   ·intro q hq
    exact ow_slotO ⟨(SO.t.base hsz).below b5, (SO.e.base hsz).below b5, (SO.z.base hsz).below b5, SO.d1, SO.d2, SO.d3⟩ q hq
   ·intro q x _ hx hf
    have h1 := (SC x hx.any).1
    have h2 := hf.2
    omega
   ·have := b35.size
    omega
   intro g' c' w6 O6 b6 _
   have K6 : Hid (Ow w6 w0.heap.size (slsD (k + 1) S) (.slice (some ⟨g', 0, none⟩) (k + 1) c') (rng w0.heap.size w6.heap.size) ∧ Below w0.heap.size w0 w6) := by
    refine ⟨(O6.mono (fun x hx => ?_)).congr (fun i q _ _ => ?_), (below2 HO.out.2 b35).trans b6⟩
    ·refine ⟨?_, hx.1⟩
     have h5 := b35.size
     rcases hx.2 with (h | ⟨q, _, h⟩) | h
     ·exact h.1
     ·have := (SC x h.any).1
      show w0.heap.size ≤ x
      omega
     ·show w0.heap.size ≤ x
      omega
    ·by_cases e : i = k
     ·subst e; simp
     ·simp [e]
   clear O6 b6 b5 b35 b3 SO SC x2 HO HW5
   have h1 := HLT.out
   go_wp2
   go_roundw
   case rel => exact ⟨k + 1, g', c', by omega, by go_num, by go_num, K6⟩
   case measure => simp [intOf]; omega
  ·obtain rfl : k = n := by omega
   have RAr := RA.out.below HO.out.2 RA.out.lt
   have RDr := RD.out.below HO.out.2 RD.out.lt
   have f2 := RAr.free 2
   obtain ⟨w3, HW3⟩ : ∃ x, Hid (x = wr.setCell ⟨A, 2, none⟩ (.slice (some ⟨g, 0, none⟩) k c)) := ⟨_, rfl⟩
   have J3 : Hid (Row w3 A 37 #[.int .i64 id, .int .i64 f, .slice (some ⟨g, 0, none⟩) k c] ∧ Row w3 D 37 #[.int .i64 0, .int .i64 0, .slice none 0 0] ∧ Ow w3 w0.heap.size (slsD k S) (.slice (some ⟨g, 0, none⟩) k c) (rng w0.heap.size wr.heap.size) ∧ Below w.heap.size w w3) := by
    rw [HW3.out]
    exact ⟨RAr.set 2 _, RDr.other 2 _ (Ne.symm HL.out.1), HO.out.1.far 2 _ (fun hk => by have := hk.1; have := HL.out.2.2.2.1; omega), (below2 KB0.out HO.out.2).setCell HL.out.2.1 _⟩
   have S3 : w3.heap.size = wr.heap.size := by rw [HW3.out]; simp
   obtain ⟨w7, HW7⟩ : ∃ x, Hid (x = w3.setRow D #[.int .i64 id, .int .i64 f, .slice (some ⟨g, 0, none⟩) k c]) := ⟨_, rfl⟩
   have S7 : w7.heap.size = w3.heap.size := by rw [HW7.out]; simp [World.setRow]
   have ZR : Hid (Row w7 D 37 #[.int .i64 id, .int .i64 f, .slice (some ⟨g, 0, none⟩) k c]) := by show Row _ _ _ _; rw [HW7.out]; exact J3.out.2.1.row
   have ZB : Hid (Below w.heap.size w w7) := by show Below _ _ _; rw [HW7.out]; exact belowSetRow J3.out.2.2.2 HL.out.2.2.1 _
   have ZO : Hid (Ow w7 w.heap.size (slsD k S) (.slice (some ⟨g, 0, none⟩) k c) (rng w.heap.size w7.heap.size)) := by
    show Ow _ _ _ _ _
    rw [S7, S3]
    have hw0 := KB0.out.size
    have h1 : Ow w7 w0.heap.size (slsD k S) (.slice (some ⟨g, 0, none⟩) k c) (rng w0.heap.size wr.heap.size) := by
     rw [HW7.out]
     exact J3.out.2.2.1.frame fun x hx _ => setRow_other _ _ _ _ (fun e => by have := hx.1; have := HL.out.2.2.2.2; omega)
    exact (h1.base hw0).mono (fun x hx => ⟨by have := hx.1; omega, hx.2⟩)
   clear RAr RDr S3 S7 HO
   go_wp2_with (first | (rw [← HW3.out]; refine wpList_load_row (by rfl) 37 _ (by rfl) A (by rfl) 37 #[.int .i64 id, .int .i64 f, .slice (some ⟨g, 0, none⟩) k c] (0, 0) _ ?_ Tryz.underlying37 (by rfl) Tryz.infoNd ?_; exact J3.out.1; clear x2 f2) | (refine wpList_store_row (by rfl) 37 _ _ (by rfl) D #[.int .i64 id, .int .i64 f, .slice (some ⟨g, 0, none⟩) k c] (by rfl) (by rfl) 37 #[.int .i64 0, .int .i64 0, .slice none 0 0] ?_ Tryz.infoNd rfl (by simp [Value.oneCell']) ?_; exact J3.out.2.1; rw [← HW7.out]))
   exact bodyPost_ret (v := ndV id f (.slice (some ⟨g, 0, none⟩) k c)) (results_cell_row Tryz.results78 _ _ D 37 _ (0, 0) _ (by rfl) ZR.out Tryz.underlying37 (by rfl) Tryz.infoNd) rfl ⟨g, c, rfl, ZO.out, ZB.out⟩
theorem SlO.rd {w : World} {B : Nat} {s : Sl} {a6 a11 a12 : Option Addr} {c6 c11 c12 m e z : Nat} {F6 F11 F12 : Nat → Prop} (h : SlO w B s (.slice a6 m c6) (.slice a11 e c11) (.slice a12 z c12) F6 F11 F12) : TxtAt w a6 s.p.m s.p.S ∧ IntsAt w a11 s.ze.length s.ze ∧ IntsAt w a12 s.zr.length s.zr := by
 have h1 := h.t.rd
 have h2 := h.e.rd
 have h3 := h.z.rd
 obtain ⟨_, _, e1⟩ := h1.shape
 obtain ⟨_, _, e2⟩ := h2.shape
 obtain ⟨_, _, e3⟩ := h3.shape
 simp only [Value.slice.injEq] at e1 e2 e3
 rw [e1.2.1] at h1
 rw [e2.2.1] at h2
 rw [e3.2.1] at h3
 exact ⟨rd_txt.1 h1, rd_ints.1 h2, rd_ints.1 h3⟩
section
variable {w W W' : World} {B E X G bx bg : Nat} {id f : Int} {a : Option Addr} {n c gx : Nat} {T TG TH : Sl} {v6 v11 v12 u6 u11 u12 : Value}
end
end Go.Proofs.YtaenoiffamgcfaaGreatDoor
namespace Go.Proofs.YtaenoiffamgcfaaGreatDoor
def nAll (f : Int) : Nat := (3 * f + 1).toNat
theorem nAll_is {f : Int} (h : 1 ≤ f ∧ f ≤ 3) : (nAll f : Int) = 3 * f + 1 := by unfold nAll; omega
def hvA (S : Nat → Sl) (p : Nat) (y : Sy) : Nat → Sl := if y.k = 1 then slEc S p (putI (S p).ze y.f) else slRd S p (putI (S p).zr y.f)
def hvT (f : Int) (S : Nat → Sl) (p : Nat) (y : Sy) : Int := stI f (hvA S p y p).ze.length (hvA S p y p).zr.length
def hvB (f : Int) (S : Nat → Sl) (p : Nat) (y : Sy) : Nat → Sl := if y.k = 1 then hvA S p y else slDn (hvA S p y) p ((hvA S p y p).o || decide (2 ≤ hvT f S p y))
def hvR (f : Int) (S : Nat → Sl) (p : Nat) (y : Sy) : Prop := 1 ≤ hvT f S p y ∧ (hvA S p y p).d = false
def hvE (id f : Int) (S : Nat → Sl) (p : Nat) (y : Sy) : Prop := (S p).e = false ∧ mineB y.r id f y.p.r y.p.k y.p.n y.p.i y.p.b y.p.m y.p.S = true
open Classical in
noncomputable def hvS (id f : Int) (S : Nat → Sl) (p : Nat) (y : Sy) : Nat → Sl := if y.k = 0 then (if hvE id f S p y then slGot S p y.p else S) else if hvR f S p y then slRy (hvB f S p y) p else hvB f S p y
open Classical in
noncomputable def hvM (id f : Int) (S : Nat → Sl) (p : Nat) (y : Sy) : Nat := if y.k = 0 then (if hvE id f S p y then nAll f else 0) else if hvR f S p y then nAll f else 0
def hvY (id : Int) (S : Nat → Sl) (p : Nat) (y : Sy) : Nat → Sy := syM (fun _ => syA 0 0 (S p).r 0) 0 (if y.k = 0 then 1 else 2) id (S p).r
theorem hvY_at (id : Int) (S : Nat → Sl) (p : Nat) (y : Sy) (i : Nat) : hvY id S p y i = syA (if y.k = 0 then 1 else 2) id (S p).r i := by unfold hvY syM; simp
theorem plN_lt (S : Nat → Sl) (r : ByteArray) (n : Nat) : plN S r n < hrN S r n := by
 unfold plN hrN
 cases e : plc S r n with
 | none => simp
 | some x =>
  obtain ⟨_, h, _, _⟩ := plF_some e
  simpa using h
structure HvK (S : Nat → Sl) (p : Nat) (y : Sy) : Prop where
 ze : (S p).ze.length ≤ 1048575
 zr : (S p).zr.length ≤ 1048575
 se : (S p).ze.Pairwise (· ≤ ·)
 sr : (S p).zr.Pairwise (· ≤ ·)
 r : (S p).r.size ≤ 1048576
 m : y.p.m ≤ 1048576
 pr : y.p.r.size ≤ 1048576
 pb : y.p.b.size ≤ 1048576
 ps : ∀ i, i < y.p.m → (y.p.S i).size ≤ 1048576
structure NhB (n : Nat) (S : Nat → Sl) (y : Sy) : Prop where
 kn : n ≤ 1048576
 k : ∀ i, i < n → SlK (S i)
 r : y.r.size ≤ 1048576
 m : y.p.m ≤ 1048576
 pr : y.p.r.size ≤ 1048576
 pb : y.p.b.size ≤ 1048576
 ps : ∀ i, i < y.p.m → (y.p.S i).size ≤ 1048576
theorem SlK.ok {s : Sl} (h : SlK s) : SlN s := ⟨h.m, fun i hi => Nat.le_trans (h.tx i hi) (by unfold maxLen; omega), h.ne, h.nr⟩
theorem NumP.at {f : Int} {zs : List Int} (h : NumP f zs) : ∀ i, i < zs.length → (i : Int) ≤ zs.getD i 0 := by
 intro i
 induction i with
 | zero => intro hi; exact_mod_cast (h 0 hi).1.1
 | succ j ih =>
  intro hi
  have h1 := ih (by omega)
  have h2 := (h (j + 1) hi).2 (by omega)
  simp only [Nat.add_sub_cancel] at h2
  omega
theorem NumP.len {f : Int} {zs : List Int} (h : NumP f zs) (hf : 1 ≤ f ∧ f ≤ 3) : zs.length ≤ 10 := by
 rcases Nat.eq_zero_or_pos zs.length with k | k
 ·omega
 ·have h1 := h.at (zs.length - 1) (by omega)
  have h2 := (h (zs.length - 1) (by omega)).1.2
  omega
theorem NumP.step {f : Int} {zs : List Int} (h : NumP f zs) (i : Nat) : ∀ d, i + d < zs.length → zs.getD i 0 ≤ zs.getD (i + d) 0 := by
 intro d
 induction d with
 | zero => intro _; exact Int.le_refl _
 | succ j ih =>
  intro hi
  have h1 := ih (by omega)
  have h2 := (h (i + (j + 1)) hi).2 (by omega)
  have e : i + (j + 1) - 1 = i + j := by omega
  rw [e] at h2
  omega
theorem NumP.sorted {f : Int} {zs : List Int} (h : NumP f zs) : zs.Pairwise (· ≤ ·) := by
 rw [List.pairwise_iff_getElem]
 intro i j hi hj hij
 have := h.step i (j - i) (by omega)
 have e : i + (j - i) = j := by omega
 rw [e] at this
 simpa [List.getD_eq_getElem?_getD, List.getElem?_eq_getElem hi, List.getElem?_eq_getElem hj] using this
theorem numP_of {f : Int} {zs : List Int} (h : numB f zs = true) : NumP f zs := by
 rcases Classical.em (NumP f zs) with k | k
 ·exact k
 ·rw [numB_no k] at h; cases h
theorem ndP_of {id f : Int} {n : Nat} {S : Nat → Sl} (h : ndB id f n S = true) : NdP id f n S := by
 rcases Classical.em (NdP id f n S) with k | k
 ·exact k
 ·rw [ndB_no k] at h; cases h
theorem mindP_of {id f : Int} {n : Nat} {S : Nat → Sl} {y : Sy} (h : mindB id f n S y = true) : MindP id f n S y := by
 rcases Classical.em (MindP id f n S y) with k | k
 ·exact k
 ·rw [mindB_no k] at h; cases h
theorem slF_at (S : Nat → Sl) (r : ByteArray) (n : Nat) : (plN S r n = n ∧ slF S r n (plN S r n) = slR r) ∨ (plN S r n < n ∧ slF S r n (plN S r n) = S (plN S r n) ∧ (S (plN S r n)).r = r) := by
 unfold plN
 cases e : plc S r n with
 | none => left; simp [slF]
 | some x =>
  obtain ⟨_, h, h1, _⟩ := plF_some e
  right
  refine ⟨by simp; omega, ?_, h1⟩
  unfold slF; rw [if_neg (by simp; omega)]
noncomputable def nhB (id f : Int) (n : Nat) (S : Nat → Sl) (y : Sy) : Bool := ndB id f n S && mindB id f n S y
noncomputable def nhN (id f : Int) (n : Nat) (S : Nat → Sl) (y : Sy) : Nat := if nhB id f n S y then hrN S y.r n else n
noncomputable def nhS (id f : Int) (n : Nat) (S : Nat → Sl) (y : Sy) : Nat → Sl := if nhB id f n S y then hvS id f (slF S y.r n) (plN S y.r n) y else S
noncomputable def nhM (id f : Int) (n : Nat) (S : Nat → Sl) (y : Sy) : Nat := if nhB id f n S y then hvM id f (slF S y.r n) (plN S y.r n) y else 0
noncomputable def nhY (id f : Int) (n : Nat) (S : Nat → Sl) (y : Sy) : Nat → Sy := if nhB id f n S y then hvY id (slF S y.r n) (plN S y.r n) y else fun _ => syA 0 0 y.r 0
theorem hvK_of {id f : Int} {n : Nat} {S : Nat → Sl} {y : Sy} (hB : NhB n S y) (h : NdP id f n S) : HvK (slF S y.r n) (plN S y.r n) y := by
 have hf := seB_f h.1
 rcases slF_at S y.r n with ⟨_, k⟩ | ⟨k1, k, _⟩
 ·refine ⟨?_, ?_, ?_, ?_, ?_, hB.m, hB.pr, hB.pb, hB.ps⟩ <;> rw [k]
  ·simp [slR]
  ·simp [slR]
  ·simp [slR]
  ·simp [slR]
  ·exact hB.r
 ·have hs := (h.2.2 _ k1).1
  have he := numP_of hs.2.1
  have hz := numP_of hs.2.2.1
  refine ⟨?_, ?_, ?_, ?_, ?_, hB.m, hB.pr, hB.pb, hB.ps⟩ <;> rw [k]
  ·have := he.len hf; omega
  ·have := hz.len hf; omega
  ·exact he.sorted
  ·exact hz.sorted
  ·have := hs.1; omega
end Go.Proofs.YtaenoiffamgcfaaGreatDoor
