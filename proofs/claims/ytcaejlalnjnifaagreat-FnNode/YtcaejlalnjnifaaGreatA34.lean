import Derived.Test.YtcaejlalnjnifaaGreatA30
import Derived.Test.YtcaejlalnjnifaaGreatA32
import Derived.Test.YtcaejlalnjnifaaGreatA24
import Derived.Test.YtcaejlalnjnifaaGreatA23
import Derived.Test.YtcaejlalnjnifaaGreatA31
import Derived.Test.YtcaejlalnjnifaaGreatA27
set_option maxHeartbeats 8000000
set_option maxRecDepth 2000
open Go.ChangeShapes Go.WideShapes Go.ChangeAt Go.RowKit
namespace Go.Proofs.YtcaejlalnjnifaaGreat
def soS (S : Nat → Sl) (root : ByteArray) (n : Nat) : Sl := match plc S root n with
 | some x => S x
 | none => slZ
def soB (S : Nat → Sl) (root : ByteArray) (n : Nat) : Bool := (plc S root n).isSome
def plN (S : Nat → Sl) (root : ByteArray) (n : Nat) : Nat := match plc S root n with
 | some x => x
 | none => n
theorem SlO.setRow {w : World} {B B' : Nat} {s : Sl} {v6 v11 v12 : Value} {F6 F11 F12 : Nat → Prop} (h : SlO w B s v6 v11 v12 F6 F11 F12) (D : Nat) (cs : Array Value) (hD : D < B) (hB : B' ≤ B) : ∃ F6 F11 F12, SlO (w.setRow D cs) B' s v6 v11 v12 F6 F11 F12 :=
 ⟨_, _, _, ⟨(h.t.cut.base hB).frame fun x hx _ => setRow_other _ _ _ _ (fun e => by have := hx.2.1; omega), (h.e.cut.base hB).frame fun x hx _ => setRow_other _ _ _ _ (fun e => by have := hx.2.1; omega), (h.z.cut.base hB).frame fun x hx _ => setRow_other _ _ _ _ (fun e => by have := hx.2.1; omega), fun x h1 h2 => h.d1 x h1.1 h2.1, fun x h1 h2 => h.d2 x h1.1 h2.1, fun x h1 h2 => h.d3 x h1.1 h2.1⟩⟩
theorem sPlace_any (id f : Int) (a : Option Addr) (n cap : Nat) (S : Nat → Sl) (root : ByteArray) (w : World) (h : Rd w (slsD n S) (.slice a n cap)) (hn : n ≤ 1048576) :
  Calls Tryz.prog 49 #[ndV id f (.slice a n cap), .string root] w fun e w' => e = .returned (.int .i64 (plN S root n : Nat)) ∧ Below w.heap.size w w' := by
 obtain ⟨A, HA⟩ : ∃ x, Hid (x = w.heap.size) := ⟨_, rfl⟩
 obtain ⟨w0, HW0⟩ : ∃ x, Hid (x = w.alloc (.cells #[.int .i64 id, .int .i64 f, .slice a n cap] 26)) := ⟨_, rfl⟩
 have RA : Hid (Row w0 A 26 #[.int .i64 id, .int .i64 f, .slice a n cap]) := by show Row _ _ _ _; rw [HW0.out, HA.out]; exact Row.new w _ _
 have hb0 : Below w.heap.size w w0 := by rw [HW0.out]; exact (Below.refl _ _).alloc (Nat.le_refl _) _
 have KB0 : Hid (Below w.heap.size w w0) := hb0
 have KH : Hid (Rd w0 (slsD n S) (.slice a n cap)) := h.below hb0
 have x2 := RA.out.cell 2
 simp at x2
 clear h hb0
 go_enter Tryz.func49, Tryz.ntmps49
 go_wp2_with fail
 rw [← HW0.out, ← HA.out]
 go_loopw [5] (fun vi wr => ∃ k : Nat, k ≤ n ∧ vi = .int .i64 (k : Int) ∧ Hid (plF S root (n - k) k = plc S root n) ∧ Below w0.heap.size w0 wr) (fun vi _ => n - (intOf vi).toNat)
 case atStart => exact ⟨0, Nat.zero_le _, rfl, rfl, Below.refl _ _⟩
 case round =>
  obtain ⟨k, hk, rfl, HP, hbel⟩ := hrel
  replace x2 := (hbel.cell (p := ⟨A, 2, none⟩) RA.out.lt).trans x2
  have KBr : Hid (Below w.heap.size w wr ∧ Below w0.heap.size w0 wr) := ⟨below2 KB0.out hbel, hbel⟩
  by_cases hlt : k < n
  ·have hki : (k : Int) < (n : Int) := by omega
   obtain ⟨b1, f1, p6, p11, p12, q6, q11, q12, rfl, R1, _, _, _⟩ := slot_at (KH.out.below hbel) hlt
   have v0 : wr.cell? ⟨b1, f1 + k * 13, none⟩ = some (.string (S k).r) := by
    have := R1 0 (.string (S k).r) rfl
    simpa using this
   have e2 : n - k = (n - (k + 1)) + 1 := by omega
   have HP' := HP.out
   rw [e2] at HP'
   unfold plF at HP'
   clear R1 HP e2 hbel
   by_cases hr : (S k).r = root
   ·rw [if_pos hr] at HP'
    have HI : Hid (plN S root n = k) := by show _ = _; unfold plN; rw [← HP']
    rw [hr] at v0
    have hb := ba_beq root
    clear HP' hr
    go_wp2
    go_ret
    exact ⟨ret_int (by rw [HI.out]), KBr.out.1⟩
   ·rw [if_neg hr] at HP'
    have HP2 : Hid (plF S root (n - (k + 1)) (k + 1) = plc S root n) := HP'
    have hb := ba_ne hr
    clear HP' hr
    go_wp2
    go_roundw
    case rel => exact ⟨k + 1, by omega, by go_num, HP2, KBr.out.2⟩
    case measure => simp [intOf]; omega
  ·obtain rfl : k = n := by omega
   have HI : Hid (plN S root k = k) := by
    have := HP.out
    rw [Nat.sub_self] at this
    show _ = _
    unfold plN
    rw [← this]
    rfl
   go_wp2
   go_ret
   exact ⟨ret_int (by rw [HI.out]), KBr.out.1⟩
theorem slotOf_any (id f : Int) (a : Option Addr) (n cap : Nat) (S : Nat → Sl) (root : ByteArray) (w : World) (h : Rd w (slsD n S) (.slice a n cap)) (hn : n ≤ 1048576) (hs : ∀ i, i < n → SlK (S i)) :
  Calls Tryz.prog 15 #[ndV id f (.slice a n cap), .string root] w fun e w' => ∃ (a6 a11 a12 : Option Addr) (c6 c11 c12 : Nat) (F6 F11 F12 : Nat → Prop), e = .returned (.tuple #[slV (soS S root n) (.slice a6 (soS S root n).p.m c6) (.slice a11 (soS S root n).ze.length c11) (.slice a12 (soS S root n).zr.length c12), .bool (soB S root n)]) ∧ SlO w' w.heap.size (soS S root n) (.slice a6 (soS S root n).p.m c6) (.slice a11 (soS S root n).ze.length c11) (.slice a12 (soS S root n).zr.length c12) F6 F11 F12 ∧ Below w.heap.size w w' := by
 obtain ⟨A, HA⟩ : ∃ x, Hid (x = w.heap.size) := ⟨_, rfl⟩
 obtain ⟨D, HD⟩ : ∃ x, Hid (x = w.heap.size + 1) := ⟨_, rfl⟩
 obtain ⟨w0, HW0⟩ : ∃ x, Hid (x = (w.alloc (.cells #[.int .i64 id, .int .i64 f, .slice a n cap] 26)).alloc (.cells #[.string ⟨#[]⟩, .string ⟨#[]⟩, .int .i64 0, .int .i64 0, .int .i64 0, .string ⟨#[]⟩, .slice none 0 0, .bool false, .bool false, .bool false, .bool false, .slice none 0 0, .slice none 0 0] 42)) := ⟨_, rfl⟩
 have RA : Hid (Row w0 A 26 #[.int .i64 id, .int .i64 f, .slice a n cap]) := by show Row _ _ _ _; rw [HW0.out, HA.out]; exact Row.alloc (Row.new w _ _) _
 have RD : Hid (Row w0 D 42 #[.string ⟨#[]⟩, .string ⟨#[]⟩, .int .i64 0, .int .i64 0, .int .i64 0, .string ⟨#[]⟩, .slice none 0 0, .bool false, .bool false, .bool false, .bool false, .slice none 0 0, .slice none 0 0]) := by
  show Row _ _ _ _
  rw [HW0.out, HD.out]
  have := Row.new (w.alloc (.cells #[.int .i64 id, .int .i64 f, .slice a n cap] 26)) #[.string ⟨#[]⟩, .string ⟨#[]⟩, .int .i64 0, .int .i64 0, .int .i64 0, .string ⟨#[]⟩, .slice none 0 0, .bool false, .bool false, .bool false, .bool false, .slice none 0 0, .slice none 0 0] 42
  simpa using this
 have hb0 : Below w.heap.size w w0 := by rw [HW0.out]; exact ((Below.refl _ _).alloc (Nat.le_refl _) _).alloc (by simp) _
 have KB0 : Hid (Below w.heap.size w w0) := hb0
 have HL : Hid (w.heap.size ≤ D ∧ D < w0.heap.size) := ⟨by have := HD.out; omega, RD.out.lt⟩
 have KP : Hid _ := placeOf_any id f a n cap S root w0 (h.below hb0) hn
 have KH : Hid (Rd w0 (slsD n S) (.slice a n cap)) := h.below hb0
 have KN : Hid (∀ i, i < n → SlK (S i)) := hs
 clear h hb0 hs
 cases hp : plc S root n with
 | none =>
  have hpx : plX S root n = -1 := by unfold plX; rw [hp]
  rw [hpx] at KP
  have e1 : soS S root n = slZ := by unfold soS; rw [hp]
  have e2 : soB S root n = false := by unfold soB; rw [hp]; rfl
  rw [e1, e2]
  clear hp hpx e1 e2 KH KN
  go_enter Tryz.func15, Tryz.ntmps15
  go_wp2_with fail
  rw [← HW0.out, ← HD.out, ← HA.out]
  refine Calls.mono KP.out ?_
  rintro e w1 ⟨rfl, b1⟩
  have RA1 := RA.out.below b1 RA.out.lt
  have x2 := RA1.cell 2
  simp at x2
  have HD1 : Hid (Row w1 D 42 #[.string ⟨#[]⟩, .string ⟨#[]⟩, .int .i64 0, .int .i64 0, .int .i64 0, .string ⟨#[]⟩, .slice none 0 0, .bool false, .bool false, .bool false, .bool false, .slice none 0 0, .slice none 0 0]) := RD.out.below b1 RD.out.lt
  have KB1 : Hid (Below w.heap.size w w1) := below2 KB0.out b1
  obtain ⟨w7, HW7⟩ : ∃ x, Hid (x = w1.setRow D #[.string ⟨#[]⟩, .string ⟨#[]⟩, .int .i64 0, .int .i64 0, .int .i64 0, .string ⟨#[]⟩, .slice none 0 0, .bool false, .bool false, .bool false, .bool false, .slice none 0 0, .slice none 0 0]) := ⟨_, rfl⟩
  have ZR : Hid (Row w7 D 42 #[.string ⟨#[]⟩, .string ⟨#[]⟩, .int .i64 0, .int .i64 0, .int .i64 0, .string ⟨#[]⟩, .slice none 0 0, .bool false, .bool false, .bool false, .bool false, .slice none 0 0, .slice none 0 0]) := by show Row _ _ _ _; rw [HW7.out]; exact HD1.out.row
  have ZB : Hid (Below w.heap.size w w7) := by show Below _ _ _; rw [HW7.out]; exact belowSetRow KB1.out HL.out.1 _
  clear b1 RA1
  go_wp2_with (refine wpList_store_row (by rfl) 42 _ _ (by rfl) D #[.string ⟨#[]⟩, .string ⟨#[]⟩, .int .i64 0, .int .i64 0, .int .i64 0, .string ⟨#[]⟩, .slice none 0 0, .bool false, .bool false, .bool false, .bool false, .slice none 0 0, .slice none 0 0] (by rfl) (by rfl) 42 #[.string ⟨#[]⟩, .string ⟨#[]⟩, .int .i64 0, .int .i64 0, .int .i64 0, .string ⟨#[]⟩, .slice none 0 0, .bool false, .bool false, .bool false, .bool false, .slice none 0 0, .slice none 0 0] ?_ Tryz.infoSl rfl (by simp [Value.oneCell']) ?_; exact HD1.out; rw [← HW7.out])
  refine bodyPost_ret (v := .tuple #[slV slZ (.slice none 0 0) (.slice none 0 0) (.slice none 0 0), .bool false]) (by
   have p0 := ZR.out.cell 0
   have p1 := ZR.out.cell 1
   have p2 := ZR.out.cell 2
   have p3 := ZR.out.cell 3
   have p4 := ZR.out.cell 4
   have p5 := ZR.out.cell 5
   have p6 := ZR.out.cell 6
   have p7 := ZR.out.cell 7
   have p8 := ZR.out.cell 8
   have p9 := ZR.out.cell 9
   have p10 := ZR.out.cell 10
   have p11 := ZR.out.cell 11
   have p12 := ZR.out.cell 12
   simp at p0 p1 p2 p3 p4 p5 p6 p7 p8 p9 p10 p11 p12
   simp [results, Tryz.results15, go_sem, p0, p1, p2, p3, p4, p5, p6, p7, p8, p9, p10, p11, p12, slZ]
   try rfl) rfl ⟨none, none, none, 0, 0, 0, fun _ => False, fun _ => False, fun _ => False, rfl, ⟨Ow.nil _ _ _ _ _ _, Ow.nil _ _ _ _ _ _, Ow.nil _ _ _ _ _ _, fun _ h => h.elim, fun _ h => h.elim, fun _ h => h.elim⟩, ZB.out⟩
 | some x =>
  obtain ⟨_, hxn', _, _⟩ := plF_some hp
  have hxn : x < n := by omega
  clear hxn'
  have hpx : plX S root n = (x : Int) := by unfold plX; rw [hp]
  rw [hpx] at KP
  have hneg : ¬ ((x : Int) < 0) := by omega
  have hxi : (x : Int) < (n : Int) := by omega
  have e1 : soS S root n = S x := by unfold soS; rw [hp]
  have e2 : soB S root n = true := by unfold soB; rw [hp]; rfl
  rw [e1, e2]
  clear hp hpx e1 e2
  go_enter Tryz.func15, Tryz.ntmps15
  go_wp2_with fail
  rw [← HW0.out, ← HD.out, ← HA.out]
  refine Calls.mono KP.out ?_
  rintro e w1 ⟨rfl, b1⟩
  obtain ⟨q1, f1, p6, p11, p12, c6, c11, c12, rfl, R1, t6, t11, t12⟩ := slot_at (KH.out.below b1) hxn
  have R1 : Hid _ := R1
  have RA1 := RA.out.below b1 RA.out.lt
  have x2 := RA1.cell 2
  simp at x2
  have HD1 : Hid (Row w1 D 42 #[.string ⟨#[]⟩, .string ⟨#[]⟩, .int .i64 0, .int .i64 0, .int .i64 0, .string ⟨#[]⟩, .slice none 0 0, .bool false, .bool false, .bool false, .bool false, .slice none 0 0, .slice none 0 0]) := RD.out.below b1 RD.out.lt
  have KB1 : Hid (Below w.heap.size w w1) := below2 KB0.out b1
  have KC : Hid _ := copiedS_any (S x) p6 p11 p12 c6 c11 c12 w1 t6 t11 t12 (KN.out x hxn)
  have KSz : Hid (w0.heap.size ≤ w1.heap.size) := b1.size
  clear b1 RA1 t6 t11 t12
  go_wp2_with (refine wpList_load_mid (by rfl) 42 _ (by rfl) q1 (f1 + x * 13) (by rfl) (slL (S x) (.slice p6 (S x).p.m c6) (.slice p11 (S x).ze.length c11) (.slice p12 (S x).zr.length c12)) _ ?_ Tryz.underlying42 (by rfl) Tryz.infoSl ?_; exact R1.out)
  refine Calls.mono KC.out ?_
  rintro e w3 ⟨g6, e11, e12, h11, h12, F6, F11, F12, rfl, HS, b3⟩
  have HD3 : Hid (Row w3 D 42 #[.string ⟨#[]⟩, .string ⟨#[]⟩, .int .i64 0, .int .i64 0, .int .i64 0, .string ⟨#[]⟩, .slice none 0 0, .bool false, .bool false, .bool false, .bool false, .slice none 0 0, .slice none 0 0]) := HD1.out.below b3 HD1.out.lt
  have KB3 : Hid (Below w.heap.size w w3) := below2 KB1.out b3
  obtain ⟨w7, HW7⟩ : ∃ y, Hid (y = w3.setRow D (slC (S x) (.slice (some ⟨g6, 0, none⟩) (S x).p.m (S x).p.m) (.slice e11 (S x).ze.length h11) (.slice e12 (S x).zr.length h12))) := ⟨_, rfl⟩
  have ZR : Hid (Row w7 D 42 (slC (S x) (.slice (some ⟨g6, 0, none⟩) (S x).p.m (S x).p.m) (.slice e11 (S x).ze.length h11) (.slice e12 (S x).zr.length h12))) := by show Row _ _ _ _; rw [HW7.out]; exact HD3.out.row
  have ZB : Hid (Below w.heap.size w w7) := by show Below _ _ _; rw [HW7.out]; exact belowSetRow KB3.out HL.out.1 _
  have HSO : Hid (∃ F6 F11 F12, SlO w7 w.heap.size (S x) (.slice (some ⟨g6, 0, none⟩) (S x).p.m (S x).p.m) (.slice e11 (S x).ze.length h11) (.slice e12 (S x).zr.length h12) F6 F11 F12) := by
   rw [HW7.out]
   exact HS.setRow D _ (by have := KSz.out; have := HL.out.2; omega) KB1.out.size
  clear HS b3
  go_wp2_with (refine wpList_store_row (by rfl) 42 _ _ (by rfl) D (slC (S x) (.slice (some ⟨g6, 0, none⟩) (S x).p.m (S x).p.m) (.slice e11 (S x).ze.length h11) (.slice e12 (S x).zr.length h12)) (by rfl) (by rfl) 42 #[.string ⟨#[]⟩, .string ⟨#[]⟩, .int .i64 0, .int .i64 0, .int .i64 0, .string ⟨#[]⟩, .slice none 0 0, .bool false, .bool false, .bool false, .bool false, .slice none 0 0, .slice none 0 0] ?_ Tryz.infoSl rfl (by simp [Value.oneCell']) ?_; exact HD3.out; rw [← HW7.out])
  obtain ⟨F6', F11', F12', HS'⟩ := HSO.out
  refine bodyPost_ret (v := .tuple #[slV (S x) (.slice (some ⟨g6, 0, none⟩) (S x).p.m (S x).p.m) (.slice e11 (S x).ze.length h11) (.slice e12 (S x).zr.length h12), .bool true]) (by
   have p0 := ZR.out.cell 0
   have p1 := ZR.out.cell 1
   have p2 := ZR.out.cell 2
   have p3 := ZR.out.cell 3
   have p4 := ZR.out.cell 4
   have p5 := ZR.out.cell 5
   have p6 := ZR.out.cell 6
   have p7 := ZR.out.cell 7
   have p8 := ZR.out.cell 8
   have p9 := ZR.out.cell 9
   have p10 := ZR.out.cell 10
   have p11 := ZR.out.cell 11
   have p12 := ZR.out.cell 12
   simp at p0 p1 p2 p3 p4 p5 p6 p7 p8 p9 p10 p11 p12
   simp [results, Tryz.results15, go_sem, p0, p1, p2, p3, p4, p5, p6, p7, p8, p9, p10, p11, p12]) rfl ⟨some ⟨g6, 0, none⟩, e11, e12, (S x).p.m, h11, h12, F6', F11', F12', rfl, HS', ZB.out⟩
def HO3 (F6 F11 F12 : Nat → Prop) (q x : Nat) : Prop := (q = 6 ∧ F6 x) ∨ (q = 11 ∧ F11 x) ∨ (q = 12 ∧ F12 x)
theorem ow_slotO {w : World} {B : Nat} {s : Sl} {v6 v11 v12 : Value} {F6 F11 F12 : Nat → Prop} (h : SlO w B s v6 v11 v12 F6 F11 F12) (q : Nat) (hq : q < 13) : Ow w B (slD s q) ((slC s v6 v11 v12).toList.getD q undef) (HO3 F6 F11 F12 q) := by
 match q, hq with
 | 0, _ | 1, _ | 2, _ | 3, _ | 4, _ | 5, _ | 7, _ | 8, _ | 9, _ | 10, _ => rfl
 | 6, _ => exact Ow.mono h.t fun g hg => .inl ⟨rfl, hg⟩
 | 11, _ => exact Ow.mono h.e fun g hg => .inr (.inl ⟨rfl, hg⟩)
 | 12, _ => exact Ow.mono h.z fun g hg => .inr (.inr ⟨rfl, hg⟩)
theorem copiedN_any (id f : Int) (a : Option Addr) (n cap : Nat) (S : Nat → Sl) (w : World) (h : Rd w (slsD n S) (.slice a n cap)) (hn : n ≤ 1048576) (hs : ∀ i, i < n → SlK (S i)) :
  Calls Tryz.prog 45 #[ndV id f (.slice a n cap)] w fun e w' => ∃ g, e = .returned (ndV id f (.slice (some ⟨g, 0, none⟩) n n)) ∧ Ow w' w.heap.size (slsD n S) (.slice (some ⟨g, 0, none⟩) n n) (rng w.heap.size w'.heap.size) ∧ Below w.heap.size w w' := by
 obtain ⟨i0, hi, hz0, hz1, hz2⟩ := info_parts Tryz.infoSlZ
 obtain ⟨A, HA⟩ : ∃ x, Hid (x = w.heap.size) := ⟨_, rfl⟩
 obtain ⟨D, HD⟩ : ∃ x, Hid (x = w.heap.size + 1) := ⟨_, rfl⟩
 obtain ⟨w0, HW0⟩ : ∃ x, Hid (x = (w.alloc (.cells #[.int .i64 id, .int .i64 f, .slice a n cap] 26)).alloc (.cells #[.int .i64 0, .int .i64 0, .slice none 0 0] 26)) := ⟨_, rfl⟩
 have RA : Hid (Row w0 A 26 #[.int .i64 id, .int .i64 f, .slice a n cap]) := by show Row _ _ _ _; rw [HW0.out, HA.out]; exact Row.alloc (Row.new w _ _) _
 have RD : Hid (Row w0 D 26 #[.int .i64 0, .int .i64 0, .slice none 0 0]) := by
  show Row _ _ _ _
  rw [HW0.out, HD.out]
  have := Row.new (w.alloc (.cells #[.int .i64 id, .int .i64 f, .slice a n cap] 26)) #[.int .i64 0, .int .i64 0, .slice none 0 0] 26
  simpa using this
 have hb0 : Below w.heap.size w w0 := by rw [HW0.out]; exact ((Below.refl _ _).alloc (Nat.le_refl _) _).alloc (by simp) _
 have KB0 : Hid (Below w.heap.size w w0) := hb0
 have HL : Hid (A ≠ D ∧ w.heap.size ≤ A ∧ w.heap.size ≤ D ∧ A < w0.heap.size ∧ D < w0.heap.size) := ⟨by have := HA.out; have := HD.out; omega, by have := HA.out; omega, by have := HD.out; omega, RA.out.lt, RD.out.lt⟩
 have KH : Hid (Rd w0 (slsD n S) (.slice a n cap)) := h.below hb0
 have HS : Hid (∀ i, i < n → SlK (S i)) := hs
 obtain ⟨g, HG⟩ : ∃ x, Hid (x = w0.heap.size) := ⟨_, rfl⟩
 have x2 := RA.out.cell 2
 simp at x2
 clear h hb0 hs
 go_enter Tryz.func45, Tryz.ntmps45
 go_wp2_with (at_make; rw [← HW0.out, ← HD.out, ← HA.out]; refine wpList_make_full _ rfl _ _ 24 rfl w0.heap.size 42 i0 (.agg zcS.toArray) 13 Tryz.underlying24 hi hz0 hz1 .i64 .i64 _ _ n rfl rfl rfl rfl (by rw [hz2]; omega) (by unfold maxLen; omega) (Nat.le_refl _) ?_; intro w1 hown hgrow; have hb1 : Below w0.heap.size w0 w1 := (Below.refl _ _).grown hgrow (Nat.le_refl _) (by simp); have y2 := (hb1.cell (p := ⟨A, 2, none⟩) RA.out.lt).trans x2)
 have ho1 : Ow w1 w0.heap.size (.lst 42 13 n (fun i => if i < 0 then slD (S i) else slD slZ)) (.slice (some ⟨g, 0, none⟩) n n) (rng w0.heap.size w1.heap.size) := by
  have e : (madeCells (Value.agg zcS.toArray).cells (n * 13)).toList = cL 13 (fun _ q => zcS.getD q undef) n := made_cL (zs := zcS) (by simp [zcS])
  rw [e] at hown
  rw [HG.out]
  have := ow_made (F := rng w0.heap.size w1.heap.size) hown (fun q hq => ow_slZ w1 w0.heap.size q hq) ⟨Nat.le_refl _, (World.ownsRow.lt hown _ rfl).2⟩
  exact this.congr (fun i q _ _ => by simp)
 rw [← HG.out]
 have KO1 : Hid (Ow w1 w0.heap.size (.lst 42 13 n (fun i => if i < 0 then slD (S i) else slD slZ)) (.slice (some ⟨g, 0, none⟩) n n) (rng w0.heap.size w1.heap.size)) := ho1
 have HBg : Hid (w0.heap.size ≤ g) := by show _ ≤ _; rw [HG.out]; exact Nat.le_refl _
 clear hown hgrow ho1
 go_loopw [13] (fun vi wr => ∃ k : Nat, k ≤ n ∧ vi = .int .i64 (k : Int) ∧ Hid (Ow wr w0.heap.size (.lst 42 13 n (fun i => if i < k then slD (S i) else slD slZ)) (.slice (some ⟨g, 0, none⟩) n n) (rng w0.heap.size wr.heap.size)) ∧ Below w0.heap.size w0 wr) (fun vi _ => n - (intOf vi).toNat)
 case atStart => exact ⟨0, Nat.zero_le _, rfl, KO1, hb1⟩
 case round =>
  obtain ⟨k, hk, rfl, HO, hbel⟩ := hrel
  clear KO1 hb1 y2 x2
  by_cases hlt : k < n
  ·have hki : (k : Int) < (n : Int) := by omega
   obtain ⟨b1, f1, p6, p11, p12, q6, q11, q12, rfl, R1', t6, t11, t12⟩ := slot_at (KH.out.below hbel) hlt
   have R1 : Hid (wr.rangeAt b1 (f1 + k * 13) (slL (S k) (.slice p6 (S k).p.m q6) (.slice p11 (S k).ze.length q11) (.slice p12 (S k).zr.length q12))) := R1'
   obtain ⟨B2, HB2⟩ : ∃ x, Hid (x = wr.heap.size) := ⟨_, rfl⟩
   obtain ⟨w2, HW2⟩ : ∃ x, Hid (x = wr.alloc (.cells (slC (S k) (.slice p6 (S k).p.m q6) (.slice p11 (S k).ze.length q11) (.slice p12 (S k).zr.length q12)) 42)) := ⟨_, rfl⟩
   have b2 : Below wr.heap.size wr w2 := by rw [HW2.out]; exact (Below.refl _ _).alloc (Nat.le_refl _) _
   have R2 : Hid (Row w2 B2 42 (slC (S k) (.slice p6 (S k).p.m q6) (.slice p11 (S k).ze.length q11) (.slice p12 (S k).zr.length q12))) := by show Row _ _ _ _; rw [HW2.out, HB2.out]; exact Row.new wr _ _
   have KC : Hid _ := copiedS_any (S k) p6 p11 p12 q6 q11 q12 w2 (t6.below b2) (t11.below b2) (t12.below b2) (HS.out k hlt)
   have KO2 : Hid (Ow w2 w0.heap.size (.lst 42 13 n (fun i => if i < k then slD (S i) else slD slZ)) (.slice (some ⟨g, 0, none⟩) n n) (rng w0.heap.size wr.heap.size) ∧ Below w0.heap.size w0 w2 ∧ wr.heap.size ≤ w2.heap.size) := ⟨HO.out.below b2, below2 hbel b2, b2.size⟩
   clear R1' t6 t11 t12 b2 hbel HO
   go_wp2_with (first | (refine wpList_load_mid (by rfl) 42 _ (by rfl) b1 (f1 + k * 13) (by rfl) (slL (S k) (.slice p6 (S k).p.m q6) (.slice p11 (S k).ze.length q11) (.slice p12 (S k).zr.length q12)) _ ?_ Tryz.underlying42 (by rfl) Tryz.infoSl ?_; exact R1.out) | (rw [← HW2.out, ← HB2.out]; refine wpList_load_row (by rfl) 42 _ (by rfl) B2 (by rfl) 42 (slC (S k) (.slice p6 (S k).p.m q6) (.slice p11 (S k).ze.length q11) (.slice p12 (S k).zr.length q12)) (0, 0) _ ?_ Tryz.underlying42 (by rfl) Tryz.infoSl ?_; exact R2.out))
   refine Calls.mono KC.out ?_
   rintro e w3 ⟨g6, e11, e12, h11, h12, F6', F11', F12', rfl, SO', b3⟩
   obtain ⟨F6, F11, F12, SO, SC⟩ : ∃ H6 H11 H12, SlO w3 w2.heap.size (S k) (.slice (some ⟨g6, 0, none⟩) (S k).p.m (S k).p.m) (.slice e11 (S k).ze.length h11) (.slice e12 (S k).zr.length h12) H6 H11 H12 ∧ ∀ g, H6 g ∨ H11 g ∨ H12 g → w2.heap.size ≤ g ∧ g < w3.heap.size := ⟨_, _, _, ⟨SO'.t.cut, SO'.e.cut, SO'.z.cut, fun g h1 h2 => SO'.d1 g h1.1 h2.1, fun g h1 h2 => SO'.d2 g h1.1 h2.1, fun g h1 h2 => SO'.d3 g h1.1 h2.1⟩, fun g hg => by rcases hg with hg | hg | hg <;> exact hg.2⟩
   have O3 := KO2.out.1.below b3
   have TH : Hid (w3.there g (k * 13) 13) := by
    obtain ⟨a', cap', c', G', e', ho', _⟩ := O3
    cases e'
    intro j hj
    refine ⟨?_, World.ownsRow.frozenAt ho' _⟩
    rw [World.ownsRow.cellAt ho' _ (mid_lt hlt hj), cL_get _ _ _ _ _ hlt hj]
    rfl
   have hsz := KO2.out.2.1.size
   have hsz2 := KO2.out.2.2
   have hsz3 := b3.size
   have hin : ∀ q x, HO3 F6 F11 F12 q x → w2.heap.size ≤ x ∧ x < w3.heap.size := fun q x hx => by
    rcases hx with ⟨_, hx⟩ | ⟨_, hx⟩ | ⟨_, hx⟩
    ·exact SC x (.inl hx)
    ·exact SC x (.inr (.inl hx))
    ·exact SC x (.inr (.inr hx))
   obtain ⟨w4, HW4⟩ : ∃ x, Hid (x = w3.setCells g (k * 13) (slC (S k) (.slice (some ⟨g6, 0, none⟩) (S k).p.m (S k).p.m) (.slice e11 (S k).ze.length h11) (.slice e12 (S k).zr.length h12)).toList) := ⟨_, rfl⟩
   have HO4 : Hid (Ow w4 w0.heap.size (.lst 42 13 n (fun i => if i < k + 1 then slD (S i) else slD slZ)) (.slice (some ⟨g, 0, none⟩) n n) (rng w0.heap.size w4.heap.size)) := by
    rw [HW4.out]
    show Ow _ _ _ _ _
    rw [size_setCells]
    refine Ow.congr (Ow.store (d := slD (S k)) O3 hlt rfl (fun q hq => ow_slotO (B := w0.heap.size) ⟨SO.t.base hsz, SO.e.base hsz, SO.z.base hsz, SO.d1, SO.d2, SO.d3⟩ q hq) ?_ ?_ ?_ ?_) ?_
    ·intro q x _ hx hf
     have h2 := hf.2
     have h3 := (hin q x hx).1
     omega
    ·intro q q' x _ _ hx hx'
     rcases hx with ⟨e1, hx⟩ | ⟨e1, hx⟩ | ⟨e1, hx⟩ <;> rcases hx' with ⟨e2, hx'⟩ | ⟨e2, hx'⟩ | ⟨e2, hx'⟩
     ·omega
     ·exact absurd hx' (SO.d1 x hx)
     ·exact absurd hx' (SO.d2 x hx)
     ·exact absurd hx (SO.d1 x hx')
     ·omega
     ·exact absurd hx' (SO.d3 x hx)
     ·exact absurd hx (SO.d2 x hx')
     ·exact absurd hx (SO.d3 x hx')
     ·omega
    ·intro x hx
     exact ⟨hx.1, by have := hx.2; omega⟩
    ·intro q x _ hx
     have h3 := hin q x hx
     exact ⟨by omega, h3.2⟩
    ·intro i q _ _
     by_cases e : i = k
     ·subst e; simp
     ·by_cases e2 : i < k
      ·simp [e, e2, show i < k + 1 by omega]
      ·simp [e, e2, show ¬ i < k + 1 by omega]
   have KB4 : Hid (Below w0.heap.size w0 w4) := by show Below _ _ _; rw [HW4.out]; exact below_setCells (below2 KO2.out.2.1 b3) HBg.out _ _
   clear O3 b3 SO SO' SC hin hsz hsz2 hsz3 KC R1 R2 KO2
   go_wp2_with (refine wpList_store_mid (by rfl) 42 _ _ (by rfl) g (k * 13) (slC (S k) (.slice (some ⟨g6, 0, none⟩) (S k).p.m (S k).p.m) (.slice e11 (S k).ze.length h11) (.slice e12 (S k).zr.length h12)) (by rfl) (by rfl) ?_ Tryz.infoSl (by simp [Value.oneCell']) ?_; exact TH.out; rw [← HW4.out])
   go_roundw
   case rel => exact ⟨k + 1, by omega, by go_num, HO4, KB4.out⟩
   case measure => simp [intOf]; omega
  ·obtain rfl : k = n := by omega
   have RAr := RA.out.below hbel RA.out.lt
   have RDr := RD.out.below hbel RD.out.lt
   have y2 := RAr.cell 2
   have f2 := RAr.free 2
   simp at y2
   obtain ⟨w3, HW3⟩ : ∃ x, Hid (x = wr.setCell ⟨A, 2, none⟩ (.slice (some ⟨g, 0, none⟩) k k)) := ⟨_, rfl⟩
   have J3 : Hid (Row w3 A 26 #[.int .i64 id, .int .i64 f, .slice (some ⟨g, 0, none⟩) k k] ∧ Row w3 D 26 #[.int .i64 0, .int .i64 0, .slice none 0 0] ∧ Ow w3 w0.heap.size (slsD k S) (.slice (some ⟨g, 0, none⟩) k k) (rng w0.heap.size wr.heap.size) ∧ Below w.heap.size w w3) := by
    rw [HW3.out]
    refine ⟨RAr.set 2 _, RDr.other 2 _ (Ne.symm HL.out.1), ?_, (below2 KB0.out hbel).setCell HL.out.2.1 _⟩
    have : Ow wr w0.heap.size (slsD k S) (.slice (some ⟨g, 0, none⟩) k k) (rng w0.heap.size wr.heap.size) := HO.out.congr (fun i q hi _ => by simp [hi])
    exact this.far 2 _ (fun hk => by have := hk.1; have := HL.out.2.2.2.1; omega)
   have S3 : w3.heap.size = wr.heap.size := by rw [HW3.out]; simp
   obtain ⟨w7, HW7⟩ : ∃ x, Hid (x = w3.setRow D #[.int .i64 id, .int .i64 f, .slice (some ⟨g, 0, none⟩) k k]) := ⟨_, rfl⟩
   have S7 : w7.heap.size = w3.heap.size := by rw [HW7.out]; simp [World.setRow]
   have ZR : Hid (Row w7 D 26 #[.int .i64 id, .int .i64 f, .slice (some ⟨g, 0, none⟩) k k]) := by show Row _ _ _ _; rw [HW7.out]; exact J3.out.2.1.row
   have ZB : Hid (Below w.heap.size w w7) := by show Below _ _ _; rw [HW7.out]; exact belowSetRow J3.out.2.2.2 HL.out.2.2.1 _
   have ZO : Hid (Ow w7 w.heap.size (slsD k S) (.slice (some ⟨g, 0, none⟩) k k) (rng w.heap.size w7.heap.size)) := by
    show Ow _ _ _ _ _
    rw [S7, S3]
    have hw0 := KB0.out.size
    have h1 : Ow w7 w0.heap.size (slsD k S) (.slice (some ⟨g, 0, none⟩) k k) (rng w0.heap.size wr.heap.size) := by
     rw [HW7.out]
     exact J3.out.2.2.1.frame fun x hx _ => setRow_other _ _ _ _ (fun e => by have := hx.1; have := HL.out.2.2.2.2; omega)
    exact (h1.base hw0).mono (fun x hx => ⟨by have := hx.1; omega, hx.2⟩)
   clear RAr RDr hbel S3 S7
   go_wp2_with (first | (rw [← HW3.out]; refine wpList_load_row (by rfl) 26 _ (by rfl) A (by rfl) 26 #[.int .i64 id, .int .i64 f, .slice (some ⟨g, 0, none⟩) k k] (0, 0) _ ?_ Tryz.underlying26 (by rfl) Tryz.infoNd ?_; exact J3.out.1; clear y2 f2) | (refine wpList_store_row (by rfl) 26 _ _ (by rfl) D #[.int .i64 id, .int .i64 f, .slice (some ⟨g, 0, none⟩) k k] (by rfl) (by rfl) 26 #[.int .i64 0, .int .i64 0, .slice none 0 0] ?_ Tryz.infoNd rfl (by simp [Value.oneCell']) ?_; exact J3.out.2.1; rw [← HW7.out]))
   exact bodyPost_ret (v := ndV id f (.slice (some ⟨g, 0, none⟩) k k)) (results_cell_row Tryz.results45 _ _ D 26 _ (0, 0) _ (by rfl) ZR.out Tryz.underlying26 (by rfl) Tryz.infoNd) rfl ⟨g, rfl, ZO.out, ZB.out⟩
def MindP (id f : Int) (n : Nat) (S : Nat → Sl) (y : Sy) : Prop := y.t = id ∧ (y.f = -1 ∨ (0 ≤ y.f ∧ y.f < 3 * f + 1)) ∧ (0 ≤ y.k ∧ y.k ≤ 2) ∧ y.r.size = 16 ∧ (n < 40 ∨ 0 ≤ plX S y.r n)
noncomputable def mindB (id f : Int) (n : Nat) (S : Nat → Sl) (y : Sy) : Bool := @decide (MindP id f n S y) (Classical.propDecidable _)
theorem mindB_yes {id f : Int} {n : Nat} {S : Nat → Sl} {y : Sy} (h : MindP id f n S y) : mindB id f n S y = true := by unfold mindB; exact @decide_eq_true _ (Classical.propDecidable _) h
theorem mindB_no {id f : Int} {n : Nat} {S : Nat → Sl} {y : Sy} (h : ¬ MindP id f n S y) : mindB id f n S y = false := by unfold mindB; exact @decide_eq_false _ (Classical.propDecidable _) h
theorem minds_any (id f : Int) (a : Option Addr) (n cap : Nat) (S : Nat → Sl) (y : Sy) (a9 : Option Addr) (m9 c9 : Nat) (w : World) (h : Rd w (slsD n S) (.slice a n cap)) (hn : n ≤ 1048576) (hf : 1 ≤ f ∧ f ≤ 3) :
  Calls Tryz.prog 46 #[ndV id f (.slice a n cap), syV y (.slice a9 m9 c9)] w fun e w' => e = .returned (.bool (mindB id f n S y)) ∧ Below w.heap.size w w' := by
 obtain ⟨A, HA⟩ : ∃ x, Hid (x = w.heap.size) := ⟨_, rfl⟩
 obtain ⟨w0, HW0⟩ : ∃ x, Hid (x = (w.alloc (.cells #[.int .i64 id, .int .i64 f, .slice a n cap] 26)).alloc (.cells (syC y (.slice a9 m9 c9)) 31)) := ⟨_, rfl⟩
 obtain ⟨C, HC⟩ : ∃ x, Hid (x = w.heap.size + 1) := ⟨_, rfl⟩
 have RA : Hid (Row w0 A 26 #[.int .i64 id, .int .i64 f, .slice a n cap]) := by show Row _ _ _ _; rw [HW0.out, HA.out]; exact Row.alloc (Row.new w _ _) _
 have RC : Hid (Row w0 C 31 (syC y (.slice a9 m9 c9))) := by
  show Row _ _ _ _
  rw [HW0.out, HC.out]
  have := Row.new (w.alloc (.cells #[.int .i64 id, .int .i64 f, .slice a n cap] 26)) (syC y (.slice a9 m9 c9)) 31
  simpa using this
 have hb0 : Below w.heap.size w w0 := by rw [HW0.out]; exact ((Below.refl _ _).alloc (Nat.le_refl _) _).alloc (by simp) _
 have KB0 : Hid (Below w.heap.size w w0) := hb0
 have KK : Hid (∀ W, Calls Tryz.prog 107 #[ndV id f (.slice a n cap), .int .i64 y.f] W fun e w' => e = .returned (.bool (decide (0 ≤ y.f ∧ y.f < 3 * f + 1))) ∧ Below W.heap.size W w') := fun W => knows_any id f y.f _ W hf
 have KP : Hid (∀ W, Below w0.heap.size w0 W → Calls Tryz.prog 58 #[ndV id f (.slice a n cap), .string y.r] W fun e w' => e = .returned (.int .i64 (plX S y.r n)) ∧ Below W.heap.size W w') := fun W hW => placeOf_any id f a n cap S y.r W ((h.below hb0).below hW) hn
 clear h hb0
 by_cases h1 : y.t = id
 case neg =>
  have HR : Hid (mindB id f n S y = false) := mindB_no (fun k => h1 k.1)
  have h1' : (y.t != id) = true := by simpa using h1
  have x0 := RA.out.cell 0
  have x2 := RC.out.cell 2
  simp at x0 x2
  go_enter Tryz.func46, Tryz.ntmps46
  go_wp2_with fail
  rw [← HW0.out]
  go_ret
  exact ⟨by rw [HR.out]; rfl, KB0.out⟩
 obtain ⟨kb, HKB⟩ : ∃ x, Hid (decide (0 ≤ y.f ∧ y.f < 3 * f + 1) = x) := ⟨_, rfl⟩
 rw [HKB.out] at KK
 have h1' : (y.t != id) = false := by simpa using h1
 have c0 := RA.out.cell 0
 have c1 := RA.out.cell 1
 have c2 := RA.out.cell 2
 have d1 := RC.out.cell 1
 have d2 := RC.out.cell 2
 simp at c0 c1 c2 d1 d2
 have H1 : Hid (y.t = id) := h1
 by_cases h2 : y.f = -1
 ·have h2' : (y.f != -1) = false := by simpa using h2
  have HQ : Hid (y.f = -1 ∨ (0 ≤ y.f ∧ y.f < 3 * f + 1)) := .inl h2
  have KX : Hid (Below w0.heap.size w0 w0) := Below.refl _ _
  clear h2
  have RAx := RA.out.below KX.out RA.out.lt
  have RCx := RC.out.below KX.out RC.out.lt
  have x2 := RAx.cell 2
  have q0 := RCx.cell 0
  have q3 := RCx.cell 3
  have r0 := RAx.cell 0
  have r1 := RAx.cell 1
  simp at x2 q0 q3 r0 r1
  have HBX : Hid (Below w.heap.size w w0) := below2 KB0.out KX.out
  clear RAx RCx
  by_cases h3 : y.k < 0
  case pos =>
   have HR : Hid (mindB id f n S y = false) := mindB_no (fun k => by have := k.2.2.1; omega)
   go_enter Tryz.func46, Tryz.ntmps46
   go_upto_region 1 with fail
   rw [← HW0.out, ← HC.out, ← HA.out]
   go_wp2
   go_ret
   exact ⟨by rw [HR.out]; rfl, HBX.out⟩
  by_cases h4 : y.k > 2
  case pos =>
   have HR : Hid (mindB id f n S y = false) := mindB_no (fun k => by have := k.2.2.1; omega)
   go_enter Tryz.func46, Tryz.ntmps46
   go_upto_region 1 with fail
   rw [← HW0.out, ← HC.out, ← HA.out]
   go_wp2
   go_ret
   exact ⟨by rw [HR.out]; rfl, HBX.out⟩
  by_cases h5 : y.r.size = 16
  case neg =>
   have HR : Hid (mindB id f n S y = false) := mindB_no (fun k => h5 k.2.2.2.1)
   have h5' : ((y.r.size : Int) != 16) = true := by simp; omega
   go_enter Tryz.func46, Tryz.ntmps46
   go_upto_region 1 with fail
   rw [← HW0.out, ← HC.out, ← HA.out]
   go_wp2
   go_ret
   exact ⟨by rw [HR.out]; rfl, HBX.out⟩
  have h5' : ((y.r.size : Int) != 16) = false := by simp; omega
  have H5 : Hid (y.r.size = 16) := h5
  by_cases h6 : n < 40
  case pos =>
   have HR : Hid (mindB id f n S y = true) := mindB_yes ⟨h1, HQ.out, ⟨by omega, by omega⟩, h5, .inl h6⟩
   have h6' : (n : Int) < 40 := by omega
   clear h5 h6
   go_enter Tryz.func46, Tryz.ntmps46
   go_upto_region 1 with fail
   rw [← HW0.out, ← HC.out, ← HA.out]
   go_wp2
   go_ret
   exact ⟨by rw [HR.out]; rfl, HBX.out⟩
  have h6' : ¬ ((n : Int) < 40) := by omega
  have KPx : Hid _ := KP.out w0 KX.out
  obtain ⟨px, HPX⟩ : ∃ x, Hid (plX S y.r n = x) := ⟨_, rfl⟩
  rw [HPX.out] at KPx
  have HR : Hid (mindB id f n S y = decide (px ≥ 0)) := by
   show _ = _
   by_cases h7 : px ≥ 0
   ·rw [mindB_yes ⟨h1, HQ.out, ⟨by omega, by omega⟩, h5, .inr (by rw [HPX.out]; exact h7)⟩, decide_eq_true h7]
   ·rw [mindB_no (fun k => by rcases k.2.2.2.2 with k | k; exact h6 k; rw [HPX.out] at k; exact h7 k), decide_eq_false h7]
  clear h5 h6
  go_enter Tryz.func46, Tryz.ntmps46
  go_upto_region 1 with fail
  rw [← HW0.out, ← HC.out, ← HA.out]
  go_wp2_with fail
  refine Calls.mono KPx.out ?_
  rintro e wp ⟨rfl, bp⟩
  have HBP : Hid (Below w.heap.size w wp) := below2 HBX.out bp
  clear bp
  go_wp2
  go_ret
  exact ⟨by rw [HR.out]; first | rfl | (show Ending.returned (Value.bool (decide ((n : Int) < 40) || decide (0 ≤ px))) = _; rw [decide_eq_false (by omega)]; rfl), HBP.out⟩
 ·have h2' : (y.f != -1) = true := by simpa using h2
  cases kb with
  | false =>
   have HR : Hid (mindB id f n S y = false) := mindB_no (fun k => by
    rcases k.2.1 with k | k
    ·exact h2 k
    ·exact of_decide_eq_false HKB.out k)
   clear h2
   go_enter Tryz.func46, Tryz.ntmps46
   go_wp2_with fail
   rw [← HW0.out]
   refine Calls.mono (KK.out _) ?_
   rintro e w1 ⟨rfl, b1⟩
   go_wp2
   go_ret
   exact ⟨by rw [HR.out]; rfl, below2 KB0.out b1⟩
  | true =>
   have HQ : Hid (y.f = -1 ∨ (0 ≤ y.f ∧ y.f < 3 * f + 1)) := .inr (of_decide_eq_true HKB.out)
   clear h2
   go_enter Tryz.func46, Tryz.ntmps46
   go_wp2_with fail
   rw [← HW0.out, ← HC.out, ← HA.out]
   refine Calls.mono (KK.out _) ?_
   rintro e w1 ⟨rfl, b1⟩
   have KX : Hid (Below w0.heap.size w0 w1) := b1
   clear b1 c0 c1 c2 d1 d2
   have RAx := RA.out.below KX.out RA.out.lt
   have RCx := RC.out.below KX.out RC.out.lt
   have x2 := RAx.cell 2
   have q0 := RCx.cell 0
   have q3 := RCx.cell 3
   have r0 := RAx.cell 0
   have r1 := RAx.cell 1
   simp at x2 q0 q3 r0 r1
   have HBX : Hid (Below w.heap.size w w1) := below2 KB0.out KX.out
   clear RAx RCx
   by_cases h3 : y.k < 0
   case pos =>
    have HR : Hid (mindB id f n S y = false) := mindB_no (fun k => by have := k.2.2.1; omega)
    go_wp2
    go_ret
    exact ⟨by rw [HR.out]; rfl, HBX.out⟩
   by_cases h4 : y.k > 2
   case pos =>
    have HR : Hid (mindB id f n S y = false) := mindB_no (fun k => by have := k.2.2.1; omega)
    go_wp2
    go_ret
    exact ⟨by rw [HR.out]; rfl, HBX.out⟩
   by_cases h5 : y.r.size = 16
   case neg =>
    have HR : Hid (mindB id f n S y = false) := mindB_no (fun k => h5 k.2.2.2.1)
    have h5' : ((y.r.size : Int) != 16) = true := by simp; omega
    go_wp2
    go_ret
    exact ⟨by rw [HR.out]; rfl, HBX.out⟩
   have h5' : ((y.r.size : Int) != 16) = false := by simp; omega
   have H5 : Hid (y.r.size = 16) := h5
   by_cases h6 : n < 40
   case pos =>
    have HR : Hid (mindB id f n S y = true) := mindB_yes ⟨h1, HQ.out, ⟨by omega, by omega⟩, h5, .inl h6⟩
    have h6' : (n : Int) < 40 := by omega
    clear h5 h6
    go_wp2
    go_ret
    exact ⟨by rw [HR.out]; rfl, HBX.out⟩
   have h6' : ¬ ((n : Int) < 40) := by omega
   have KPx : Hid _ := KP.out w1 KX.out
   obtain ⟨px, HPX⟩ : ∃ x, Hid (plX S y.r n = x) := ⟨_, rfl⟩
   rw [HPX.out] at KPx
   have HR : Hid (mindB id f n S y = decide (px ≥ 0)) := by
    show _ = _
    by_cases h7 : px ≥ 0
    ·rw [mindB_yes ⟨h1, HQ.out, ⟨by omega, by omega⟩, h5, .inr (by rw [HPX.out]; exact h7)⟩, decide_eq_true h7]
    ·rw [mindB_no (fun k => by rcases k.2.2.2.2 with k | k; exact h6 k; rw [HPX.out] at k; exact h7 k), decide_eq_false h7]
   clear h5 h6
   go_wp2_with fail
   refine Calls.mono KPx.out ?_
   rintro e wp ⟨rfl, bp⟩
   have HBP : Hid (Below w.heap.size w wp) := below2 HBX.out bp
   clear bp
   go_wp2
   go_ret
   exact ⟨by rw [HR.out]; first | rfl | (show Ending.returned (Value.bool (decide ((n : Int) < 40) || decide (0 ≤ px))) = _; rw [decide_eq_false (by omega)]; rfl), HBP.out⟩
def slR (r : ByteArray) : Sl := ⟨r, ⟨ByteArray.empty, 0, 0, 0, ByteArray.empty, 0, fun _ => ByteArray.empty⟩, false, false, false, false, [], []⟩
abbrev slRC (r : ByteArray) : Array Value := #[.string r, .string ⟨#[]⟩, .int .i64 0, .int .i64 0, .int .i64 0, .string ⟨#[]⟩, .slice none 0 0, .bool false, .bool false, .bool false, .bool false, .slice none 0 0, .slice none 0 0]
def hrN (S : Nat → Sl) (r : ByteArray) (n : Nat) : Nat := if (plc S r n).isSome then n else n + 1
def slF (S : Nat → Sl) (r : ByteArray) (n i : Nat) : Sl := if i = n then slR r else S i
theorem ow_slR {W : World} {B : Nat} {r : ByteArray} (q : Nat) (hq : q < 13) : Ow W B (slD (slR r) q) ((slRC r).toList.getD q undef) (fun _ => False) := by
 match q, hq with
 | 0, _ | 1, _ | 2, _ | 3, _ | 4, _ | 5, _ | 7, _ | 8, _ | 9, _ | 10, _ => rfl
 | 6, _ | 11, _ | 12, _ => exact Ow.nil _ _ _ _ _ _
structure Nw (W : World) (B Nb : Nat) (id f : Int) (g n cap : Nat) (S : Nat → Sl) (F1 : Nat → Prop) : Prop where
 r : Row W Nb 26 #[.int .i64 id, .int .i64 f, .slice (some ⟨g, 0, none⟩) n cap]
 o : Ow W B (slsD n S) (.slice (some ⟨g, 0, none⟩) n cap) F1
 h1 : ¬ F1 Nb
 b : B ≤ Nb ∧ B ≤ W.heap.size
 l1 : ∀ x, F1 x → B ≤ x ∧ x < W.heap.size
theorem Nw.below {W W' : World} {B Nb : Nat} {id f : Int} {g n cap : Nat} {S : Nat → Sl} {F1 : Nat → Prop} (h : Nw W B Nb id f g n cap S F1) (hb : Below W.heap.size W W') : Nw W' B Nb id f g n cap S F1 :=
 ⟨h.r.below hb h.r.lt, h.o.below hb, h.h1, ⟨h.b.1, Nat.le_trans h.b.2 hb.size⟩, fun x hx => ⟨(h.l1 x hx).1, Nat.lt_of_lt_of_le (h.l1 x hx).2 hb.size⟩⟩
theorem slot_more {S : Nat → Sl} {n : Nat} {r : ByteArray} (i q : Nat) (_hi : i < n + 1) : (if i = n then slD (slR r) else slD (S i)) q = slD (slF S r n i) q := by
 unfold slF
 by_cases e : i = n
 ·rw [if_pos e, if_pos e]
 ·rw [if_neg e, if_neg e]
theorem step_slot {ops : Array Oper} {o : Oper} {a : Act} {K : Act → World → Prop} {Q : Exit → Act → World → Prop} {E : Prop} (w7 : World) (hgd : o.guard = none) (s x : Operand)
  (ho : o.op = .call { callee := .builtin .append, args := #[s, x], argTypes := #[24, 24] })
  (id f : Int) (B Nb g n cap : Nat) (S : Nat → Sl) (r : ByteArray) (F1 : Nat → Prop)
  (hs : a.eval s = .slice (some ⟨g, 0, none⟩) n cap) (hx : a.eval x = .slice (some ⟨w7.heap.size, 0, none⟩) 1 1)
  (h7 : Nw (w7.alloc (.cells (slRC r) 42)) B Nb id f g n cap S F1) (hm : n ≤ 2000000)
  (h : ∀ g8 c8 w8 F8, Row w8 Nb 26 #[.int .i64 id, .int .i64 f, .slice (some ⟨g, 0, none⟩) n cap] ∧ Nw (w8.setCell ⟨Nb, 2, none⟩ (.slice (some ⟨g8, 0, none⟩) (n + 1) c8)) B Nb id f g8 (n + 1) c8 (slF S r n) F8 ∧ Trn (w7.alloc (.cells (slRC r) 42)) (w8.setCell ⟨Nb, 2, none⟩ (.slice (some ⟨g8, 0, none⟩) (n + 1) c8)) (fun x => x = Nb ∨ F1 x) ∧ (∀ x, F8 x → F1 x ∨ w7.heap.size < x) → K (a.put o.dst (.slice (some ⟨g8, 0, none⟩) (n + 1) c8)) w8) :
  if Region.wanted o (yielded ops a.tmps) = true then Oper.wp Tryz.prog o a (w7.alloc (.cells (slRC r) 42)) K Q else E := by
 obtain ⟨i0, hi, hz0, hz1, hz2⟩ := info_parts Tryz.infoSlZ
 refine step_snoc _ hgd s x 24 ho B 42 i0 (.agg zcS.toArray) 13 _ Tryz.underlying24 hi hz0 hz1 hz2 rfl (by decide) (.slice (some ⟨g, 0, none⟩) n cap) n _ F1 hs h7.o ⟨w7.heap.size, 0, none⟩ 1 (slRC r).toList hx rfl (World.news_of_block (t := 42) (fr := (0, 0)) (Row.new w7 _ _)) (by simp [Value.oneCell']) (slD (slR r)) (fun _ _ => False) (fun q hq => ow_slR q hq) (fun _ _ _ h => h.elim) (fun _ _ _ _ _ h => h.elim) (by unfold maxLen; omega) (by omega) h7.b.2 fun g8 c8 w8 O8 b8 T8 => ?_
 have e : (w7.alloc (.cells (slRC r) 42)).heap.size = w7.heap.size + 1 := by simp
 have O9 : Ow w8 B (slsD (n + 1) (slF S r n)) (.slice (some ⟨g8, 0, none⟩) (n + 1) c8) (fun x => x < w8.heap.size ∧ (F1 x ∨ w7.heap.size < x)) := (O8.mono (fun x hx => ⟨hx.1, by
  rcases hx.2 with (h | ⟨_, _, h⟩) | h
  ·exact .inl h
  ·exact h.elim
  ·rw [e] at h
   exact .inr h⟩)).congr (fun i q hi _ => slot_more i q hi)
 have hr : Row w8 Nb 26 #[.int .i64 id, .int .i64 f, .slice (some ⟨g, 0, none⟩) n cap] := (T8.block Nb h7.r.lt h7.h1).trans h7.r
 have h8 : ¬ (Nb < w8.heap.size ∧ (F1 Nb ∨ w7.heap.size < Nb)) := fun k => by
  rcases k.2 with k | k
  ·exact h7.h1 k
  ·have := h7.r.lt; omega
 exact h g8 c8 w8 _ ⟨hr, ⟨hr.set 2 _, O9.far 2 _ h8, h8, ⟨h7.b.1, by simpa using Nat.le_trans h7.b.2 T8.size⟩, fun x k => ⟨by rcases k.2 with k | k; exact (h7.l1 x k).1; have := h7.b.2; omega, by simpa using k.1⟩⟩, (T8.mono (fun _ k => .inr k)).trans (Trn.set _ 2 _ (.inl rfl)), fun x hx => hx.2⟩
theorem slotFor_any (id f : Int) (B Nb g n cap : Nat) (S : Nat → Sl) (r : ByteArray) (F1 : Nat → Prop) (w : World) (h : Nw w B Nb id f g n cap S F1) (hn : n ≤ 1048576) (hr : r.size ≤ 1048576) :
  Calls Tryz.prog 111 #[.pointer (some ⟨Nb, 0, none⟩), .string r] w fun e w' => ∃ g' cap' F1', e = .returned (.pointer (some ⟨g', plN S r n * 13, none⟩)) ∧ Nw w' B Nb id f g' (hrN S r n) cap' (slF S r n) F1' ∧ Trn w w' (fun x => x = Nb ∨ F1 x) ∧ ∀ x, F1' x → F1 x ∨ w.heap.size ≤ x := by
 have KH : Hid (Nw w B Nb id f g n cap S F1) := h
 have KP : Hid _ := placeOf_any id f (some ⟨g, 0, none⟩) n cap S r w h.o.rd hn
 have KC : Hid (∀ W, Calls Tryz.prog 120 #[.string r] W fun e w' => e = .returned (.string r) ∧ Below W.heap.size W w') := fun W => clone_any r W hr
 have RN : Hid _ := h.r
 cases hp : plc S r n with
 | some x =>
  have ex : Hid (plX S r n = (x : Int) ∧ plN S r n = x ∧ hrN S r n = n) := ⟨by unfold plX; rw [hp], by unfold plN; rw [hp], by unfold hrN; rw [hp]; rfl⟩
  obtain ⟨_, hx, _, _⟩ := plF_some hp
  have hxn : x < n := by omega
  have hxi : (x : Int) < (n : Int) := by omega
  rw [ex.out.1] at KP
  rw [ex.out.2.1, ex.out.2.2]
  have nx : ¬ ((x : Int) < 0) := by omega
  clear h hp hx
  go_enter Tryz.func111, Tryz.ntmps111
  go_wp2_with (refine wpList_load_row (by rfl) 26 _ (by rfl) Nb (by rfl) 26 #[.int .i64 id, .int .i64 f, .slice (some ⟨g, 0, none⟩) n cap] (0, 0) _ ?_ Tryz.underlying26 (by rfl) Tryz.infoNd ?_; exact RN.out)
  refine Calls.mono KP.out ?_
  rintro e w1 ⟨rfl, b1⟩
  have K1 : Hid (Nw w1 B Nb id f g n cap S F1) := KH.out.below b1
  have y2 := K1.out.r.cell 2
  simp at y2
  have KZ : Hid (Nw w1 B Nb id f g n cap (slF S r n) F1 ∧ Trn w w1 (fun x => x = Nb ∨ F1 x) ∧ ∀ x, F1 x → F1 x ∨ w.heap.size ≤ x) := ⟨⟨K1.out.r, K1.out.o.congr (fun i q hi _ => by show _ = slD (slF S r n i) q; unfold slF; rw [if_neg (by omega)]), K1.out.h1, K1.out.b, K1.out.l1⟩, Trn.ofBelow _ b1, fun _ h => .inl h⟩
  clear b1
  go_wp2
  go_ret
  exact ⟨g, cap, F1, rfl, KZ.out⟩
 | none =>
  have ex : Hid (plX S r n = -1 ∧ plN S r n = n ∧ hrN S r n = n + 1) := ⟨by unfold plX; rw [hp], by unfold plN; rw [hp], by unfold hrN; rw [hp]; rfl⟩
  rw [ex.out.1] at KP
  rw [ex.out.2.1, ex.out.2.2]
  clear h hp
  go_enter Tryz.func111, Tryz.ntmps111
  go_wp2_with (refine wpList_load_row (by rfl) 26 _ (by rfl) Nb (by rfl) 26 #[.int .i64 id, .int .i64 f, .slice (some ⟨g, 0, none⟩) n cap] (0, 0) _ ?_ Tryz.underlying26 (by rfl) Tryz.infoNd ?_; exact RN.out)
  refine Calls.mono KP.out ?_
  rintro e w1 ⟨rfl, b1⟩
  have K1 : Hid (Nw w1 B Nb id f g n cap S F1 ∧ Below w.heap.size w w1) := ⟨KH.out.below b1, b1⟩
  have y2 := K1.out.1.r.cell 2
  have f2 := K1.out.1.r.free 2
  simp at y2
  clear b1
  have KNX : Hid (∀ w7, Below w1.heap.size w1 w7 → Nw (w7.alloc (.cells (slRC r) 42)) B Nb id f g n cap S F1 ∧ Below w1.heap.size w1 (w7.alloc (.cells (slRC r) 42)) ∧ Nb < w7.heap.size ∧ w7.cell? ⟨Nb, 2, none⟩ = some (.slice (some ⟨g, 0, none⟩) n cap)) := fun w7 b7 => by
   have b8 : Below w7.heap.size w7 (w7.alloc (.cells (slRC r) 42)) := (Below.refl _ _).alloc (Nat.le_refl _) _
   have q2 := (K1.out.1.below b7).r.cell 2
   simp at q2
   exact ⟨(K1.out.1.below b7).below b8, below2 b7 b8, (K1.out.1.below b7).r.lt, q2⟩
  go_upto_region 4 with fail
  go_region_law ((first | (guard_hyp K7; refine step_slot w7 (by rfl) _ _ (by rfl) id f B Nb g n cap S r F1 (by rfl) (by rfl) ?_ ?_ ?_; exact K7.out.1; omega; intro g8 c8 w8 F8 hK8; have K8 : Hid _ := hK8; have z2 := hK8.1.cell 2; have zf := hK8.1.free 2; simp at z2; clear hK8) | (go_simp; go_wp2_with (go_at_call 120; refine Calls.mono (KC.out _) ?_; rintro e w7 ⟨rfl, b7'⟩; have b7 := below_of_drew b7'; clear b7'; have K7 : Hid _ := KNX.out _ b7; have lt7 := K7.out.2.2.1; have p2 := K7.out.2.2.2; have q2 := K7.out.1.r.cell 2; simp at q2))))
  all_goals
   have KR : Hid (Nw (w8.setCell ⟨Nb, 2, none⟩ (.slice (some ⟨g8, 0, none⟩) (n + 1) c8)) B Nb id f g8 (n + 1) c8 (slF S r n) F8 ∧ Trn w (w8.setCell ⟨Nb, 2, none⟩ (.slice (some ⟨g8, 0, none⟩) (n + 1) c8)) (fun x => x = Nb ∨ F1 x) ∧ ∀ x, F8 x → F1 x ∨ w.heap.size ≤ x) := by
    obtain ⟨_, q, t, hF8⟩ := K8.out
    have hs7 := K7.out.2.1.size
    have hsw := K1.out.2.size
    have e : (w7.alloc (.cells (slRC r) 42)).heap.size = w7.heap.size + 1 := by simp
    refine ⟨q, ((Trn.ofBelow _ K1.out.2).trans (Trn.ofBelow _ K7.out.2.1)).trans t, fun x hx => ?_⟩
    rcases hF8 x hx with h | h
    ·exact .inl h
    ·exact .inr (by omega)
   obtain ⟨w9, HW9⟩ : ∃ x, Hid (x = w8.setCell ⟨Nb, 2, none⟩ (.slice (some ⟨g8, 0, none⟩) (n + 1) c8)) := ⟨_, rfl⟩
   rw [← HW9.out] at KR
   have y9 := KR.out.1.r.cell 2
   simp at y9
   have hi1 : (n : Int) < ((n + 1 : Nat) : Int) := by omega
   clear z2 zf
   go_upto_region 5 with fail
   rw [← HW9.out]
   go_wp2
   go_ret
   exact ⟨g8, c8, F8, rfl, KR.out⟩
section
variable {w W W' : World} {B E X G bx bg : Nat} {id f : Int} {a : Option Addr} {n c gx : Nat} {T TG TH : Sl} {v6 v11 v12 u6 u11 u12 : Value}
end
end Go.Proofs.YtcaejlalnjnifaaGreat
