/- The slot of a root, in the program and in the model. Conditions: lists and texts of at most 2^20. Written by a program. -/
import Derived.Test.YtjhbjfplgmcbpaaH36
import Derived.Test.YtjhbjfplgmcbpaaH24
namespace Go.Proofs.Ytjhbjfplgmcbpaa
set_option maxRecDepth 2000
open Go.ChangeShapes Go.WideShapes Go.ChangeAt Go.RowKit

def soS (S : Nat → Sl) (root : ByteArray) (n : Nat) : Sl := match plc S root n with
  | some x => S x
  | none => slZ
def soB (S : Nat → Sl) (root : ByteArray) (n : Nat) : Bool := (plc S root n).isSome
def plN (S : Nat → Sl) (root : ByteArray) (n : Nat) : Nat := match plc S root n with
  | some x => x
  | none => n
/-- A slot that is ours, behind a store into another block. -/
theorem SlO.setRow {w : World} {B B' : Nat} {s : Sl} {v6 v11 v12 : Value} {F6 F11 F12 : Nat → Prop} (h : SlO w B s v6 v11 v12 F6 F11 F12) (D : Nat) (cs : Array Value) (hD : D < B) (hB : B' ≤ B) : ∃ F6 F11 F12, SlO (w.setRow D cs) B' s v6 v11 v12 F6 F11 F12 :=
  ⟨_, _, _, ⟨(h.t.cut.base hB).frame fun x hx _ => setRow_other _ _ _ _ (fun e => by have := hx.2.1; omega), (h.e.cut.base hB).frame fun x hx _ => setRow_other _ _ _ _ (fun e => by have := hx.2.1; omega), (h.z.cut.base hB).frame fun x hx _ => setRow_other _ _ _ _ (fun e => by have := hx.2.1; omega), fun x h1 h2 => h.d1 x h1.1 h2.1, fun x h1 h2 => h.d2 x h1.1 h2.1, fun x h1 h2 => h.d3 x h1.1 h2.1⟩⟩
set_option maxHeartbeats 2000000 in
theorem sPlace_any (id f : Int) (a : Option Addr) (n cap : Nat) (S : Nat → Sl) (root : ByteArray) (w : World) (h : Rd w (slsD n S) (.slice a n cap)) (hn : n ≤ 1048576) :
    Calls Try.prog 52 #[ndV id f (.slice a n cap), .string root] w fun e w' => e = .returned (.int .i64 (plN S root n : Nat)) ∧ Below w.heap.size w w' := by
  obtain ⟨A, HA⟩ : ∃ x, Hid (x = w.heap.size) := ⟨_, rfl⟩
  obtain ⟨w0, HW0⟩ : ∃ x, Hid (x = w.alloc (.cells #[.int .i64 id, .int .i64 f, .slice a n cap] 46)) := ⟨_, rfl⟩
  have RA : Hid (Row w0 A 46 #[.int .i64 id, .int .i64 f, .slice a n cap]) := by show Row _ _ _ _; rw [HW0.out, HA.out]; exact Row.new w _ _
  have hb0 : Below w.heap.size w w0 := by rw [HW0.out]; exact (Below.refl _ _).alloc (Nat.le_refl _) _
  have KB0 : Hid (Below w.heap.size w w0) := hb0
  have KH : Hid (Rd w0 (slsD n S) (.slice a n cap)) := h.below hb0
  have x2 := RA.out.cell 2
  simp at x2
  clear h hb0
  go_enter Try.func52, Try.ntmps52
  go_wp2_with fail
  rw [← HW0.out, ← HA.out]
  go_loopw [5] (fun vi wr => ∃ k : Nat, k ≤ n ∧ vi = .int .i64 (k : Int) ∧ Hid (plF S root (n - k) k = plc S root n) ∧ Below w0.heap.size w0 wr) (fun vi _ => n - (intOf vi).toNat)
  case atStart => exact ⟨0, Nat.zero_le _, rfl, rfl, Below.refl _ _⟩
  case round =>
    obtain ⟨k, hk, rfl, HP, hbel⟩ := hrel
    replace x2 := (hbel.cell (p := ⟨A, 2, none⟩) RA.out.lt).trans x2
    have KBr : Hid (Below w.heap.size w wr ∧ Below w0.heap.size w0 wr) := ⟨below2 KB0.out hbel, hbel⟩
    by_cases hlt : k < n
    · have hki : (k : Int) < (n : Int) := by omega
      obtain ⟨b1, f1, p6, p11, p12, q6, q11, q12, rfl, R1, _, _, _⟩ := slot_at (KH.out.below hbel) hlt
      have v0 : wr.cell? ⟨b1, f1 + k * 13, none⟩ = some (.string (S k).r) := by
        have := R1 0 (.string (S k).r) rfl
        simpa using this
      have e2 : n - k = (n - (k + 1)) + 1 := by omega
      have HP' := HP.out
      rw [e2] at HP'
      unfold plF at HP'
      clear R1 HP e2 hbel
      by_cases hr : (S k).r = root
      · rw [if_pos hr] at HP'
        have HI : Hid (plN S root n = k) := by show _ = _; unfold plN; rw [← HP']
        rw [hr] at v0
        have hb := ba_beq root
        clear HP' hr
        go_wp2
        go_ret
        exact ⟨ret_int (by rw [HI.out]), KBr.out.1⟩
      · rw [if_neg hr] at HP'
        have HP2 : Hid (plF S root (n - (k + 1)) (k + 1) = plc S root n) := HP'
        have hb := ba_ne hr
        clear HP' hr
        go_wp2
        go_roundw
        case rel => exact ⟨k + 1, by omega, by go_num, HP2, KBr.out.2⟩
        case measure => simp [intOf]; omega
    · obtain rfl : k = n := by omega
      have HI : Hid (plN S root k = k) := by
        have := HP.out
        rw [Nat.sub_self] at this
        show _ = _
        unfold plN
        rw [← this]
        rfl
      go_wp2
      go_ret
      exact ⟨ret_int (by rw [HI.out]), KBr.out.1⟩
set_option maxHeartbeats 4000000 in
theorem slotOf_any (id f : Int) (a : Option Addr) (n cap : Nat) (S : Nat → Sl) (root : ByteArray) (w : World) (h : Rd w (slsD n S) (.slice a n cap)) (hn : n ≤ 1048576) (hs : ∀ i, i < n → SlK (S i)) :
    Calls Try.prog 35 #[ndV id f (.slice a n cap), .string root] w fun e w' => ∃ (a6 a11 a12 : Option Addr) (c6 c11 c12 : Nat) (F6 F11 F12 : Nat → Prop), e = .returned (.tuple #[slV (soS S root n) (.slice a6 (soS S root n).p.m c6) (.slice a11 (soS S root n).ze.length c11) (.slice a12 (soS S root n).zr.length c12), .bool (soB S root n)]) ∧ SlO w' w.heap.size (soS S root n) (.slice a6 (soS S root n).p.m c6) (.slice a11 (soS S root n).ze.length c11) (.slice a12 (soS S root n).zr.length c12) F6 F11 F12 ∧ Below w.heap.size w w' := by
  obtain ⟨A, HA⟩ : ∃ x, Hid (x = w.heap.size) := ⟨_, rfl⟩
  obtain ⟨D, HD⟩ : ∃ x, Hid (x = w.heap.size + 1) := ⟨_, rfl⟩
  obtain ⟨w0, HW0⟩ : ∃ x, Hid (x = (w.alloc (.cells #[.int .i64 id, .int .i64 f, .slice a n cap] 46)).alloc (.cells #[.string ⟨#[]⟩, .string ⟨#[]⟩, .int .i64 0, .int .i64 0, .int .i64 0, .string ⟨#[]⟩, .slice none 0 0, .bool false, .bool false, .bool false, .bool false, .slice none 0 0, .slice none 0 0] 60)) := ⟨_, rfl⟩
  have RA : Hid (Row w0 A 46 #[.int .i64 id, .int .i64 f, .slice a n cap]) := by show Row _ _ _ _; rw [HW0.out, HA.out]; exact Row.alloc (Row.new w _ _) _
  have RD : Hid (Row w0 D 60 #[.string ⟨#[]⟩, .string ⟨#[]⟩, .int .i64 0, .int .i64 0, .int .i64 0, .string ⟨#[]⟩, .slice none 0 0, .bool false, .bool false, .bool false, .bool false, .slice none 0 0, .slice none 0 0]) := by
    show Row _ _ _ _
    rw [HW0.out, HD.out]
    have := Row.new (w.alloc (.cells #[.int .i64 id, .int .i64 f, .slice a n cap] 46)) #[.string ⟨#[]⟩, .string ⟨#[]⟩, .int .i64 0, .int .i64 0, .int .i64 0, .string ⟨#[]⟩, .slice none 0 0, .bool false, .bool false, .bool false, .bool false, .slice none 0 0, .slice none 0 0] 60
    simpa using this
  have hb0 : Below w.heap.size w w0 := by rw [HW0.out]; exact ((Below.refl _ _).alloc (Nat.le_refl _) _).alloc (by simp) _
  have KB0 : Hid (Below w.heap.size w w0) := hb0
  have HL : Hid (w.heap.size ≤ D ∧ D < w0.heap.size) := ⟨by have := HD.out; omega, RD.out.lt⟩
  have KP : Hid _ := placeOf_any id f a n cap S root w0 (h.below hb0) hn
  have KH : Hid (Rd w0 (slsD n S) (.slice a n cap)) := h.below hb0
  have KN : Hid (∀ i, i < n → SlK (S i)) := hs
  clear h hb0 hs
  cases hp : plc S root n with
  | none =>
    have hpx : plX S root n = -1 := by unfold plX; rw [hp]
    rw [hpx] at KP
    have e1 : soS S root n = slZ := by unfold soS; rw [hp]
    have e2 : soB S root n = false := by unfold soB; rw [hp]; rfl
    rw [e1, e2]
    clear hp hpx e1 e2 KH KN
    go_enter Try.func35, Try.ntmps35
    go_wp2_with fail
    rw [← HW0.out, ← HD.out, ← HA.out]
    refine Calls.mono KP.out ?_
    rintro e w1 ⟨rfl, b1⟩
    have RA1 := RA.out.below b1 RA.out.lt
    have x2 := RA1.cell 2
    simp at x2
    have HD1 : Hid (Row w1 D 60 #[.string ⟨#[]⟩, .string ⟨#[]⟩, .int .i64 0, .int .i64 0, .int .i64 0, .string ⟨#[]⟩, .slice none 0 0, .bool false, .bool false, .bool false, .bool false, .slice none 0 0, .slice none 0 0]) := RD.out.below b1 RD.out.lt
    have KB1 : Hid (Below w.heap.size w w1) := below2 KB0.out b1
    obtain ⟨w7, HW7⟩ : ∃ x, Hid (x = w1.setRow D #[.string ⟨#[]⟩, .string ⟨#[]⟩, .int .i64 0, .int .i64 0, .int .i64 0, .string ⟨#[]⟩, .slice none 0 0, .bool false, .bool false, .bool false, .bool false, .slice none 0 0, .slice none 0 0]) := ⟨_, rfl⟩
    have ZR : Hid (Row w7 D 60 #[.string ⟨#[]⟩, .string ⟨#[]⟩, .int .i64 0, .int .i64 0, .int .i64 0, .string ⟨#[]⟩, .slice none 0 0, .bool false, .bool false, .bool false, .bool false, .slice none 0 0, .slice none 0 0]) := by show Row _ _ _ _; rw [HW7.out]; exact HD1.out.row
    have ZB : Hid (Below w.heap.size w w7) := by show Below _ _ _; rw [HW7.out]; exact belowSetRow KB1.out HL.out.1 _
    clear b1 RA1
    go_wp2_with (refine wpList_store_row (by rfl) 60 _ _ (by rfl) D #[.string ⟨#[]⟩, .string ⟨#[]⟩, .int .i64 0, .int .i64 0, .int .i64 0, .string ⟨#[]⟩, .slice none 0 0, .bool false, .bool false, .bool false, .bool false, .slice none 0 0, .slice none 0 0] (by rfl) (by rfl) 60 #[.string ⟨#[]⟩, .string ⟨#[]⟩, .int .i64 0, .int .i64 0, .int .i64 0, .string ⟨#[]⟩, .slice none 0 0, .bool false, .bool false, .bool false, .bool false, .slice none 0 0, .slice none 0 0] ?_ Try.infoSl rfl (by simp [Value.oneCell']) ?_; exact HD1.out; rw [← HW7.out])
    refine bodyPost_ret (v := .tuple #[slV slZ (.slice none 0 0) (.slice none 0 0) (.slice none 0 0), .bool false]) (by
      have p0 := ZR.out.cell 0
      have p1 := ZR.out.cell 1
      have p2 := ZR.out.cell 2
      have p3 := ZR.out.cell 3
      have p4 := ZR.out.cell 4
      have p5 := ZR.out.cell 5
      have p6 := ZR.out.cell 6
      have p7 := ZR.out.cell 7
      have p8 := ZR.out.cell 8
      have p9 := ZR.out.cell 9
      have p10 := ZR.out.cell 10
      have p11 := ZR.out.cell 11
      have p12 := ZR.out.cell 12
      simp at p0 p1 p2 p3 p4 p5 p6 p7 p8 p9 p10 p11 p12
      simp [results, Try.results35, go_sem, p0, p1, p2, p3, p4, p5, p6, p7, p8, p9, p10, p11, p12, slZ]
      try rfl) rfl ⟨none, none, none, 0, 0, 0, fun _ => False, fun _ => False, fun _ => False, rfl, ⟨Ow.nil _ _ _ _ _ _, Ow.nil _ _ _ _ _ _, Ow.nil _ _ _ _ _ _, fun _ h => h.elim, fun _ h => h.elim, fun _ h => h.elim⟩, ZB.out⟩
  | some x =>
    obtain ⟨_, hxn', _, _⟩ := plF_some hp
    have hxn : x < n := by omega
    clear hxn'
    have hpx : plX S root n = (x : Int) := by unfold plX; rw [hp]
    rw [hpx] at KP
    have hneg : ¬ ((x : Int) < 0) := by omega
    have hxi : (x : Int) < (n : Int) := by omega
    have e1 : soS S root n = S x := by unfold soS; rw [hp]
    have e2 : soB S root n = true := by unfold soB; rw [hp]; rfl
    rw [e1, e2]
    clear hp hpx e1 e2
    go_enter Try.func35, Try.ntmps35
    go_wp2_with fail
    rw [← HW0.out, ← HD.out, ← HA.out]
    refine Calls.mono KP.out ?_
    rintro e w1 ⟨rfl, b1⟩
    obtain ⟨q1, f1, p6, p11, p12, c6, c11, c12, rfl, R1, t6, t11, t12⟩ := slot_at (KH.out.below b1) hxn
    have R1 : Hid _ := R1
    have RA1 := RA.out.below b1 RA.out.lt
    have x2 := RA1.cell 2
    simp at x2
    have HD1 : Hid (Row w1 D 60 #[.string ⟨#[]⟩, .string ⟨#[]⟩, .int .i64 0, .int .i64 0, .int .i64 0, .string ⟨#[]⟩, .slice none 0 0, .bool false, .bool false, .bool false, .bool false, .slice none 0 0, .slice none 0 0]) := RD.out.below b1 RD.out.lt
    have KB1 : Hid (Below w.heap.size w w1) := below2 KB0.out b1
    have KC : Hid _ := copiedS_any (S x) p6 p11 p12 c6 c11 c12 w1 t6 t11 t12 (KN.out x hxn)
    have KSz : Hid (w0.heap.size ≤ w1.heap.size) := b1.size
    clear b1 RA1 t6 t11 t12
    go_wp2_with (refine wpList_load_mid (by rfl) 60 _ (by rfl) q1 (f1 + x * 13) (by rfl) (slL (S x) (.slice p6 (S x).p.m c6) (.slice p11 (S x).ze.length c11) (.slice p12 (S x).zr.length c12)) _ ?_ Try.underlying60 (by rfl) Try.infoSl ?_; exact R1.out)
    refine Calls.mono KC.out ?_
    rintro e w3 ⟨g6, e11, e12, h11, h12, F6, F11, F12, rfl, HS, b3⟩
    have HD3 : Hid (Row w3 D 60 #[.string ⟨#[]⟩, .string ⟨#[]⟩, .int .i64 0, .int .i64 0, .int .i64 0, .string ⟨#[]⟩, .slice none 0 0, .bool false, .bool false, .bool false, .bool false, .slice none 0 0, .slice none 0 0]) := HD1.out.below b3 HD1.out.lt
    have KB3 : Hid (Below w.heap.size w w3) := below2 KB1.out b3
    obtain ⟨w7, HW7⟩ : ∃ y, Hid (y = w3.setRow D (slC (S x) (.slice (some ⟨g6, 0, none⟩) (S x).p.m (S x).p.m) (.slice e11 (S x).ze.length h11) (.slice e12 (S x).zr.length h12))) := ⟨_, rfl⟩
    have ZR : Hid (Row w7 D 60 (slC (S x) (.slice (some ⟨g6, 0, none⟩) (S x).p.m (S x).p.m) (.slice e11 (S x).ze.length h11) (.slice e12 (S x).zr.length h12))) := by show Row _ _ _ _; rw [HW7.out]; exact HD3.out.row
    have ZB : Hid (Below w.heap.size w w7) := by show Below _ _ _; rw [HW7.out]; exact belowSetRow KB3.out HL.out.1 _
    have HSO : Hid (∃ F6 F11 F12, SlO w7 w.heap.size (S x) (.slice (some ⟨g6, 0, none⟩) (S x).p.m (S x).p.m) (.slice e11 (S x).ze.length h11) (.slice e12 (S x).zr.length h12) F6 F11 F12) := by
      rw [HW7.out]
      exact HS.setRow D _ (by have := KSz.out; have := HL.out.2; omega) KB1.out.size
    clear HS b3
    go_wp2_with (refine wpList_store_row (by rfl) 60 _ _ (by rfl) D (slC (S x) (.slice (some ⟨g6, 0, none⟩) (S x).p.m (S x).p.m) (.slice e11 (S x).ze.length h11) (.slice e12 (S x).zr.length h12)) (by rfl) (by rfl) 60 #[.string ⟨#[]⟩, .string ⟨#[]⟩, .int .i64 0, .int .i64 0, .int .i64 0, .string ⟨#[]⟩, .slice none 0 0, .bool false, .bool false, .bool false, .bool false, .slice none 0 0, .slice none 0 0] ?_ Try.infoSl rfl (by simp [Value.oneCell']) ?_; exact HD3.out; rw [← HW7.out])
    obtain ⟨F6', F11', F12', HS'⟩ := HSO.out
    refine bodyPost_ret (v := .tuple #[slV (S x) (.slice (some ⟨g6, 0, none⟩) (S x).p.m (S x).p.m) (.slice e11 (S x).ze.length h11) (.slice e12 (S x).zr.length h12), .bool true]) (by
      have p0 := ZR.out.cell 0
      have p1 := ZR.out.cell 1
      have p2 := ZR.out.cell 2
      have p3 := ZR.out.cell 3
      have p4 := ZR.out.cell 4
      have p5 := ZR.out.cell 5
      have p6 := ZR.out.cell 6
      have p7 := ZR.out.cell 7
      have p8 := ZR.out.cell 8
      have p9 := ZR.out.cell 9
      have p10 := ZR.out.cell 10
      have p11 := ZR.out.cell 11
      have p12 := ZR.out.cell 12
      simp at p0 p1 p2 p3 p4 p5 p6 p7 p8 p9 p10 p11 p12
      simp [results, Try.results35, go_sem, p0, p1, p2, p3, p4, p5, p6, p7, p8, p9, p10, p11, p12]) rfl ⟨some ⟨g6, 0, none⟩, e11, e12, (S x).p.m, h11, h12, F6', F11', F12', rfl, HS', ZB.out⟩
set_option maxHeartbeats 4000000 in
theorem sSlotOf_any (id f : Int) (a : Option Addr) (n cap : Nat) (S : Nat → Sl) (root : ByteArray) (w : World) (h : Rd w (slsD n S) (.slice a n cap)) (hn : n ≤ 1048576) (hs : ∀ i, i < n → SlS (S i)) :
    Calls Try.prog 32 #[ndV id f (.slice a n cap), .string root] w fun e w' => ∃ (a6 a11 a12 : Option Addr) (c6 c11 c12 : Nat) (F6 F11 F12 : Nat → Prop), e = .returned (.tuple #[slV (soS S root n) (.slice a6 (soS S root n).p.m c6) (.slice a11 (soS S root n).ze.length c11) (.slice a12 (soS S root n).zr.length c12), .bool (soB S root n)]) ∧ SlO w' w.heap.size (soS S root n) (.slice a6 (soS S root n).p.m c6) (.slice a11 (soS S root n).ze.length c11) (.slice a12 (soS S root n).zr.length c12) F6 F11 F12 ∧ Below w.heap.size w w' := by
  obtain ⟨A, HA⟩ : ∃ x, Hid (x = w.heap.size) := ⟨_, rfl⟩
  obtain ⟨D, HD⟩ : ∃ x, Hid (x = w.heap.size + 1) := ⟨_, rfl⟩
  obtain ⟨w0, HW0⟩ : ∃ x, Hid (x = (w.alloc (.cells #[.int .i64 id, .int .i64 f, .slice a n cap] 46)).alloc (.cells #[.string ⟨#[]⟩, .string ⟨#[]⟩, .int .i64 0, .int .i64 0, .int .i64 0, .string ⟨#[]⟩, .slice none 0 0, .bool false, .bool false, .bool false, .bool false, .slice none 0 0, .slice none 0 0] 60)) := ⟨_, rfl⟩
  have RA : Hid (Row w0 A 46 #[.int .i64 id, .int .i64 f, .slice a n cap]) := by show Row _ _ _ _; rw [HW0.out, HA.out]; exact Row.alloc (Row.new w _ _) _
  have RD : Hid (Row w0 D 60 #[.string ⟨#[]⟩, .string ⟨#[]⟩, .int .i64 0, .int .i64 0, .int .i64 0, .string ⟨#[]⟩, .slice none 0 0, .bool false, .bool false, .bool false, .bool false, .slice none 0 0, .slice none 0 0]) := by
    show Row _ _ _ _
    rw [HW0.out, HD.out]
    have := Row.new (w.alloc (.cells #[.int .i64 id, .int .i64 f, .slice a n cap] 46)) #[.string ⟨#[]⟩, .string ⟨#[]⟩, .int .i64 0, .int .i64 0, .int .i64 0, .string ⟨#[]⟩, .slice none 0 0, .bool false, .bool false, .bool false, .bool false, .slice none 0 0, .slice none 0 0] 60
    simpa using this
  have hb0 : Below w.heap.size w w0 := by rw [HW0.out]; exact ((Below.refl _ _).alloc (Nat.le_refl _) _).alloc (by simp) _
  have KB0 : Hid (Below w.heap.size w w0) := hb0
  have HL : Hid (w.heap.size ≤ D ∧ D < w0.heap.size) := ⟨by have := HD.out; omega, RD.out.lt⟩
  have KP : Hid _ := sPlace_any id f a n cap S root w0 (h.below hb0) hn
  have KH : Hid (Rd w0 (slsD n S) (.slice a n cap)) := h.below hb0
  have KN : Hid (∀ i, i < n → SlS (S i)) := hs
  clear h hb0 hs
  cases hp : plc S root n with
  | none =>
    have hpx : plN S root n = n := by unfold plN; rw [hp]
    rw [hpx] at KP
    have hnn : ((n : Int) == (n : Int)) = true := by simp
    have e1 : soS S root n = slZ := by unfold soS; rw [hp]
    have e2 : soB S root n = false := by unfold soB; rw [hp]; rfl
    rw [e1, e2]
    clear hp hpx e1 e2 KH KN
    go_enter Try.func32, Try.ntmps32
    go_wp2_with fail
    rw [← HW0.out, ← HD.out, ← HA.out]
    refine Calls.mono KP.out ?_
    rintro e w1 ⟨rfl, b1⟩
    have RA1 := RA.out.below b1 RA.out.lt
    have x2 := RA1.cell 2
    simp at x2
    have HD1 : Hid (Row w1 D 60 #[.string ⟨#[]⟩, .string ⟨#[]⟩, .int .i64 0, .int .i64 0, .int .i64 0, .string ⟨#[]⟩, .slice none 0 0, .bool false, .bool false, .bool false, .bool false, .slice none 0 0, .slice none 0 0]) := RD.out.below b1 RD.out.lt
    have KB1 : Hid (Below w.heap.size w w1) := below2 KB0.out b1
    obtain ⟨w7, HW7⟩ : ∃ x, Hid (x = w1.setRow D #[.string ⟨#[]⟩, .string ⟨#[]⟩, .int .i64 0, .int .i64 0, .int .i64 0, .string ⟨#[]⟩, .slice none 0 0, .bool false, .bool false, .bool false, .bool false, .slice none 0 0, .slice none 0 0]) := ⟨_, rfl⟩
    have ZR : Hid (Row w7 D 60 #[.string ⟨#[]⟩, .string ⟨#[]⟩, .int .i64 0, .int .i64 0, .int .i64 0, .string ⟨#[]⟩, .slice none 0 0, .bool false, .bool false, .bool false, .bool false, .slice none 0 0, .slice none 0 0]) := by show Row _ _ _ _; rw [HW7.out]; exact HD1.out.row
    have ZB : Hid (Below w.heap.size w w7) := by show Below _ _ _; rw [HW7.out]; exact belowSetRow KB1.out HL.out.1 _
    clear b1 RA1
    go_wp2_with (refine wpList_store_row (by rfl) 60 _ _ (by rfl) D #[.string ⟨#[]⟩, .string ⟨#[]⟩, .int .i64 0, .int .i64 0, .int .i64 0, .string ⟨#[]⟩, .slice none 0 0, .bool false, .bool false, .bool false, .bool false, .slice none 0 0, .slice none 0 0] (by rfl) (by rfl) 60 #[.string ⟨#[]⟩, .string ⟨#[]⟩, .int .i64 0, .int .i64 0, .int .i64 0, .string ⟨#[]⟩, .slice none 0 0, .bool false, .bool false, .bool false, .bool false, .slice none 0 0, .slice none 0 0] ?_ Try.infoSl rfl (by simp [Value.oneCell']) ?_; exact HD1.out; rw [← HW7.out])
    refine bodyPost_ret (v := .tuple #[slV slZ (.slice none 0 0) (.slice none 0 0) (.slice none 0 0), .bool false]) (by
      have p0 := ZR.out.cell 0
      have p1 := ZR.out.cell 1
      have p2 := ZR.out.cell 2
      have p3 := ZR.out.cell 3
      have p4 := ZR.out.cell 4
      have p5 := ZR.out.cell 5
      have p6 := ZR.out.cell 6
      have p7 := ZR.out.cell 7
      have p8 := ZR.out.cell 8
      have p9 := ZR.out.cell 9
      have p10 := ZR.out.cell 10
      have p11 := ZR.out.cell 11
      have p12 := ZR.out.cell 12
      simp at p0 p1 p2 p3 p4 p5 p6 p7 p8 p9 p10 p11 p12
      simp [results, Try.results32, go_sem, p0, p1, p2, p3, p4, p5, p6, p7, p8, p9, p10, p11, p12, slZ]
      try rfl) rfl ⟨none, none, none, 0, 0, 0, fun _ => False, fun _ => False, fun _ => False, rfl, ⟨Ow.nil _ _ _ _ _ _, Ow.nil _ _ _ _ _ _, Ow.nil _ _ _ _ _ _, fun _ h => h.elim, fun _ h => h.elim, fun _ h => h.elim⟩, ZB.out⟩
  | some x =>
    obtain ⟨_, hxn', _, _⟩ := plF_some hp
    have hxn : x < n := by omega
    clear hxn'
    have hpx : plN S root n = x := by unfold plN; rw [hp]
    rw [hpx] at KP
    have hneg : ((x : Int) == (n : Int)) = false := by simp; omega
    have hxi : (x : Int) < (n : Int) := by omega
    have e1 : soS S root n = S x := by unfold soS; rw [hp]
    have e2 : soB S root n = true := by unfold soB; rw [hp]; rfl
    rw [e1, e2]
    clear hp hpx e1 e2
    go_enter Try.func32, Try.ntmps32
    go_wp2_with fail
    rw [← HW0.out, ← HD.out, ← HA.out]
    refine Calls.mono KP.out ?_
    rintro e w1 ⟨rfl, b1⟩
    obtain ⟨q1, f1, p6, p11, p12, c6, c11, c12, rfl, R1, t6, t11, t12⟩ := slot_at (KH.out.below b1) hxn
    have R1 : Hid _ := R1
    have RA1 := RA.out.below b1 RA.out.lt
    have x2 := RA1.cell 2
    simp at x2
    have HD1 : Hid (Row w1 D 60 #[.string ⟨#[]⟩, .string ⟨#[]⟩, .int .i64 0, .int .i64 0, .int .i64 0, .string ⟨#[]⟩, .slice none 0 0, .bool false, .bool false, .bool false, .bool false, .slice none 0 0, .slice none 0 0]) := RD.out.below b1 RD.out.lt
    have KB1 : Hid (Below w.heap.size w w1) := below2 KB0.out b1
    have KC : Hid _ := sCopyS_any (S x) p6 p11 p12 c6 c11 c12 w1 t6 t11 t12 (KN.out x hxn)
    have KSz : Hid (w0.heap.size ≤ w1.heap.size) := b1.size
    clear b1 RA1 t6 t11 t12
    go_wp2_with (refine wpList_load_mid (by rfl) 60 _ (by rfl) q1 (f1 + x * 13) (by rfl) (slL (S x) (.slice p6 (S x).p.m c6) (.slice p11 (S x).ze.length c11) (.slice p12 (S x).zr.length c12)) _ ?_ Try.underlying60 (by rfl) Try.infoSl ?_; exact R1.out)
    refine Calls.mono KC.out ?_
    rintro e w3 ⟨g6, g11, g12, h6, h11, h12, F6, F11, F12, rfl, HS, b3⟩
    have HD3 : Hid (Row w3 D 60 #[.string ⟨#[]⟩, .string ⟨#[]⟩, .int .i64 0, .int .i64 0, .int .i64 0, .string ⟨#[]⟩, .slice none 0 0, .bool false, .bool false, .bool false, .bool false, .slice none 0 0, .slice none 0 0]) := HD1.out.below b3 HD1.out.lt
    have KB3 : Hid (Below w.heap.size w w3) := below2 KB1.out b3
    obtain ⟨w7, HW7⟩ : ∃ y, Hid (y = w3.setRow D (slC (S x) (.slice (some ⟨g6, 0, none⟩) (S x).p.m h6) (.slice (some ⟨g11, 0, none⟩) (S x).ze.length h11) (.slice (some ⟨g12, 0, none⟩) (S x).zr.length h12))) := ⟨_, rfl⟩
    have ZR : Hid (Row w7 D 60 (slC (S x) (.slice (some ⟨g6, 0, none⟩) (S x).p.m h6) (.slice (some ⟨g11, 0, none⟩) (S x).ze.length h11) (.slice (some ⟨g12, 0, none⟩) (S x).zr.length h12))) := by show Row _ _ _ _; rw [HW7.out]; exact HD3.out.row
    have ZB : Hid (Below w.heap.size w w7) := by show Below _ _ _; rw [HW7.out]; exact belowSetRow KB3.out HL.out.1 _
    have HSO : Hid (∃ F6 F11 F12, SlO w7 w.heap.size (S x) (.slice (some ⟨g6, 0, none⟩) (S x).p.m h6) (.slice (some ⟨g11, 0, none⟩) (S x).ze.length h11) (.slice (some ⟨g12, 0, none⟩) (S x).zr.length h12) F6 F11 F12) := by
      rw [HW7.out]
      exact HS.setRow D _ (by have := KSz.out; have := HL.out.2; omega) KB1.out.size
    clear HS b3
    go_wp2_with (refine wpList_store_row (by rfl) 60 _ _ (by rfl) D (slC (S x) (.slice (some ⟨g6, 0, none⟩) (S x).p.m h6) (.slice (some ⟨g11, 0, none⟩) (S x).ze.length h11) (.slice (some ⟨g12, 0, none⟩) (S x).zr.length h12)) (by rfl) (by rfl) 60 #[.string ⟨#[]⟩, .string ⟨#[]⟩, .int .i64 0, .int .i64 0, .int .i64 0, .string ⟨#[]⟩, .slice none 0 0, .bool false, .bool false, .bool false, .bool false, .slice none 0 0, .slice none 0 0] ?_ Try.infoSl rfl (by simp [Value.oneCell']) ?_; exact HD3.out; rw [← HW7.out])
    obtain ⟨F6', F11', F12', HS'⟩ := HSO.out
    refine bodyPost_ret (v := .tuple #[slV (S x) (.slice (some ⟨g6, 0, none⟩) (S x).p.m h6) (.slice (some ⟨g11, 0, none⟩) (S x).ze.length h11) (.slice (some ⟨g12, 0, none⟩) (S x).zr.length h12), .bool true]) (by
      have p0 := ZR.out.cell 0
      have p1 := ZR.out.cell 1
      have p2 := ZR.out.cell 2
      have p3 := ZR.out.cell 3
      have p4 := ZR.out.cell 4
      have p5 := ZR.out.cell 5
      have p6 := ZR.out.cell 6
      have p7 := ZR.out.cell 7
      have p8 := ZR.out.cell 8
      have p9 := ZR.out.cell 9
      have p10 := ZR.out.cell 10
      have p11 := ZR.out.cell 11
      have p12 := ZR.out.cell 12
      simp at p0 p1 p2 p3 p4 p5 p6 p7 p8 p9 p10 p11 p12
      simp [results, Try.results32, go_sem, p0, p1, p2, p3, p4, p5, p6, p7, p8, p9, p10, p11, p12]) rfl ⟨some ⟨g6, 0, none⟩, some ⟨g11, 0, none⟩, some ⟨g12, 0, none⟩, h6, h11, h12, F6', F11', F12', rfl, HS', ZB.out⟩
end Go.Proofs.Ytjhbjfplgmcbpaa
