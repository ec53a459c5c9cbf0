/- An archive's start, in the program and in the model. Conditions: a list of at most 2^20. -/
import Derived.Test.YtpomffkpjldloaaH42
import Derived.Test.YtpomffkpjldloaaH45
namespace Go.Proofs.Ytpomffkpjldloaa
set_option maxRecDepth 2000
open Go.ChangeShapes Go.WideShapes Go.ChangeAt Go.RowKit

theorem ints_setRow {W : World} {a : Option Addr} {n : Nat} {zs : List Int} {D : Nat} {cs : Array Value} (h : IntsAt W a n zs) (hb : ∀ x, a = some x → x.block ≠ D) : IntsAt (W.setRow D cs) a n zs := by
  refine ⟨h.1, fun i hi => ?_⟩
  obtain ⟨b, off, e, hc⟩ := h.2 i hi
  exact ⟨b, off, e, by rw [cell_setRow_other _ _ _ _ (show b ≠ D from hb _ e)]; exact hc⟩
theorem Ow.setRow {W : World} {B D : Nat} {d : Dt} {v : Value} {F : Nat → Prop} {cs : Array Value} (h : Ow W B d v F) (hD : D < B) : Ow (W.setRow D cs) B d v F :=
  (h.cut.frame fun x hx _ => setRow_other _ _ _ _ (fun e => by have := hx.2.1; omega)).mono fun _ hx => hx.1
abbrev arZ : Array Value := #[.int .i64 0, .slice none 0 0, .slice none 0 0, .slice none 0 0, .slice none 0 0, .slice none 0 0]
set_option maxHeartbeats 2000000 in
theorem sArcStart_any (f : Int) (a : Option Addr) (cap : Nat) (zs : List Int) (w : World) (h : IntsAt w a zs.length zs) (hn : zs.length ≤ 1048576) :
    Calls Try.prog 4 #[.int .i64 f, .slice a zs.length cap] w fun e w' => ∃ a1 c1 a2 c2, e = .returned (.tuple #[arV (nsF f zs) (.slice a1 (nsM f zs) c1) (.slice a2 (nsZ f zs).length c2) (.slice none 0 0) (.slice none 0 0) (.slice none 0 0), .bool (nsB f zs)]) ∧ Rd w' (ndsD (nsM f zs) (nd0 f)) (.slice a1 (nsM f zs) c1) ∧ IntsAt w' a2 (nsZ f zs).length (nsZ f zs) ∧ Below w.heap.size w w' := by
  obtain ⟨D, HD⟩ : ∃ x, Hid (x = w.heap.size) := ⟨_, rfl⟩
  obtain ⟨w0, HW0⟩ : ∃ x, Hid (x = w.alloc (.cells arZ 30)) := ⟨_, rfl⟩
  have RD : Hid (Row w0 D 30 arZ) := by show Row _ _ _ _; rw [HW0.out, HD.out]; exact Row.new w _ _
  have hb0 : Below w.heap.size w w0 := by rw [HW0.out]; exact (Below.refl _ _).alloc (Nat.le_refl _) _
  have KB0 : Hid (Below w.heap.size w w0) := hb0
  have HDw : Hid (w.heap.size ≤ D) := by show _ ≤ _; rw [HD.out]; exact Nat.le_refl _
  have KS : Hid _ := sNetStart_own f a cap zs w0 (h.below hb0) hn
  obtain ⟨n, HN⟩ : ∃ x, Hid (zs.length = x) := ⟨_, rfl⟩
  obtain ⟨fx, HFX⟩ : ∃ x, Hid (nsF f zs = x) := ⟨_, rfl⟩
  obtain ⟨mx, HMX⟩ : ∃ x, Hid (nsM f zs = x) := ⟨_, rfl⟩
  obtain ⟨zx, HZX⟩ : ∃ x, Hid (nsZ f zs = x) := ⟨_, rfl⟩
  obtain ⟨ok, HOK⟩ : ∃ x, Hid (nsB f zs = x) := ⟨_, rfl⟩
  have HNo : Hid (ok = false → fx = 0 ∧ mx = 0 ∧ zx = []) := by
    show _ → _
    intro hk
    rw [hk] at HOK
    have hb := HOK.out
    exact ⟨by rw [← HFX.out]; unfold nsF; rw [hb]; rfl, by rw [← HMX.out]; unfold nsM; rw [hb]; rfl, by rw [← HZX.out]; unfold nsZ; rw [hb]; rfl⟩
  rw [HFX.out, HMX.out, HZX.out, HOK.out, HN.out] at KS
  rw [HFX.out, HMX.out, HZX.out, HOK.out, HN.out]
  clear h hb0 HFX HMX HZX HOK hn
  cases ok with
  | false =>
    obtain ⟨e1, e2, e3⟩ := HNo.out rfl
    subst e1 e2 e3
    clear HNo
    go_enter Try.func4, Try.ntmps4
    go_wp2_with fail
    rw [← HW0.out, ← HD.out]
    refine Calls.mono KS.out ?_
    rintro e v2 ⟨a1, c1, a2, c2, rfl, _, _, _, b2⟩
    obtain ⟨v3, HV3⟩ : ∃ x, Hid (x = v2.alloc (.cells #[.int .i64 0, .slice a1 0 c1, .slice a2 0 c2, .slice none 0 0] 26)) := ⟨_, rfl⟩
    have b23 : Below v2.heap.size v2 v3 := by rw [HV3.out]; exact (Below.refl _ _).alloc (Nat.le_refl _) _
    have RD3 : Hid (Row v3 D 30 arZ) := (RD.out.below b2 RD.out.lt).below b23 (RD.out.below b2 RD.out.lt).lt
    obtain ⟨v4, HV4⟩ : ∃ x, Hid (x = v3.setRow D arZ) := ⟨_, rfl⟩
    have ZR : Hid (Row v4 D 30 arZ) := by show Row _ _ _ _; rw [HV4.out]; exact RD3.out.row
    have ZB : Hid (Below w.heap.size w v4) := by show Below _ _ _; rw [HV4.out]; exact belowSetRow (below2 KB0.out (below2 b2 b23)) HDw.out _
    clear b2 b23
    go_wp2_with ((try rw [← HV3.out]); refine wpList_store_row (by rfl) 30 _ _ (by rfl) D arZ (by rfl) (by rfl) 30 arZ ?_ Try.infoAr rfl (by simp [Value.oneCell']) ?_; exact RD3.out; rw [← HV4.out])
    refine bodyPost_ret (v := .tuple #[arV 0 (.slice none 0 0) (.slice none 0 0) (.slice none 0 0) (.slice none 0 0) (.slice none 0 0), .bool false]) (by
        have p0 := ZR.out.cell 0
        have p1 := ZR.out.cell 1
        have p2 := ZR.out.cell 2
        have p3 := ZR.out.cell 3
        have p4 := ZR.out.cell 4
        have p5 := ZR.out.cell 5
        simp at p0 p1 p2 p3 p4 p5
        simp [results, Try.results4, go_sem, p0, p1, p2, p3, p4, p5]) rfl ⟨none, 0, none, 0, rfl, Rd.nil _ _ _ _ _ _, ⟨rfl, fun i hi => absurd hi (Nat.not_lt_zero _)⟩, ZB.out⟩
  | true =>
    clear HNo
    go_enter Try.func4, Try.ntmps4
    go_wp2_with fail
    rw [← HW0.out, ← HD.out]
    refine Calls.mono KS.out ?_
    rintro e v2 ⟨a1, c1, a2, c2, rfl, r2, i2, hg2, b2⟩
    obtain ⟨E, HE⟩ : ∃ x, Hid (x = v2.heap.size) := ⟨_, rfl⟩
    obtain ⟨v3, HV3⟩ : ∃ x, Hid (x = v2.alloc (.cells #[.int .i64 fx, .slice a1 mx c1, .slice a2 zx.length c2, .slice none 0 0] 26)) := ⟨_, rfl⟩
    have b23 : Below v2.heap.size v2 v3 := by rw [HV3.out]; exact (Below.refl _ _).alloc (Nat.le_refl _) _
    have RE3 : Hid (Row v3 E 26 #[.int .i64 fx, .slice a1 mx c1, .slice a2 zx.length c2, .slice none 0 0]) := by show Row _ _ _ _; rw [HV3.out, HE.out]; exact Row.new v2 _ _
    have RD3 : Hid (Row v3 D 30 arZ) := (RD.out.below b2 RD.out.lt).below b23 (RD.out.below b2 RD.out.lt).lt
    obtain ⟨v4, HV4⟩ : ∃ x, Hid (x = v3.setRow D #[.int .i64 fx, .slice a1 mx c1, .slice a2 zx.length c2, .slice none 0 0, .slice none 0 0, .slice none 0 0]) := ⟨_, rfl⟩
    have ZR : Hid (Row v4 D 30 #[.int .i64 fx, .slice a1 mx c1, .slice a2 zx.length c2, .slice none 0 0, .slice none 0 0, .slice none 0 0]) := by show Row _ _ _ _; rw [HV4.out]; exact RD3.out.row
    have ZO : Hid (Rd v4 (ndsD mx (nd0 f)) (.slice a1 mx c1) ∧ IntsAt v4 a2 zx.length zx ∧ Below w.heap.size w v4) := by
      rw [HV4.out]
      have lD := RD.out.lt
      exact ⟨((r2.below b23).setRow lD).rd, ints_setRow (i2.below b23) (fun x e => by have := hg2 x e; omega), belowSetRow (below2 KB0.out (below2 b2 b23)) HDw.out _⟩
    clear b2 b23 r2 i2 hg2
    go_wp2_with (first | ((try rw [← HV3.out, ← HE.out]); refine wpList_load_row (by rfl) 26 _ (by rfl) E (by rfl) 26 #[.int .i64 fx, .slice a1 mx c1, .slice a2 zx.length c2, .slice none 0 0] (0, 0) _ ?_ Try.underlying26 (by rfl) Try.infoNt ?_; exact RE3.out) | (refine wpList_store_row (by rfl) 30 _ _ (by rfl) D #[.int .i64 fx, .slice a1 mx c1, .slice a2 zx.length c2, .slice none 0 0, .slice none 0 0, .slice none 0 0] (by rfl) (by rfl) 30 arZ ?_ Try.infoAr rfl (by simp [Value.oneCell']) ?_; exact RD3.out; rw [← HV4.out]))
    refine bodyPost_ret (v := .tuple #[arV fx (.slice a1 mx c1) (.slice a2 zx.length c2) (.slice none 0 0) (.slice none 0 0) (.slice none 0 0), .bool true]) (by
        have p0 := ZR.out.cell 0
        have p1 := ZR.out.cell 1
        have p2 := ZR.out.cell 2
        have p3 := ZR.out.cell 3
        have p4 := ZR.out.cell 4
        have p5 := ZR.out.cell 5
        simp at p0 p1 p2 p3 p4 p5
        simp [results, Try.results4, go_sem, p0, p1, p2, p3, p4, p5]) rfl ⟨a1, c1, a2, c2, rfl, ZO.out.1, ZO.out.2.1, ZO.out.2.2⟩
set_option maxHeartbeats 2000000 in
theorem arcStart_any (f : Int) (a : Option Addr) (cap : Nat) (zs : List Int) (w : World) (h : IntsAt w a zs.length zs) (hn : zs.length ≤ 1048576) :
    Calls Try.prog 6 #[.int .i64 f, .slice a zs.length cap] w fun e w' => ∃ a1 c1 a2 c2 a3 c3 a4 a5 F1 F2 F3, e = .returned (.tuple #[arV (nsF f zs) (.slice a1 (nsM f zs) c1) (.slice a2 (nsZ f zs).length c2) (.slice a3 0 c3) (.slice a4 0 0) (.slice a5 0 0), .bool (nsB f zs)]) ∧ NtO w' w.heap.size (nsM f zs) (nd0 f) (nsZ f zs) 0 (fun _ => syO) (.slice a1 (nsM f zs) c1) (.slice a2 (nsZ f zs).length c2) (.slice a3 0 c3) F1 F2 F3 ∧ Below w.heap.size w w' := by
  obtain ⟨D, HD⟩ : ∃ x, Hid (x = w.heap.size) := ⟨_, rfl⟩
  obtain ⟨w0, HW0⟩ : ∃ x, Hid (x = w.alloc (.cells arZ 30)) := ⟨_, rfl⟩
  have RD : Hid (Row w0 D 30 arZ) := by show Row _ _ _ _; rw [HW0.out, HD.out]; exact Row.new w _ _
  have hb0 : Below w.heap.size w w0 := by rw [HW0.out]; exact (Below.refl _ _).alloc (Nat.le_refl _) _
  have KB0 : Hid (Below w.heap.size w w0) := hb0
  have HDw : Hid (w.heap.size ≤ D) := by show _ ≤ _; rw [HD.out]; exact Nat.le_refl _
  have KS : Hid _ := netStart_any f a cap zs w0 (h.below hb0) hn
  obtain ⟨n, HN⟩ : ∃ x, Hid (zs.length = x) := ⟨_, rfl⟩
  obtain ⟨fx, HFX⟩ : ∃ x, Hid (nsF f zs = x) := ⟨_, rfl⟩
  obtain ⟨mx, HMX⟩ : ∃ x, Hid (nsM f zs = x) := ⟨_, rfl⟩
  obtain ⟨zx, HZX⟩ : ∃ x, Hid (nsZ f zs = x) := ⟨_, rfl⟩
  obtain ⟨ok, HOK⟩ : ∃ x, Hid (nsB f zs = x) := ⟨_, rfl⟩
  have HNo : Hid (ok = false → fx = 0 ∧ mx = 0 ∧ zx = []) := by
    show _ → _
    intro hk
    rw [hk] at HOK
    have hb := HOK.out
    exact ⟨by rw [← HFX.out]; unfold nsF; rw [hb]; rfl, by rw [← HMX.out]; unfold nsM; rw [hb]; rfl, by rw [← HZX.out]; unfold nsZ; rw [hb]; rfl⟩
  rw [HFX.out, HMX.out, HZX.out, HOK.out, HN.out] at KS
  rw [HFX.out, HMX.out, HZX.out, HOK.out, HN.out]
  clear h hb0 HFX HMX HZX HOK hn
  cases ok with
  | false =>
    obtain ⟨e1, e2, e3⟩ := HNo.out rfl
    subst e1 e2 e3
    clear HNo
    go_enter Try.func6, Try.ntmps6
    go_wp2_with fail
    rw [← HW0.out, ← HD.out]
    refine Calls.mono KS.out ?_
    rintro e v2 ⟨a1, c1, a2, c2, a3, c3, _, _, _, rfl, _, b2⟩
    obtain ⟨v3, HV3⟩ : ∃ x, Hid (x = v2.alloc (.cells #[.int .i64 0, .slice a1 0 c1, .slice a2 0 c2, .slice a3 0 c3] 26)) := ⟨_, rfl⟩
    have b23 : Below v2.heap.size v2 v3 := by rw [HV3.out]; exact (Below.refl _ _).alloc (Nat.le_refl _) _
    have RD3 : Hid (Row v3 D 30 arZ) := (RD.out.below b2 RD.out.lt).below b23 (RD.out.below b2 RD.out.lt).lt
    obtain ⟨v4, HV4⟩ : ∃ x, Hid (x = v3.setRow D arZ) := ⟨_, rfl⟩
    have ZR : Hid (Row v4 D 30 arZ) := by show Row _ _ _ _; rw [HV4.out]; exact RD3.out.row
    have ZB : Hid (Below w.heap.size w v4) := by show Below _ _ _; rw [HV4.out]; exact belowSetRow (below2 KB0.out (below2 b2 b23)) HDw.out _
    clear b2 b23
    go_wp2_with ((try rw [← HV3.out]); refine wpList_store_row (by rfl) 30 _ _ (by rfl) D arZ (by rfl) (by rfl) 30 arZ ?_ Try.infoAr rfl (by simp [Value.oneCell']) ?_; exact RD3.out; rw [← HV4.out])
    refine bodyPost_ret (v := .tuple #[arV 0 (.slice none 0 0) (.slice none 0 0) (.slice none 0 0) (.slice none 0 0) (.slice none 0 0), .bool false]) (by
        have p0 := ZR.out.cell 0
        have p1 := ZR.out.cell 1
        have p2 := ZR.out.cell 2
        have p3 := ZR.out.cell 3
        have p4 := ZR.out.cell 4
        have p5 := ZR.out.cell 5
        simp at p0 p1 p2 p3 p4 p5
        simp [results, Try.results6, go_sem, p0, p1, p2, p3, p4, p5]) rfl ⟨none, 0, none, 0, none, 0, none, none, fun _ => False, fun _ => False, fun _ => False, rfl, ⟨Ow.nil _ _ _ _ _ _, Ow.nil _ _ _ _ _ _, Ow.nil _ _ _ _ _ _, fun _ h => h.elim, fun _ h => h.elim, fun _ h => h.elim⟩, ZB.out⟩
  | true =>
    clear HNo
    go_enter Try.func6, Try.ntmps6
    go_wp2_with fail
    rw [← HW0.out, ← HD.out]
    refine Calls.mono KS.out ?_
    rintro e v2 ⟨a1, c1, a2, c2, a3, c3, F1, F2, F3, rfl, O2, b2⟩
    obtain ⟨E, HE⟩ : ∃ x, Hid (x = v2.heap.size) := ⟨_, rfl⟩
    obtain ⟨v2', HV2'⟩ : ∃ x, Hid (x = v2.alloc (.cells #[.int .i64 fx, .slice a1 mx c1, .slice a2 zx.length c2, .slice a3 0 c3] 26)) := ⟨_, rfl⟩
    obtain ⟨g4, HG4⟩ : ∃ x, Hid (x = v2'.heap.size) := ⟨_, rfl⟩
    obtain ⟨g5, HG5⟩ : ∃ x, Hid (x = v2'.heap.size + 1) := ⟨_, rfl⟩
    obtain ⟨v3, HV3⟩ : ∃ x, Hid (x = (v2'.alloc (.cells #[] 60)).alloc (.cells #[] 63)) := ⟨_, rfl⟩
    have b23 : Below v2.heap.size v2 v3 := by rw [HV3.out, HV2'.out]; exact (((Below.refl _ _).alloc (Nat.le_refl _) _).alloc (by simp) _).alloc (by simp; omega) _
    have RE2 : Hid (Row v2' E 26 #[.int .i64 fx, .slice a1 mx c1, .slice a2 zx.length c2, .slice a3 0 c3]) := by show Row _ _ _ _; rw [HV2'.out, HE.out]; exact Row.new v2 _ _
    have RD3 : Hid (Row v3 D 30 arZ) := (RD.out.below b2 RD.out.lt).below b23 (RD.out.below b2 RD.out.lt).lt
    obtain ⟨v4, HV4⟩ : ∃ x, Hid (x = v3.setRow D #[.int .i64 fx, .slice a1 mx c1, .slice a2 zx.length c2, .slice a3 0 c3, .slice (some ⟨g4, 0, none⟩) 0 0, .slice (some ⟨g5, 0, none⟩) 0 0]) := ⟨_, rfl⟩
    have ZR : Hid (Row v4 D 30 #[.int .i64 fx, .slice a1 mx c1, .slice a2 zx.length c2, .slice a3 0 c3, .slice (some ⟨g4, 0, none⟩) 0 0, .slice (some ⟨g5, 0, none⟩) 0 0]) := by show Row _ _ _ _; rw [HV4.out]; exact RD3.out.row
    have ZO : Hid (NtO v4 w.heap.size mx (nd0 f) zx 0 (fun _ => syO) (.slice a1 mx c1) (.slice a2 zx.length c2) (.slice a3 0 c3) F1 F2 F3 ∧ Below w.heap.size w v4) := by
      rw [HV4.out]
      have lD := RD.out.lt
      have o3 := O2.below b23
      have sb := KB0.out.size
      exact ⟨⟨(o3.n.setRow lD).base sb, (o3.z.setRow lD).base sb, (o3.y.setRow lD).base sb, o3.d1, o3.d2, o3.d3⟩, belowSetRow (below2 KB0.out (below2 b2 b23)) HDw.out _⟩
    clear b2 b23 O2
    go_wp2_with (first | (rw [← HV2'.out, ← HE.out]; refine wpList_load_row (by rfl) 26 _ (by rfl) E (by rfl) 26 #[.int .i64 fx, .slice a1 mx c1, .slice a2 zx.length c2, .slice a3 0 c3] (0, 0) _ ?_ Try.underlying26 (by rfl) Try.infoNt ?_; exact RE2.out) | (rw [← HV3.out, ← HG5.out, ← HG4.out]; refine wpList_store_row (by rfl) 30 _ _ (by rfl) D #[.int .i64 fx, .slice a1 mx c1, .slice a2 zx.length c2, .slice a3 0 c3, .slice (some ⟨g4, 0, none⟩) 0 0, .slice (some ⟨g5, 0, none⟩) 0 0] (by rfl) (by rfl) 30 arZ ?_ Try.infoAr rfl (by simp [Value.oneCell']) ?_; exact RD3.out; rw [← HV4.out]))
    refine bodyPost_ret (v := .tuple #[arV fx (.slice a1 mx c1) (.slice a2 zx.length c2) (.slice a3 0 c3) (.slice (some ⟨g4, 0, none⟩) 0 0) (.slice (some ⟨g5, 0, none⟩) 0 0), .bool true]) (by
        have p0 := ZR.out.cell 0
        have p1 := ZR.out.cell 1
        have p2 := ZR.out.cell 2
        have p3 := ZR.out.cell 3
        have p4 := ZR.out.cell 4
        have p5 := ZR.out.cell 5
        simp at p0 p1 p2 p3 p4 p5
        simp [results, Try.results6, go_sem, p0, p1, p2, p3, p4, p5]) rfl ⟨_, _, _, _, _, _, _, _, _, _, _, rfl, ZO.out.1, ZO.out.2⟩
end Go.Proofs.Ytpomffkpjldloaa
