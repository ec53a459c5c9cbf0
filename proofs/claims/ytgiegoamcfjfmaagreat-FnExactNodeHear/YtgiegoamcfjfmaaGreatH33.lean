/- A slot, copied, in the model. Conditions: lists of at most 2^20. Written by a program. -/
import Derived.Test.YtgiegoamcfjfmaaGreatH30
import Derived.Deep.CutRange
import Derived.Test.YtgiegoamcfjfmaaGreatH28
import Derived.Test.YtgiegoamcfjfmaaGreatH21
import Derived.Test.YtgiegoamcfjfmaaGreatH18
import Derived.Test.YtgiegoamcfjfmaaGreatH24
namespace Go.Proofs.YtgiegoamcfjfmaaGreat
set_option maxRecDepth 2000
open Go.ChangeShapes Go.WideShapes Go.ChangeAt Go.RowKit

set_option maxHeartbeats 4000000 in
theorem sCopyS_any (s : Sl) (a6 a11 a12 : Option Addr) (c6 c11 c12 : Nat) (w : World) (h6 : TxtAt w a6 s.p.m s.p.S) (h11 : IntsAt w a11 s.ze.length s.ze) (h12 : IntsAt w a12 s.zr.length s.zr) (hs : SlS s) :
    Calls Tryz.prog 129 #[slV s (.slice a6 s.p.m c6) (.slice a11 s.ze.length c11) (.slice a12 s.zr.length c12)] w fun e w' => ∃ (g6 g11 g12 h6 h11 h12 : Nat) (F6 F11 F12 : Nat → Prop), e = .returned (slV s (.slice (some ⟨g6, 0, none⟩) s.p.m h6) (.slice (some ⟨g11, 0, none⟩) s.ze.length h11) (.slice (some ⟨g12, 0, none⟩) s.zr.length h12)) ∧ SlO w' w.heap.size s (.slice (some ⟨g6, 0, none⟩) s.p.m h6) (.slice (some ⟨g11, 0, none⟩) s.ze.length h11) (.slice (some ⟨g12, 0, none⟩) s.zr.length h12) F6 F11 F12 ∧ Below w.heap.size w w' := by
  obtain ⟨A, HA⟩ : ∃ x, Hid (x = w.heap.size) := ⟨_, rfl⟩
  obtain ⟨D, HD⟩ : ∃ x, Hid (x = w.heap.size + 1) := ⟨_, rfl⟩
  obtain ⟨w0, HW0⟩ : ∃ x, Hid (x = (w.alloc (.cells (slC s (.slice a6 s.p.m c6) (.slice a11 s.ze.length c11) (.slice a12 s.zr.length c12)) 62)).alloc (.cells #[.string ⟨#[]⟩, .string ⟨#[]⟩, .int .i64 0, .int .i64 0, .int .i64 0, .string ⟨#[]⟩, .slice none 0 0, .bool false, .bool false, .bool false, .bool false, .slice none 0 0, .slice none 0 0] 62)) := ⟨_, rfl⟩
  have RA : Hid (Row w0 A 62 (slC s (.slice a6 s.p.m c6) (.slice a11 s.ze.length c11) (.slice a12 s.zr.length c12))) := by show Row _ _ _ _; rw [HW0.out, HA.out]; exact Row.alloc (Row.new w _ _) _
  have RD : Hid (Row w0 D 62 #[.string ⟨#[]⟩, .string ⟨#[]⟩, .int .i64 0, .int .i64 0, .int .i64 0, .string ⟨#[]⟩, .slice none 0 0, .bool false, .bool false, .bool false, .bool false, .slice none 0 0, .slice none 0 0]) := by
    show Row _ _ _ _
    rw [HW0.out, HD.out]
    have := Row.new (w.alloc (.cells (slC s (.slice a6 s.p.m c6) (.slice a11 s.ze.length c11) (.slice a12 s.zr.length c12)) 62)) #[.string ⟨#[]⟩, .string ⟨#[]⟩, .int .i64 0, .int .i64 0, .int .i64 0, .string ⟨#[]⟩, .slice none 0 0, .bool false, .bool false, .bool false, .bool false, .slice none 0 0, .slice none 0 0] 62
    simpa using this
  have hb0 : Below w.heap.size w w0 := by rw [HW0.out]; exact ((Below.refl _ _).alloc (Nat.le_refl _) _).alloc (by simp) _
  have KB0 : Hid (Below w.heap.size w w0) := hb0
  have HL : Hid (A ≠ D ∧ w.heap.size ≤ A ∧ w.heap.size ≤ D ∧ A < w0.heap.size ∧ D < w0.heap.size) := ⟨by have := HA.out; have := HD.out; omega, by have := HA.out; omega, by have := HD.out; omega, RA.out.lt, RD.out.lt⟩
  have KC : Hid _ := sCopyP_any s.p.r s.p.k s.p.n s.p.i s.p.b a6 s.p.m c6 s.p.S w0 (h6.below hb0) hs.1
  have KI1 : Hid (IntsAt w a11 s.ze.length s.ze) := h11
  have KI2 : Hid (IntsAt w a12 s.zr.length s.zr) := h12
  have KS : Hid (SlS s) := hs
  clear h6 h11 h12 hs hb0
  go_enter Tryz.func129, Tryz.ntmps129
  go_wp2_with fail
  rw [← HW0.out, ← HD.out, ← HA.out]
  refine Calls.mono KC.out ?_
  rintro e w1 ⟨g6, h6, rfl, O1, b1⟩
  have RA1 := RA.out.below b1 RA.out.lt
  have RD1 := RD.out.below b1 RD.out.lt
  have y1 := RA1.cell 1
  have f1 := RA1.free 1
  have y2 := RA1.cell 2
  have f2 := RA1.free 2
  have y3 := RA1.cell 3
  have f3 := RA1.free 3
  have y4 := RA1.cell 4
  have f4 := RA1.free 4
  have y5 := RA1.cell 5
  have f5 := RA1.free 5
  have y6 := RA1.cell 6
  have f6 := RA1.free 6
  simp at y1 y2 y3 y4 y5 y6
  obtain ⟨w2, HW2⟩ : ∃ x, Hid (x = ((((((w1.setCell ⟨A, 1, none⟩ (.string s.p.r)).setCell ⟨A, 2, none⟩ (.int .i64 s.p.k)).setCell ⟨A, 3, none⟩ (.int .i64 s.p.n)).setCell ⟨A, 4, none⟩ (.int .i64 s.p.i)).setCell ⟨A, 5, none⟩ (.string s.p.b)).setCell ⟨A, 6, none⟩ (.slice (some ⟨g6, 0, none⟩) s.p.m h6))) := ⟨_, rfl⟩
  obtain ⟨G1, HGW⟩ : ∃ x, Hid (x = w1.heap.size) := ⟨_, rfl⟩
  have sz2 : w2.heap.size = w1.heap.size := by rw [HW2.out]; simp
  have HG1 : Hid (G1 = w2.heap.size) := by show _ = _; rw [sz2]; exact HGW.out
  have l6 := World.ownsRow.lt O1 g6 rfl
  have K2 : Hid (Row w2 A 62 (slC s (.slice (some ⟨g6, 0, none⟩) s.p.m h6) (.slice a11 s.ze.length c11) (.slice a12 s.zr.length c12)) ∧ Row w2 D 62 #[.string ⟨#[]⟩, .string ⟨#[]⟩, .int .i64 0, .int .i64 0, .int .i64 0, .string ⟨#[]⟩, .slice none 0 0, .bool false, .bool false, .bool false, .bool false, .slice none 0 0, .slice none 0 0] ∧ OwnT w2 w0.heap.size (some ⟨g6, 0, none⟩) s.p.m h6 s.p.S ∧ Below w.heap.size w w2) := by
    rw [HW2.out]
    exact ⟨(((((RA1.set 1 _).set 2 _).set 3 _).set 4 _).set 5 _).set 6 _, (((((RD1.other 1 _ (Ne.symm HL.out.1)).other 2 _ (Ne.symm HL.out.1)).other 3 _ (Ne.symm HL.out.1)).other 4 _ (Ne.symm HL.out.1)).other 5 _ (Ne.symm HL.out.1)).other 6 _ (Ne.symm HL.out.1), (((((O1.setFar HL.out.2.2.2.1).setFar HL.out.2.2.2.1).setFar HL.out.2.2.2.1).setFar HL.out.2.2.2.1).setFar HL.out.2.2.2.1).setFar HL.out.2.2.2.1, ((((((below2 KB0.out b1).setCell HL.out.2.1 _).setCell HL.out.2.1 _).setCell HL.out.2.1 _).setCell HL.out.2.1 _).setCell HL.out.2.1 _).setCell HL.out.2.1 _⟩
  have HQ1 : Hid (g6 < G1 ∧ w0.heap.size ≤ g6 ∧ w0.heap.size ≤ G1) := by have := HG1.out; have := l6.1; have := l6.2; exact ⟨by omega, by omega, by omega⟩
  have lA2 := K2.out.1.lt
  clear O1 b1 RA1 RD1 l6
  go_upto_region 2 with fail
  rw [← HW2.out]
  clear y1 f1 y2 f2 y3 f3 y4 f4 y5 f5 y6 f6 sz2
  go_cut [] from 7 to 11 (fun wx => Hid (∃ g11 h11, Row wx A 62 (slC s (.slice (some ⟨g6, 0, none⟩) s.p.m h6) (.slice (some ⟨g11, 0, none⟩) s.ze.length h11) (.slice a12 s.zr.length c12)) ∧ Row wx D 62 #[.string ⟨#[]⟩, .string ⟨#[]⟩, .int .i64 0, .int .i64 0, .int .i64 0, .string ⟨#[]⟩, .slice none 0 0, .bool false, .bool false, .bool false, .bool false, .slice none 0 0, .slice none 0 0] ∧ OwnT wx w0.heap.size (some ⟨g6, 0, none⟩) s.p.m h6 s.p.S ∧ wx.ownsRow G1 3 1 (.slice (some ⟨g11, 0, none⟩) s.ze.length h11) s.ze.length (s.ze.map (Value.int .i64)) ∧ Below w.heap.size w wx))
  case first =>
    have HOa : Hid ((w2.alloc (.cells #[] 3)).ownsRow G1 3 1 (.slice (some ⟨G1, 0, none⟩) 0 0) 0 []) := by
      show World.ownsRow _ _ _ _ _ _ _
      rw [HG1.out]
      have := World.ownsRow_lit (e := 3) (size := 1) (base := w2.heap.size) w2 #[] 0 (by simp) (by unfold maxLen; omega) (by simp)
      exact this
    have HIa : Hid (IntsAt (w2.alloc (.cells #[] 3)) a11 s.ze.length s.ze) := (KI1.out.below K2.out.2.2.2).below ((Below.refl _ _).alloc (Nat.le_refl _) _)
    have z11 := K2.out.1.cell 11
    simp at z11
    have HLe : Hid (G1 ≤ (w2.alloc (.cells #[] 3)).heap.size) := by rw [HG1.out]; show _ ≤ _; simp
    have hG1' := HG1.out
    rw [hG1'] at HOa HLe
    go_wp2_with (at_builtin; refine wpList_app_ints _ (by rfl) _ _ (by rfl) w2.heap.size w2.heap.size (by rfl) ?_ a11 s.ze c11 (by rfl) ?_ KS.out.2.1 ?_ ?_; exact HOa.out; exact HIa.out; exact HLe.out; intro g11 h11 w4 hown4 hgrow4; have b24 : Below w2.heap.size w2 w4 := ((Below.refl _ _).alloc (Nat.le_refl _) _).grown hgrow4 (by simp) (fun x hx => by cases hx; exact Nat.le_refl _); have R4 := K2.out.1.below b24 lA2; have v11 := R4.cell 11; have u11 := R4.free 11; simp at v11; have KB24 : Hid _ := b24; have KO4 : Hid _ := hown4; clear hown4 hgrow4 z11 b24 R4)
    go_meet
    have l11 := World.ownsRow.lt KO4.out g11 rfl
    refine ⟨g11, h11, (K2.out.1.below KB24.out lA2).set 11 _, (K2.out.2.1.below KB24.out K2.out.2.1.lt).other 11 _ (Ne.symm HL.out.1), (K2.out.2.2.1.below KB24.out).setFar HL.out.2.2.2.1, ?_, (below2 K2.out.2.2.2 KB24.out).setCell HL.out.2.1 _⟩
    rw [hG1']
    exact own_kept KO4.out (grown_set _ _ _ _) (fun x e => by cases e; show g11 ≠ A; have := l11.1; omega)
  obtain ⟨g11, h11, RAc, RDc, O6c, O11c, Bc⟩ := hcut.out
  clear hcut
  have lAc := RAc.lt
  have KC2 : Hid (Row wc A 62 (slC s (.slice (some ⟨g6, 0, none⟩) s.p.m h6) (.slice (some ⟨g11, 0, none⟩) s.ze.length h11) (.slice a12 s.zr.length c12)) ∧ Row wc D 62 #[.string ⟨#[]⟩, .string ⟨#[]⟩, .int .i64 0, .int .i64 0, .int .i64 0, .string ⟨#[]⟩, .slice none 0 0, .bool false, .bool false, .bool false, .bool false, .slice none 0 0, .slice none 0 0] ∧ OwnT wc w0.heap.size (some ⟨g6, 0, none⟩) s.p.m h6 s.p.S ∧ wc.ownsRow G1 3 1 (.slice (some ⟨g11, 0, none⟩) s.ze.length h11) s.ze.length (s.ze.map (Value.int .i64)) ∧ Below w.heap.size w wc) := ⟨RAc, RDc, O6c, O11c, Bc⟩
  clear RAc RDc O6c O11c Bc HW2 HGW K2 HG1
  go_upto_region 3 with fail
  obtain ⟨wb, HWB⟩ : ∃ x, x = wc := ⟨wc, rfl⟩
  subst HWB
  go_cut [] from 12 to 16 (fun wx => Hid (∃ g12 h12, Row wx A 62 (slC s (.slice (some ⟨g6, 0, none⟩) s.p.m h6) (.slice (some ⟨g11, 0, none⟩) s.ze.length h11) (.slice (some ⟨g12, 0, none⟩) s.zr.length h12)) ∧ Row wx D 62 #[.string ⟨#[]⟩, .string ⟨#[]⟩, .int .i64 0, .int .i64 0, .int .i64 0, .string ⟨#[]⟩, .slice none 0 0, .bool false, .bool false, .bool false, .bool false, .slice none 0 0, .slice none 0 0] ∧ OwnT wx w0.heap.size (some ⟨g6, 0, none⟩) s.p.m h6 s.p.S ∧ wx.ownsRow G1 3 1 (.slice (some ⟨g11, 0, none⟩) s.ze.length h11) s.ze.length (s.ze.map (Value.int .i64)) ∧ wx.ownsRow wb.heap.size 3 1 (.slice (some ⟨g12, 0, none⟩) s.zr.length h12) s.zr.length (s.zr.map (Value.int .i64)) ∧ Below w.heap.size w wx))
  case first =>
    have HOa : Hid ((wb.alloc (.cells #[] 3)).ownsRow wb.heap.size 3 1 (.slice (some ⟨wb.heap.size, 0, none⟩) 0 0) 0 []) := World.ownsRow_lit (e := 3) (size := 1) (base := wb.heap.size) wb #[] 0 (by simp) (by unfold maxLen; omega) (by simp)
    have HIa : Hid (IntsAt (wb.alloc (.cells #[] 3)) a12 s.zr.length s.zr) := (KI2.out.below KC2.out.2.2.2.2).below ((Below.refl _ _).alloc (Nat.le_refl _) _)
    have z12 := KC2.out.1.cell 12
    simp at z12
    have HLe : Hid (wb.heap.size ≤ (wb.alloc (.cells #[] 3)).heap.size) := by show _ ≤ _; simp
    go_wp2_with (at_builtin; refine wpList_app_ints _ (by rfl) _ _ (by rfl) wb.heap.size wb.heap.size (by rfl) ?_ a12 s.zr c12 (by rfl) ?_ KS.out.2.2 ?_ ?_; exact HOa.out; exact HIa.out; exact HLe.out; intro g12 h12 w4 hown4 hgrow4; have b24 : Below wb.heap.size wb w4 := ((Below.refl _ _).alloc (Nat.le_refl _) _).grown hgrow4 (by simp) (fun x hx => by cases hx; exact Nat.le_refl _); have R4 := KC2.out.1.below b24 lAc; have v12 := R4.cell 12; have u12 := R4.free 12; simp at v12; have KB24 : Hid _ := b24; have KO4 : Hid _ := hown4; clear hown4 hgrow4 z12 b24 R4)
    go_meet
    have l12 := World.ownsRow.lt KO4.out g12 rfl
    have l11 := World.ownsRow.lt KC2.out.2.2.2.1 g11 rfl
    have hw0G := HQ1.out.2.2
    have hA0 := HL.out.2.2.2.1
    exact ⟨g12, h12, (KC2.out.1.below KB24.out lAc).set 12 _, (KC2.out.2.1.below KB24.out KC2.out.2.1.lt).other 12 _ (Ne.symm HL.out.1), (KC2.out.2.2.1.below KB24.out).setFar HL.out.2.2.2.1, own_kept (ownsRow_below KC2.out.2.2.2.1 KB24.out) (grown_set _ _ _ _) (fun x e => by cases e; show g11 ≠ A; have := l11.1; omega), own_kept KO4.out (grown_set _ _ _ _) (fun x e => by cases e; show g12 ≠ A; have := l12.1; omega), (below2 KC2.out.2.2.2.2 KB24.out).setCell HL.out.2.1 _⟩
  obtain ⟨g12, h12, RAd, RDd, O6, O11, O12, Bd⟩ := hcut.out
  clear hcut
  have l11 := World.ownsRow.lt KC2.out.2.2.2.1 g11 rfl
  have l12 := World.ownsRow.lt O12 g12 rfl
  have hq := HQ1.out
  have hl := HL.out
  have w0w : w.heap.size ≤ w0.heap.size := KB0.out.size
  have HA6 : Hid (Row wc A 62 (slC s (.slice (some ⟨g6, 0, none⟩) s.p.m h6) (.slice (some ⟨g11, 0, none⟩) s.ze.length h11) (.slice (some ⟨g12, 0, none⟩) s.zr.length h12))) := RAd
  have HD6 : Hid (Row wc D 62 #[.string ⟨#[]⟩, .string ⟨#[]⟩, .int .i64 0, .int .i64 0, .int .i64 0, .string ⟨#[]⟩, .slice none 0 0, .bool false, .bool false, .bool false, .bool false, .slice none 0 0, .slice none 0 0]) := RDd
  obtain ⟨w7, HW7⟩ : ∃ x, Hid (x = wc.setRow D (slC s (.slice (some ⟨g6, 0, none⟩) s.p.m h6) (.slice (some ⟨g11, 0, none⟩) s.ze.length h11) (.slice (some ⟨g12, 0, none⟩) s.zr.length h12))) := ⟨_, rfl⟩
  have ZR : Hid (Row w7 D 62 (slC s (.slice (some ⟨g6, 0, none⟩) s.p.m h6) (.slice (some ⟨g11, 0, none⟩) s.ze.length h11) (.slice (some ⟨g12, 0, none⟩) s.zr.length h12))) := by show Row _ _ _ _; rw [HW7.out]; exact RDd.row
  have ZB : Hid (Below w.heap.size w w7) := by show Below _ _ _; rw [HW7.out]; exact belowSetRow Bd hl.2.2.1 _
  have HSO : Hid (SlO w7 w.heap.size s (.slice (some ⟨g6, 0, none⟩) s.p.m h6) (.slice (some ⟨g11, 0, none⟩) s.ze.length h11) (.slice (some ⟨g12, 0, none⟩) s.zr.length h12) (fun x => x = g6) (fun x => x = g11) (fun x => x = g12)) := by
    refine ⟨?_, ?_, ?_, fun x e1 e2 => ?_, fun x e1 e2 => ?_, fun x e1 e2 => ?_⟩
    · rw [HW7.out]
      exact ow_txt (own_kept (OwnT.base O6 w0w) (grown_row _ _ _) (fun x e => by cases e; show g6 ≠ D; omega)) (fun x e => by cases e; rfl)
    · rw [HW7.out]
      exact ow_ints (own_base (own_kept O11 (grown_row _ _ _) (fun x e => by cases e; show g11 ≠ D; omega)) (by omega)) (fun x e => by cases e; rfl)
    · rw [HW7.out]
      exact ow_ints (own_base (own_kept O12 (grown_row _ _ _) (fun x e => by cases e; show g12 ≠ D; omega)) (by omega)) (fun x e => by cases e; rfl)
    · omega
    · omega
    · omega
  clear RAd RDd O6 O11 O12 Bd l11 l12 hq hl w0w KC2
  go_wp2_with (first | (refine wpList_load_row (by rfl) 62 _ (by rfl) A (by rfl) 62 (slC s (.slice (some ⟨g6, 0, none⟩) s.p.m h6) (.slice (some ⟨g11, 0, none⟩) s.ze.length h11) (.slice (some ⟨g12, 0, none⟩) s.zr.length h12)) (0, 0) _ ?_ Tryz.underlying62 (by rfl) Tryz.infoSl ?_; exact HA6.out) | (refine wpList_store_row (by rfl) 62 _ _ (by rfl) D (slC s (.slice (some ⟨g6, 0, none⟩) s.p.m h6) (.slice (some ⟨g11, 0, none⟩) s.ze.length h11) (.slice (some ⟨g12, 0, none⟩) s.zr.length h12)) (by rfl) (by rfl) 62 #[.string ⟨#[]⟩, .string ⟨#[]⟩, .int .i64 0, .int .i64 0, .int .i64 0, .string ⟨#[]⟩, .slice none 0 0, .bool false, .bool false, .bool false, .bool false, .slice none 0 0, .slice none 0 0] ?_ Tryz.infoSl rfl (by simp [Value.oneCell']) ?_; exact HD6.out; rw [← HW7.out]))
  exact bodyPost_ret (v := slV s (.slice (some ⟨g6, 0, none⟩) s.p.m h6) (.slice (some ⟨g11, 0, none⟩) s.ze.length h11) (.slice (some ⟨g12, 0, none⟩) s.zr.length h12)) (results_cell_row Tryz.results129 _ _ D 62 _ (0, 0) _ (by rfl) ZR.out Tryz.underlying62 (by rfl) Tryz.infoSl) rfl ⟨g6, g11, g12, h6, h11, h12, _, _, _, rfl, HSO.out, ZB.out⟩
end Go.Proofs.YtgiegoamcfjfmaaGreat
/- The slot of a root, in the program and in the model. Conditions: lists and texts of at most 2^20. Written by a program. -/
namespace Go.Proofs.YtgiegoamcfjfmaaGreat
set_option maxRecDepth 2000
open Go.ChangeShapes Go.WideShapes Go.ChangeAt Go.RowKit

def plN (S : Nat → Sl) (root : ByteArray) (n : Nat) : Nat := match plc S root n with
  | some x => x
  | none => n
/-- A slot that is ours, behind a store into another block. -/
theorem SlO.setRow {w : World} {B B' : Nat} {s : Sl} {v6 v11 v12 : Value} {F6 F11 F12 : Nat → Prop} (h : SlO w B s v6 v11 v12 F6 F11 F12) (D : Nat) (cs : Array Value) (hD : D < B) (hB : B' ≤ B) : ∃ F6 F11 F12, SlO (w.setRow D cs) B' s v6 v11 v12 F6 F11 F12 :=
  ⟨_, _, _, ⟨(h.t.cut.base hB).frame fun x hx _ => setRow_other _ _ _ _ (fun e => by have := hx.2.1; omega), (h.e.cut.base hB).frame fun x hx _ => setRow_other _ _ _ _ (fun e => by have := hx.2.1; omega), (h.z.cut.base hB).frame fun x hx _ => setRow_other _ _ _ _ (fun e => by have := hx.2.1; omega), fun x h1 h2 => h.d1 x h1.1 h2.1, fun x h1 h2 => h.d2 x h1.1 h2.1, fun x h1 h2 => h.d3 x h1.1 h2.1⟩⟩
set_option maxHeartbeats 2000000 in
theorem sPlace_any (id f : Int) (a : Option Addr) (n cap : Nat) (S : Nat → Sl) (root : ByteArray) (w : World) (h : Rd w (slsD n S) (.slice a n cap)) (hn : n ≤ 1048576) :
    Calls Tryz.prog 64 #[ndV id f (.slice a n cap), .string root] w fun e w' => e = .returned (.int .i64 (plN S root n : Nat)) ∧ Below w.heap.size w w' := by
  obtain ⟨A, HA⟩ : ∃ x, Hid (x = w.heap.size) := ⟨_, rfl⟩
  obtain ⟨w0, HW0⟩ : ∃ x, Hid (x = w.alloc (.cells #[.int .i64 id, .int .i64 f, .slice a n cap] 34)) := ⟨_, rfl⟩
  have RA : Hid (Row w0 A 34 #[.int .i64 id, .int .i64 f, .slice a n cap]) := by show Row _ _ _ _; rw [HW0.out, HA.out]; exact Row.new w _ _
  have hb0 : Below w.heap.size w w0 := by rw [HW0.out]; exact (Below.refl _ _).alloc (Nat.le_refl _) _
  have KB0 : Hid (Below w.heap.size w w0) := hb0
  have KH : Hid (Rd w0 (slsD n S) (.slice a n cap)) := h.below hb0
  have x2 := RA.out.cell 2
  simp at x2
  clear h hb0
  go_enter Tryz.func64, Tryz.ntmps64
  go_wp2_with fail
  rw [← HW0.out, ← HA.out]
  go_loopw [5] (fun vi wr => ∃ k : Nat, k ≤ n ∧ vi = .int .i64 (k : Int) ∧ Hid (plF S root (n - k) k = plc S root n) ∧ Below w0.heap.size w0 wr) (fun vi _ => n - (intOf vi).toNat)
  case atStart => exact ⟨0, Nat.zero_le _, rfl, rfl, Below.refl _ _⟩
  case round =>
    obtain ⟨k, hk, rfl, HP, hbel⟩ := hrel
    replace x2 := (hbel.cell (p := ⟨A, 2, none⟩) RA.out.lt).trans x2
    have KBr : Hid (Below w.heap.size w wr ∧ Below w0.heap.size w0 wr) := ⟨below2 KB0.out hbel, hbel⟩
    by_cases hlt : k < n
    · have hki : (k : Int) < (n : Int) := by omega
      obtain ⟨b1, f1, p6, p11, p12, q6, q11, q12, rfl, R1, _, _, _⟩ := slot_at (KH.out.below hbel) hlt
      have v0 : wr.cell? ⟨b1, f1 + k * 13, none⟩ = some (.string (S k).r) := by
        have := R1 0 (.string (S k).r) rfl
        simpa using this
      have e2 : n - k = (n - (k + 1)) + 1 := by omega
      have HP' := HP.out
      rw [e2] at HP'
      unfold plF at HP'
      clear R1 HP e2 hbel
      by_cases hr : (S k).r = root
      · rw [if_pos hr] at HP'
        have HI : Hid (plN S root n = k) := by show _ = _; unfold plN; rw [← HP']
        rw [hr] at v0
        have hb := ba_beq root
        clear HP' hr
        go_wp2
        go_ret
        exact ⟨ret_int (by rw [HI.out]), KBr.out.1⟩
      · rw [if_neg hr] at HP'
        have HP2 : Hid (plF S root (n - (k + 1)) (k + 1) = plc S root n) := HP'
        have hb := ba_ne hr
        clear HP' hr
        go_wp2
        go_roundw
        case rel => exact ⟨k + 1, by omega, by go_num, HP2, KBr.out.2⟩
        case measure => simp [intOf]; omega
    · obtain rfl : k = n := by omega
      have HI : Hid (plN S root k = k) := by
        have := HP.out
        rw [Nat.sub_self] at this
        show _ = _
        unfold plN
        rw [← this]
        rfl
      go_wp2
      go_ret
      exact ⟨ret_int (by rw [HI.out]), KBr.out.1⟩
end Go.Proofs.YtgiegoamcfjfmaaGreat
/- A node, copied, in the program. Conditions: lists and texts of at most 2^20. Written by a program. -/
namespace Go.Proofs.YtgiegoamcfjfmaaGreat
set_option maxRecDepth 2000
open Go.ChangeShapes Go.WideShapes Go.ChangeAt Go.RowKit

/-- Where the lists of a slot lie. -/
def HO3 (F6 F11 F12 : Nat → Prop) (q x : Nat) : Prop := (q = 6 ∧ F6 x) ∨ (q = 11 ∧ F11 x) ∨ (q = 12 ∧ F12 x)
theorem ow_slotO {w : World} {B : Nat} {s : Sl} {v6 v11 v12 : Value} {F6 F11 F12 : Nat → Prop} (h : SlO w B s v6 v11 v12 F6 F11 F12) (q : Nat) (hq : q < 13) : Ow w B (slD s q) ((slC s v6 v11 v12).toList.getD q undef) (HO3 F6 F11 F12 q) := by
  match q, hq with
  | 0, _ | 1, _ | 2, _ | 3, _ | 4, _ | 5, _ | 7, _ | 8, _ | 9, _ | 10, _ => rfl
  | 6, _ => exact Ow.mono h.t fun g hg => .inl ⟨rfl, hg⟩
  | 11, _ => exact Ow.mono h.e fun g hg => .inr (.inl ⟨rfl, hg⟩)
  | 12, _ => exact Ow.mono h.z fun g hg => .inr (.inr ⟨rfl, hg⟩)
set_option maxHeartbeats 8000000 in
theorem copiedN_any (id f : Int) (a : Option Addr) (n cap : Nat) (S : Nat → Sl) (w : World) (h : Rd w (slsD n S) (.slice a n cap)) (hn : n ≤ 1048576) (hs : ∀ i, i < n → SlK (S i)) :
    Calls Tryz.prog 73 #[ndV id f (.slice a n cap)] w fun e w' => ∃ g, e = .returned (ndV id f (.slice (some ⟨g, 0, none⟩) n n)) ∧ Ow w' w.heap.size (slsD n S) (.slice (some ⟨g, 0, none⟩) n n) (rng w.heap.size w'.heap.size) ∧ Below w.heap.size w w' := by
  obtain ⟨i0, hi, hz0, hz1, hz2⟩ := info_parts Tryz.infoSlZ
  obtain ⟨A, HA⟩ : ∃ x, Hid (x = w.heap.size) := ⟨_, rfl⟩
  obtain ⟨D, HD⟩ : ∃ x, Hid (x = w.heap.size + 1) := ⟨_, rfl⟩
  obtain ⟨w0, HW0⟩ : ∃ x, Hid (x = (w.alloc (.cells #[.int .i64 id, .int .i64 f, .slice a n cap] 34)).alloc (.cells #[.int .i64 0, .int .i64 0, .slice none 0 0] 34)) := ⟨_, rfl⟩
  have RA : Hid (Row w0 A 34 #[.int .i64 id, .int .i64 f, .slice a n cap]) := by show Row _ _ _ _; rw [HW0.out, HA.out]; exact Row.alloc (Row.new w _ _) _
  have RD : Hid (Row w0 D 34 #[.int .i64 0, .int .i64 0, .slice none 0 0]) := by
    show Row _ _ _ _
    rw [HW0.out, HD.out]
    have := Row.new (w.alloc (.cells #[.int .i64 id, .int .i64 f, .slice a n cap] 34)) #[.int .i64 0, .int .i64 0, .slice none 0 0] 34
    simpa using this
  have hb0 : Below w.heap.size w w0 := by rw [HW0.out]; exact ((Below.refl _ _).alloc (Nat.le_refl _) _).alloc (by simp) _
  have KB0 : Hid (Below w.heap.size w w0) := hb0
  have HL : Hid (A ≠ D ∧ w.heap.size ≤ A ∧ w.heap.size ≤ D ∧ A < w0.heap.size ∧ D < w0.heap.size) := ⟨by have := HA.out; have := HD.out; omega, by have := HA.out; omega, by have := HD.out; omega, RA.out.lt, RD.out.lt⟩
  have KH : Hid (Rd w0 (slsD n S) (.slice a n cap)) := h.below hb0
  have HS : Hid (∀ i, i < n → SlK (S i)) := hs
  obtain ⟨g, HG⟩ : ∃ x, Hid (x = w0.heap.size) := ⟨_, rfl⟩
  have x2 := RA.out.cell 2
  simp at x2
  clear h hb0 hs
  go_enter Tryz.func73, Tryz.ntmps73
  go_wp2_with (at_make; rw [← HW0.out, ← HD.out, ← HA.out]; refine wpList_make_full _ rfl _ _ 32 rfl w0.heap.size 62 i0 (.agg zcS.toArray) 13 Tryz.underlying32 hi hz0 hz1 .i64 .i64 _ _ n rfl rfl rfl rfl (by rw [hz2]; omega) (by unfold maxLen; omega) (Nat.le_refl _) ?_; intro w1 hown hgrow; have hb1 : Below w0.heap.size w0 w1 := (Below.refl _ _).grown hgrow (Nat.le_refl _) (by simp); have y2 := (hb1.cell (p := ⟨A, 2, none⟩) RA.out.lt).trans x2)
  have ho1 : Ow w1 w0.heap.size (.lst 62 13 n (fun i => if i < 0 then slD (S i) else slD slZ)) (.slice (some ⟨g, 0, none⟩) n n) (rng w0.heap.size w1.heap.size) := by
    have e : (madeCells (Value.agg zcS.toArray).cells (n * 13)).toList = cL 13 (fun _ q => zcS.getD q undef) n := made_cL (zs := zcS) (by simp [zcS])
    rw [e] at hown
    rw [HG.out]
    have := ow_made (F := rng w0.heap.size w1.heap.size) hown (fun q hq => ow_slZ w1 w0.heap.size q hq) ⟨Nat.le_refl _, (World.ownsRow.lt hown _ rfl).2⟩
    exact this.congr (fun i q _ _ => by simp)
  rw [← HG.out]
  have KO1 : Hid (Ow w1 w0.heap.size (.lst 62 13 n (fun i => if i < 0 then slD (S i) else slD slZ)) (.slice (some ⟨g, 0, none⟩) n n) (rng w0.heap.size w1.heap.size)) := ho1
  have HBg : Hid (w0.heap.size ≤ g) := by show _ ≤ _; rw [HG.out]; exact Nat.le_refl _
  clear hown hgrow ho1
  go_loopw [13] (fun vi wr => ∃ k : Nat, k ≤ n ∧ vi = .int .i64 (k : Int) ∧ Hid (Ow wr w0.heap.size (.lst 62 13 n (fun i => if i < k then slD (S i) else slD slZ)) (.slice (some ⟨g, 0, none⟩) n n) (rng w0.heap.size wr.heap.size)) ∧ Below w0.heap.size w0 wr) (fun vi _ => n - (intOf vi).toNat)
  case atStart => exact ⟨0, Nat.zero_le _, rfl, KO1, hb1⟩
  case round =>
    obtain ⟨k, hk, rfl, HO, hbel⟩ := hrel
    clear KO1 hb1 y2 x2
    by_cases hlt : k < n
    · have hki : (k : Int) < (n : Int) := by omega
      obtain ⟨b1, f1, p6, p11, p12, q6, q11, q12, rfl, R1', t6, t11, t12⟩ := slot_at (KH.out.below hbel) hlt
      have R1 : Hid (wr.rangeAt b1 (f1 + k * 13) (slL (S k) (.slice p6 (S k).p.m q6) (.slice p11 (S k).ze.length q11) (.slice p12 (S k).zr.length q12))) := R1'
      obtain ⟨B2, HB2⟩ : ∃ x, Hid (x = wr.heap.size) := ⟨_, rfl⟩
      obtain ⟨w2, HW2⟩ : ∃ x, Hid (x = wr.alloc (.cells (slC (S k) (.slice p6 (S k).p.m q6) (.slice p11 (S k).ze.length q11) (.slice p12 (S k).zr.length q12)) 62)) := ⟨_, rfl⟩
      have b2 : Below wr.heap.size wr w2 := by rw [HW2.out]; exact (Below.refl _ _).alloc (Nat.le_refl _) _
      have R2 : Hid (Row w2 B2 62 (slC (S k) (.slice p6 (S k).p.m q6) (.slice p11 (S k).ze.length q11) (.slice p12 (S k).zr.length q12))) := by show Row _ _ _ _; rw [HW2.out, HB2.out]; exact Row.new wr _ _
      have KC : Hid _ := copiedS_any (S k) p6 p11 p12 q6 q11 q12 w2 (t6.below b2) (t11.below b2) (t12.below b2) (HS.out k hlt)
      have KO2 : Hid (Ow w2 w0.heap.size (.lst 62 13 n (fun i => if i < k then slD (S i) else slD slZ)) (.slice (some ⟨g, 0, none⟩) n n) (rng w0.heap.size wr.heap.size) ∧ Below w0.heap.size w0 w2 ∧ wr.heap.size ≤ w2.heap.size) := ⟨HO.out.below b2, below2 hbel b2, b2.size⟩
      clear R1' t6 t11 t12 b2 hbel HO
      go_wp2_with (first | (refine wpList_load_mid (by rfl) 62 _ (by rfl) b1 (f1 + k * 13) (by rfl) (slL (S k) (.slice p6 (S k).p.m q6) (.slice p11 (S k).ze.length q11) (.slice p12 (S k).zr.length q12)) _ ?_ Tryz.underlying62 (by rfl) Tryz.infoSl ?_; exact R1.out) | (rw [← HW2.out, ← HB2.out]; refine wpList_load_row (by rfl) 62 _ (by rfl) B2 (by rfl) 62 (slC (S k) (.slice p6 (S k).p.m q6) (.slice p11 (S k).ze.length q11) (.slice p12 (S k).zr.length q12)) (0, 0) _ ?_ Tryz.underlying62 (by rfl) Tryz.infoSl ?_; exact R2.out))
      refine Calls.mono KC.out ?_
      rintro e w3 ⟨g6, e11, e12, h11, h12, F6', F11', F12', rfl, SO', b3⟩
      obtain ⟨F6, F11, F12, SO, SC⟩ : ∃ H6 H11 H12, SlO w3 w2.heap.size (S k) (.slice (some ⟨g6, 0, none⟩) (S k).p.m (S k).p.m) (.slice e11 (S k).ze.length h11) (.slice e12 (S k).zr.length h12) H6 H11 H12 ∧ ∀ g, H6 g ∨ H11 g ∨ H12 g → w2.heap.size ≤ g ∧ g < w3.heap.size := ⟨_, _, _, ⟨SO'.t.cut, SO'.e.cut, SO'.z.cut, fun g h1 h2 => SO'.d1 g h1.1 h2.1, fun g h1 h2 => SO'.d2 g h1.1 h2.1, fun g h1 h2 => SO'.d3 g h1.1 h2.1⟩, fun g hg => by rcases hg with hg | hg | hg <;> exact hg.2⟩
      have O3 := KO2.out.1.below b3
      have TH : Hid (w3.there g (k * 13) 13) := by
        obtain ⟨a', cap', c', G', e', ho', _⟩ := O3
        cases e'
        intro j hj
        refine ⟨?_, World.ownsRow.frozenAt ho' _⟩
        rw [World.ownsRow.cellAt ho' _ (mid_lt hlt hj), cL_get _ _ _ _ _ hlt hj]
        rfl
      have hsz := KO2.out.2.1.size
      have hsz2 := KO2.out.2.2
      have hsz3 := b3.size
      have hin : ∀ q x, HO3 F6 F11 F12 q x → w2.heap.size ≤ x ∧ x < w3.heap.size := fun q x hx => by
        rcases hx with ⟨_, hx⟩ | ⟨_, hx⟩ | ⟨_, hx⟩
        · exact SC x (.inl hx)
        · exact SC x (.inr (.inl hx))
        · exact SC x (.inr (.inr hx))
      obtain ⟨w4, HW4⟩ : ∃ x, Hid (x = w3.setCells g (k * 13) (slC (S k) (.slice (some ⟨g6, 0, none⟩) (S k).p.m (S k).p.m) (.slice e11 (S k).ze.length h11) (.slice e12 (S k).zr.length h12)).toList) := ⟨_, rfl⟩
      have HO4 : Hid (Ow w4 w0.heap.size (.lst 62 13 n (fun i => if i < k + 1 then slD (S i) else slD slZ)) (.slice (some ⟨g, 0, none⟩) n n) (rng w0.heap.size w4.heap.size)) := by
        rw [HW4.out]
        show Ow _ _ _ _ _
        rw [size_setCells]
        refine Ow.congr (Ow.store (d := slD (S k)) O3 hlt rfl (fun q hq => ow_slotO (B := w0.heap.size) ⟨SO.t.base hsz, SO.e.base hsz, SO.z.base hsz, SO.d1, SO.d2, SO.d3⟩ q hq) ?_ ?_ ?_ ?_) ?_
        · intro q x _ hx hf
          have h2 := hf.2
          have h3 := (hin q x hx).1
          omega
        · intro q q' x _ _ hx hx'
          rcases hx with ⟨e1, hx⟩ | ⟨e1, hx⟩ | ⟨e1, hx⟩ <;> rcases hx' with ⟨e2, hx'⟩ | ⟨e2, hx'⟩ | ⟨e2, hx'⟩
          · omega
          · exact absurd hx' (SO.d1 x hx)
          · exact absurd hx' (SO.d2 x hx)
          · exact absurd hx (SO.d1 x hx')
          · omega
          · exact absurd hx' (SO.d3 x hx)
          · exact absurd hx (SO.d2 x hx')
          · exact absurd hx (SO.d3 x hx')
          · omega
        · intro x hx
          exact ⟨hx.1, by have := hx.2; omega⟩
        · intro q x _ hx
          have h3 := hin q x hx
          exact ⟨by omega, h3.2⟩
        · intro i q _ _
          by_cases e : i = k
          · subst e; simp
          · by_cases e2 : i < k
            · simp [e, e2, show i < k + 1 by omega]
            · simp [e, e2, show ¬ i < k + 1 by omega]
      have KB4 : Hid (Below w0.heap.size w0 w4) := by show Below _ _ _; rw [HW4.out]; exact below_setCells (below2 KO2.out.2.1 b3) HBg.out _ _
      clear O3 b3 SO SO' SC hin hsz hsz2 hsz3 KC R1 R2 KO2
      go_wp2_with (refine wpList_store_mid (by rfl) 62 _ _ (by rfl) g (k * 13) (slC (S k) (.slice (some ⟨g6, 0, none⟩) (S k).p.m (S k).p.m) (.slice e11 (S k).ze.length h11) (.slice e12 (S k).zr.length h12)) (by rfl) (by rfl) ?_ Tryz.infoSl (by simp [Value.oneCell']) ?_; exact TH.out; rw [← HW4.out])
      go_roundw
      case rel => exact ⟨k + 1, by omega, by go_num, HO4, KB4.out⟩
      case measure => simp [intOf]; omega
    · obtain rfl : k = n := by omega
      have RAr := RA.out.below hbel RA.out.lt
      have RDr := RD.out.below hbel RD.out.lt
      have y2 := RAr.cell 2
      have f2 := RAr.free 2
      simp at y2
      obtain ⟨w3, HW3⟩ : ∃ x, Hid (x = wr.setCell ⟨A, 2, none⟩ (.slice (some ⟨g, 0, none⟩) k k)) := ⟨_, rfl⟩
      have J3 : Hid (Row w3 A 34 #[.int .i64 id, .int .i64 f, .slice (some ⟨g, 0, none⟩) k k] ∧ Row w3 D 34 #[.int .i64 0, .int .i64 0, .slice none 0 0] ∧ Ow w3 w0.heap.size (slsD k S) (.slice (some ⟨g, 0, none⟩) k k) (rng w0.heap.size wr.heap.size) ∧ Below w.heap.size w w3) := by
        rw [HW3.out]
        refine ⟨RAr.set 2 _, RDr.other 2 _ (Ne.symm HL.out.1), ?_, (below2 KB0.out hbel).setCell HL.out.2.1 _⟩
        have : Ow wr w0.heap.size (slsD k S) (.slice (some ⟨g, 0, none⟩) k k) (rng w0.heap.size wr.heap.size) := HO.out.congr (fun i q hi _ => by simp [hi])
        exact this.far 2 _ (fun hk => by have := hk.1; have := HL.out.2.2.2.1; omega)
      have S3 : w3.heap.size = wr.heap.size := by rw [HW3.out]; simp
      obtain ⟨w7, HW7⟩ : ∃ x, Hid (x = w3.setRow D #[.int .i64 id, .int .i64 f, .slice (some ⟨g, 0, none⟩) k k]) := ⟨_, rfl⟩
      have S7 : w7.heap.size = w3.heap.size := by rw [HW7.out]; simp [World.setRow]
      have ZR : Hid (Row w7 D 34 #[.int .i64 id, .int .i64 f, .slice (some ⟨g, 0, none⟩) k k]) := by show Row _ _ _ _; rw [HW7.out]; exact J3.out.2.1.row
      have ZB : Hid (Below w.heap.size w w7) := by show Below _ _ _; rw [HW7.out]; exact belowSetRow J3.out.2.2.2 HL.out.2.2.1 _
      have ZO : Hid (Ow w7 w.heap.size (slsD k S) (.slice (some ⟨g, 0, none⟩) k k) (rng w.heap.size w7.heap.size)) := by
        show Ow _ _ _ _ _
        rw [S7, S3]
        have hw0 := KB0.out.size
        have h1 : Ow w7 w0.heap.size (slsD k S) (.slice (some ⟨g, 0, none⟩) k k) (rng w0.heap.size wr.heap.size) := by
          rw [HW7.out]
          exact J3.out.2.2.1.frame fun x hx _ => setRow_other _ _ _ _ (fun e => by have := hx.1; have := HL.out.2.2.2.2; omega)
        exact (h1.base hw0).mono (fun x hx => ⟨by have := hx.1; omega, hx.2⟩)
      clear RAr RDr hbel S3 S7
      go_wp2_with (first | (rw [← HW3.out]; refine wpList_load_row (by rfl) 34 _ (by rfl) A (by rfl) 34 #[.int .i64 id, .int .i64 f, .slice (some ⟨g, 0, none⟩) k k] (0, 0) _ ?_ Tryz.underlying34 (by rfl) Tryz.infoNd ?_; exact J3.out.1; clear y2 f2) | (refine wpList_store_row (by rfl) 34 _ _ (by rfl) D #[.int .i64 id, .int .i64 f, .slice (some ⟨g, 0, none⟩) k k] (by rfl) (by rfl) 34 #[.int .i64 0, .int .i64 0, .slice none 0 0] ?_ Tryz.infoNd rfl (by simp [Value.oneCell']) ?_; exact J3.out.2.1; rw [← HW7.out]))
      exact bodyPost_ret (v := ndV id f (.slice (some ⟨g, 0, none⟩) k k)) (results_cell_row Tryz.results73 _ _ D 34 _ (0, 0) _ (by rfl) ZR.out Tryz.underlying34 (by rfl) Tryz.infoNd) rfl ⟨g, rfl, ZO.out, ZB.out⟩
end Go.Proofs.YtgiegoamcfjfmaaGreat
/- Whether a node makes anything of a saying, in the program. Conditions: lists of at most 2^20. -/
namespace Go.Proofs.YtgiegoamcfjfmaaGreat
set_option maxRecDepth 2000
open Go.ChangeShapes Go.WideShapes Go.ChangeAt Go.RowKit

/-- What a node that is right minds. -/
def MindP (id f : Int) (n : Nat) (S : Nat → Sl) (y : Sy) : Prop := y.t = id ∧ (y.f = -1 ∨ (0 ≤ y.f ∧ y.f < 3 * f + 1)) ∧ (0 ≤ y.k ∧ y.k ≤ 2) ∧ y.r.size = 16 ∧ (n < 40 ∨ 0 ≤ plX S y.r n)
noncomputable def mindB (id f : Int) (n : Nat) (S : Nat → Sl) (y : Sy) : Bool := @decide (MindP id f n S y) (Classical.propDecidable _)
theorem mindB_yes {id f : Int} {n : Nat} {S : Nat → Sl} {y : Sy} (h : MindP id f n S y) : mindB id f n S y = true := by unfold mindB; exact @decide_eq_true _ (Classical.propDecidable _) h
theorem mindB_no {id f : Int} {n : Nat} {S : Nat → Sl} {y : Sy} (h : ¬ MindP id f n S y) : mindB id f n S y = false := by unfold mindB; exact @decide_eq_false _ (Classical.propDecidable _) h
set_option maxHeartbeats 4000000 in
theorem minds_any (id f : Int) (a : Option Addr) (n cap : Nat) (S : Nat → Sl) (y : Sy) (a9 : Option Addr) (m9 c9 : Nat) (w : World) (h : Rd w (slsD n S) (.slice a n cap)) (hn : n ≤ 1048576) (hf : 1 ≤ f ∧ f ≤ 3) :
    Calls Tryz.prog 74 #[ndV id f (.slice a n cap), syV y (.slice a9 m9 c9)] w fun e w' => e = .returned (.bool (mindB id f n S y)) ∧ Below w.heap.size w w' := by
  obtain ⟨A, HA⟩ : ∃ x, Hid (x = w.heap.size) := ⟨_, rfl⟩
  obtain ⟨w0, HW0⟩ : ∃ x, Hid (x = (w.alloc (.cells #[.int .i64 id, .int .i64 f, .slice a n cap] 34)).alloc (.cells (syC y (.slice a9 m9 c9)) 41)) := ⟨_, rfl⟩
  obtain ⟨C, HC⟩ : ∃ x, Hid (x = w.heap.size + 1) := ⟨_, rfl⟩
  have RA : Hid (Row w0 A 34 #[.int .i64 id, .int .i64 f, .slice a n cap]) := by show Row _ _ _ _; rw [HW0.out, HA.out]; exact Row.alloc (Row.new w _ _) _
  have RC : Hid (Row w0 C 41 (syC y (.slice a9 m9 c9))) := by
    show Row _ _ _ _
    rw [HW0.out, HC.out]
    have := Row.new (w.alloc (.cells #[.int .i64 id, .int .i64 f, .slice a n cap] 34)) (syC y (.slice a9 m9 c9)) 41
    simpa using this
  have hb0 : Below w.heap.size w w0 := by rw [HW0.out]; exact ((Below.refl _ _).alloc (Nat.le_refl _) _).alloc (by simp) _
  have KB0 : Hid (Below w.heap.size w w0) := hb0
  have KK : Hid (∀ W, Calls Tryz.prog 133 #[ndV id f (.slice a n cap), .int .i64 y.f] W fun e w' => e = .returned (.bool (decide (0 ≤ y.f ∧ y.f < 3 * f + 1))) ∧ Below W.heap.size W w') := fun W => knows_any id f y.f _ W hf
  have KP : Hid (∀ W, Below w0.heap.size w0 W → Calls Tryz.prog 96 #[ndV id f (.slice a n cap), .string y.r] W fun e w' => e = .returned (.int .i64 (plX S y.r n)) ∧ Below W.heap.size W w') := fun W hW => placeOf_any id f a n cap S y.r W ((h.below hb0).below hW) hn
  clear h hb0
  by_cases h1 : y.t = id
  case neg =>
    have HR : Hid (mindB id f n S y = false) := mindB_no (fun k => h1 k.1)
    have h1' : (y.t != id) = true := by simpa using h1
    have x0 := RA.out.cell 0
    have x2 := RC.out.cell 2
    simp at x0 x2
    go_enter Tryz.func74, Tryz.ntmps74
    go_wp2_with fail
    rw [← HW0.out]
    go_ret
    exact ⟨by rw [HR.out]; rfl, KB0.out⟩
  obtain ⟨kb, HKB⟩ : ∃ x, Hid (decide (0 ≤ y.f ∧ y.f < 3 * f + 1) = x) := ⟨_, rfl⟩
  rw [HKB.out] at KK
  have h1' : (y.t != id) = false := by simpa using h1
  have c0 := RA.out.cell 0
  have c1 := RA.out.cell 1
  have c2 := RA.out.cell 2
  have d1 := RC.out.cell 1
  have d2 := RC.out.cell 2
  simp at c0 c1 c2 d1 d2
  have H1 : Hid (y.t = id) := h1
  by_cases h2 : y.f = -1
  · have h2' : (y.f != -1) = false := by simpa using h2
    have HQ : Hid (y.f = -1 ∨ (0 ≤ y.f ∧ y.f < 3 * f + 1)) := .inl h2
    have KX : Hid (Below w0.heap.size w0 w0) := Below.refl _ _
    clear h2
    have RAx := RA.out.below KX.out RA.out.lt
    have RCx := RC.out.below KX.out RC.out.lt
    have x2 := RAx.cell 2
    have q0 := RCx.cell 0
    have q3 := RCx.cell 3
    have r0 := RAx.cell 0
    have r1 := RAx.cell 1
    simp at x2 q0 q3 r0 r1
    have HBX : Hid (Below w.heap.size w w0) := below2 KB0.out KX.out
    clear RAx RCx
    by_cases h3 : y.k < 0
    case pos =>
      have HR : Hid (mindB id f n S y = false) := mindB_no (fun k => by have := k.2.2.1; omega)
      go_enter Tryz.func74, Tryz.ntmps74
      go_upto_region 1 with fail
      rw [← HW0.out, ← HC.out, ← HA.out]
      go_wp2
      go_ret
      exact ⟨by rw [HR.out]; rfl, HBX.out⟩
    by_cases h4 : y.k > 2
    case pos =>
      have HR : Hid (mindB id f n S y = false) := mindB_no (fun k => by have := k.2.2.1; omega)
      go_enter Tryz.func74, Tryz.ntmps74
      go_upto_region 1 with fail
      rw [← HW0.out, ← HC.out, ← HA.out]
      go_wp2
      go_ret
      exact ⟨by rw [HR.out]; rfl, HBX.out⟩
    by_cases h5 : y.r.size = 16
    case neg =>
      have HR : Hid (mindB id f n S y = false) := mindB_no (fun k => h5 k.2.2.2.1)
      have h5' : ((y.r.size : Int) != 16) = true := by simp; omega
      go_enter Tryz.func74, Tryz.ntmps74
      go_upto_region 1 with fail
      rw [← HW0.out, ← HC.out, ← HA.out]
      go_wp2
      go_ret
      exact ⟨by rw [HR.out]; rfl, HBX.out⟩
    have h5' : ((y.r.size : Int) != 16) = false := by simp; omega
    have H5 : Hid (y.r.size = 16) := h5
    by_cases h6 : n < 40
    case pos =>
      have HR : Hid (mindB id f n S y = true) := mindB_yes ⟨h1, HQ.out, ⟨by omega, by omega⟩, h5, .inl h6⟩
      have h6' : (n : Int) < 40 := by omega
      clear h5 h6
      go_enter Tryz.func74, Tryz.ntmps74
      go_upto_region 1 with fail
      rw [← HW0.out, ← HC.out, ← HA.out]
      go_wp2
      go_ret
      exact ⟨by rw [HR.out]; rfl, HBX.out⟩
    have h6' : ¬ ((n : Int) < 40) := by omega
    have KPx : Hid _ := KP.out w0 KX.out
    obtain ⟨px, HPX⟩ : ∃ x, Hid (plX S y.r n = x) := ⟨_, rfl⟩
    rw [HPX.out] at KPx
    have HR : Hid (mindB id f n S y = decide (px ≥ 0)) := by
      show _ = _
      by_cases h7 : px ≥ 0
      · rw [mindB_yes ⟨h1, HQ.out, ⟨by omega, by omega⟩, h5, .inr (by rw [HPX.out]; exact h7)⟩, decide_eq_true h7]
      · rw [mindB_no (fun k => by rcases k.2.2.2.2 with k | k; exact h6 k; rw [HPX.out] at k; exact h7 k), decide_eq_false h7]
    clear h5 h6
    go_enter Tryz.func74, Tryz.ntmps74
    go_upto_region 1 with fail
    rw [← HW0.out, ← HC.out, ← HA.out]
    go_wp2_with fail
    refine Calls.mono KPx.out ?_
    rintro e wp ⟨rfl, bp⟩
    have HBP : Hid (Below w.heap.size w wp) := below2 HBX.out bp
    clear bp
    go_wp2
    go_ret
    exact ⟨by rw [HR.out]; first | rfl | (show Ending.returned (Value.bool (decide ((n : Int) < 40) || decide (0 ≤ px))) = _; rw [decide_eq_false (by omega)]; rfl), HBP.out⟩
  · have h2' : (y.f != -1) = true := by simpa using h2
    cases kb with
    | false =>
      have HR : Hid (mindB id f n S y = false) := mindB_no (fun k => by
        rcases k.2.1 with k | k
        · exact h2 k
        · exact of_decide_eq_false HKB.out k)
      clear h2
      go_enter Tryz.func74, Tryz.ntmps74
      go_wp2_with fail
      rw [← HW0.out]
      refine Calls.mono (KK.out _) ?_
      rintro e w1 ⟨rfl, b1⟩
      go_wp2
      go_ret
      exact ⟨by rw [HR.out]; rfl, below2 KB0.out b1⟩
    | true =>
      have HQ : Hid (y.f = -1 ∨ (0 ≤ y.f ∧ y.f < 3 * f + 1)) := .inr (of_decide_eq_true HKB.out)
      clear h2
      go_enter Tryz.func74, Tryz.ntmps74
      go_wp2_with fail
      rw [← HW0.out, ← HC.out, ← HA.out]
      refine Calls.mono (KK.out _) ?_
      rintro e w1 ⟨rfl, b1⟩
      have KX : Hid (Below w0.heap.size w0 w1) := b1
      clear b1 c0 c1 c2 d1 d2
      have RAx := RA.out.below KX.out RA.out.lt
      have RCx := RC.out.below KX.out RC.out.lt
      have x2 := RAx.cell 2
      have q0 := RCx.cell 0
      have q3 := RCx.cell 3
      have r0 := RAx.cell 0
      have r1 := RAx.cell 1
      simp at x2 q0 q3 r0 r1
      have HBX : Hid (Below w.heap.size w w1) := below2 KB0.out KX.out
      clear RAx RCx
      by_cases h3 : y.k < 0
      case pos =>
        have HR : Hid (mindB id f n S y = false) := mindB_no (fun k => by have := k.2.2.1; omega)
        go_wp2
        go_ret
        exact ⟨by rw [HR.out]; rfl, HBX.out⟩
      by_cases h4 : y.k > 2
      case pos =>
        have HR : Hid (mindB id f n S y = false) := mindB_no (fun k => by have := k.2.2.1; omega)
        go_wp2
        go_ret
        exact ⟨by rw [HR.out]; rfl, HBX.out⟩
      by_cases h5 : y.r.size = 16
      case neg =>
        have HR : Hid (mindB id f n S y = false) := mindB_no (fun k => h5 k.2.2.2.1)
        have h5' : ((y.r.size : Int) != 16) = true := by simp; omega
        go_wp2
        go_ret
        exact ⟨by rw [HR.out]; rfl, HBX.out⟩
      have h5' : ((y.r.size : Int) != 16) = false := by simp; omega
      have H5 : Hid (y.r.size = 16) := h5
      by_cases h6 : n < 40
      case pos =>
        have HR : Hid (mindB id f n S y = true) := mindB_yes ⟨h1, HQ.out, ⟨by omega, by omega⟩, h5, .inl h6⟩
        have h6' : (n : Int) < 40 := by omega
        clear h5 h6
        go_wp2
        go_ret
        exact ⟨by rw [HR.out]; rfl, HBX.out⟩
      have h6' : ¬ ((n : Int) < 40) := by omega
      have KPx : Hid _ := KP.out w1 KX.out
      obtain ⟨px, HPX⟩ : ∃ x, Hid (plX S y.r n = x) := ⟨_, rfl⟩
      rw [HPX.out] at KPx
      have HR : Hid (mindB id f n S y = decide (px ≥ 0)) := by
        show _ = _
        by_cases h7 : px ≥ 0
        · rw [mindB_yes ⟨h1, HQ.out, ⟨by omega, by omega⟩, h5, .inr (by rw [HPX.out]; exact h7)⟩, decide_eq_true h7]
        · rw [mindB_no (fun k => by rcases k.2.2.2.2 with k | k; exact h6 k; rw [HPX.out] at k; exact h7 k), decide_eq_false h7]
      clear h5 h6
      go_wp2_with fail
      refine Calls.mono KPx.out ?_
      rintro e wp ⟨rfl, bp⟩
      have HBP : Hid (Below w.heap.size w wp) := below2 HBX.out bp
      clear bp
      go_wp2
      go_ret
      exact ⟨by rw [HR.out]; first | rfl | (show Ending.returned (Value.bool (decide ((n : Int) < 40) || decide (0 ≤ px))) = _; rw [decide_eq_false (by omega)]; rfl), HBP.out⟩
end Go.Proofs.YtgiegoamcfjfmaaGreat
/- One slot that the exact laws mark and ask for its marks. Conditions: lists of at most 2^20. -/
namespace Go.Proofs.YtgiegoamcfjfmaaGreat
set_option maxRecDepth 2000
open Go.ChangeShapes Go.WideShapes Go.ChangeAt Go.RowKit

end Go.Proofs.YtgiegoamcfjfmaaGreat
