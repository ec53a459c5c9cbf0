/- A slot, copied, in the model. Conditions: lists of at most 2^20. Written by a program. -/
import Derived.Test.YtjhbjfplgmcbpaaI30
import Derived.Deep.CutRange
import Derived.Test.YtjhbjfplgmcbpaaI19
import Derived.Test.YtjhbjfplgmcbpaaI23
import Derived.Test.YtjhbjfplgmcbpaaI20
import Derived.Test.YtjhbjfplgmcbpaaI26
namespace Go.Proofs.Ytjhbjfplgmcbpaa
set_option maxRecDepth 2000
open Go.ChangeShapes Go.WideShapes Go.ChangeAt Go.RowKit

set_option maxHeartbeats 4000000 in
theorem sCopyS_any (s : Sl) (a6 a11 a12 : Option Addr) (c6 c11 c12 : Nat) (w : World) (h6 : TxtAt w a6 s.p.m s.p.S) (h11 : IntsAt w a11 s.ze.length s.ze) (h12 : IntsAt w a12 s.zr.length s.zr) (hs : SlS s) :
    Calls Try.prog 53 #[slV s (.slice a6 s.p.m c6) (.slice a11 s.ze.length c11) (.slice a12 s.zr.length c12)] w fun e w' => ∃ (g6 g11 g12 h6 h11 h12 : Nat) (F6 F11 F12 : Nat → Prop), e = .returned (slV s (.slice (some ⟨g6, 0, none⟩) s.p.m h6) (.slice (some ⟨g11, 0, none⟩) s.ze.length h11) (.slice (some ⟨g12, 0, none⟩) s.zr.length h12)) ∧ SlO w' w.heap.size s (.slice (some ⟨g6, 0, none⟩) s.p.m h6) (.slice (some ⟨g11, 0, none⟩) s.ze.length h11) (.slice (some ⟨g12, 0, none⟩) s.zr.length h12) F6 F11 F12 ∧ Below w.heap.size w w' := by
  obtain ⟨A, HA⟩ : ∃ x, Hid (x = w.heap.size) := ⟨_, rfl⟩
  obtain ⟨D, HD⟩ : ∃ x, Hid (x = w.heap.size + 1) := ⟨_, rfl⟩
  obtain ⟨w0, HW0⟩ : ∃ x, Hid (x = (w.alloc (.cells (slC s (.slice a6 s.p.m c6) (.slice a11 s.ze.length c11) (.slice a12 s.zr.length c12)) 60)).alloc (.cells #[.string ⟨#[]⟩, .string ⟨#[]⟩, .int .i64 0, .int .i64 0, .int .i64 0, .string ⟨#[]⟩, .slice none 0 0, .bool false, .bool false, .bool false, .bool false, .slice none 0 0, .slice none 0 0] 60)) := ⟨_, rfl⟩
  have RA : Hid (Row w0 A 60 (slC s (.slice a6 s.p.m c6) (.slice a11 s.ze.length c11) (.slice a12 s.zr.length c12))) := by show Row _ _ _ _; rw [HW0.out, HA.out]; exact Row.alloc (Row.new w _ _) _
  have RD : Hid (Row w0 D 60 #[.string ⟨#[]⟩, .string ⟨#[]⟩, .int .i64 0, .int .i64 0, .int .i64 0, .string ⟨#[]⟩, .slice none 0 0, .bool false, .bool false, .bool false, .bool false, .slice none 0 0, .slice none 0 0]) := by
    show Row _ _ _ _
    rw [HW0.out, HD.out]
    have := Row.new (w.alloc (.cells (slC s (.slice a6 s.p.m c6) (.slice a11 s.ze.length c11) (.slice a12 s.zr.length c12)) 60)) #[.string ⟨#[]⟩, .string ⟨#[]⟩, .int .i64 0, .int .i64 0, .int .i64 0, .string ⟨#[]⟩, .slice none 0 0, .bool false, .bool false, .bool false, .bool false, .slice none 0 0, .slice none 0 0] 60
    simpa using this
  have hb0 : Below w.heap.size w w0 := by rw [HW0.out]; exact ((Below.refl _ _).alloc (Nat.le_refl _) _).alloc (by simp) _
  have KB0 : Hid (Below w.heap.size w w0) := hb0
  have HL : Hid (A ≠ D ∧ w.heap.size ≤ A ∧ w.heap.size ≤ D ∧ A < w0.heap.size ∧ D < w0.heap.size) := ⟨by have := HA.out; have := HD.out; omega, by have := HA.out; omega, by have := HD.out; omega, RA.out.lt, RD.out.lt⟩
  have KC : Hid _ := sCopyP_any s.p.r s.p.k s.p.n s.p.i s.p.b a6 s.p.m c6 s.p.S w0 (h6.below hb0) hs.1
  have KI1 : Hid (IntsAt w a11 s.ze.length s.ze) := h11
  have KI2 : Hid (IntsAt w a12 s.zr.length s.zr) := h12
  have KS : Hid (SlS s) := hs
  clear h6 h11 h12 hs hb0
  go_enter Try.func53, Try.ntmps53
  go_wp2_with fail
  rw [← HW0.out, ← HD.out, ← HA.out]
  refine Calls.mono KC.out ?_
  rintro e w1 ⟨g6, h6, rfl, O1, b1⟩
  have RA1 := RA.out.below b1 RA.out.lt
  have RD1 := RD.out.below b1 RD.out.lt
  have y1 := RA1.cell 1
  have f1 := RA1.free 1
  have y2 := RA1.cell 2
  have f2 := RA1.free 2
  have y3 := RA1.cell 3
  have f3 := RA1.free 3
  have y4 := RA1.cell 4
  have f4 := RA1.free 4
  have y5 := RA1.cell 5
  have f5 := RA1.free 5
  have y6 := RA1.cell 6
  have f6 := RA1.free 6
  simp at y1 y2 y3 y4 y5 y6
  obtain ⟨w2, HW2⟩ : ∃ x, Hid (x = ((((((w1.setCell ⟨A, 1, none⟩ (.string s.p.r)).setCell ⟨A, 2, none⟩ (.int .i64 s.p.k)).setCell ⟨A, 3, none⟩ (.int .i64 s.p.n)).setCell ⟨A, 4, none⟩ (.int .i64 s.p.i)).setCell ⟨A, 5, none⟩ (.string s.p.b)).setCell ⟨A, 6, none⟩ (.slice (some ⟨g6, 0, none⟩) s.p.m h6))) := ⟨_, rfl⟩
  obtain ⟨G1, HGW⟩ : ∃ x, Hid (x = w1.heap.size) := ⟨_, rfl⟩
  have sz2 : w2.heap.size = w1.heap.size := by rw [HW2.out]; simp
  have HG1 : Hid (G1 = w2.heap.size) := by show _ = _; rw [sz2]; exact HGW.out
  have l6 := World.ownsRow.lt O1 g6 rfl
  have K2 : Hid (Row w2 A 60 (slC s (.slice (some ⟨g6, 0, none⟩) s.p.m h6) (.slice a11 s.ze.length c11) (.slice a12 s.zr.length c12)) ∧ Row w2 D 60 #[.string ⟨#[]⟩, .string ⟨#[]⟩, .int .i64 0, .int .i64 0, .int .i64 0, .string ⟨#[]⟩, .slice none 0 0, .bool false, .bool false, .bool false, .bool false, .slice none 0 0, .slice none 0 0] ∧ OwnT w2 w0.heap.size (some ⟨g6, 0, none⟩) s.p.m h6 s.p.S ∧ Below w.heap.size w w2) := by
    rw [HW2.out]
    exact ⟨(((((RA1.set 1 _).set 2 _).set 3 _).set 4 _).set 5 _).set 6 _, (((((RD1.other 1 _ (Ne.symm HL.out.1)).other 2 _ (Ne.symm HL.out.1)).other 3 _ (Ne.symm HL.out.1)).other 4 _ (Ne.symm HL.out.1)).other 5 _ (Ne.symm HL.out.1)).other 6 _ (Ne.symm HL.out.1), (((((O1.setFar HL.out.2.2.2.1).setFar HL.out.2.2.2.1).setFar HL.out.2.2.2.1).setFar HL.out.2.2.2.1).setFar HL.out.2.2.2.1).setFar HL.out.2.2.2.1, ((((((below2 KB0.out b1).setCell HL.out.2.1 _).setCell HL.out.2.1 _).setCell HL.out.2.1 _).setCell HL.out.2.1 _).setCell HL.out.2.1 _).setCell HL.out.2.1 _⟩
  have HQ1 : Hid (g6 < G1 ∧ w0.heap.size ≤ g6 ∧ w0.heap.size ≤ G1) := by have := HG1.out; have := l6.1; have := l6.2; exact ⟨by omega, by omega, by omega⟩
  have lA2 := K2.out.1.lt
  clear O1 b1 RA1 RD1 l6
  go_upto_region 2 with fail
  rw [← HW2.out]
  clear y1 f1 y2 f2 y3 f3 y4 f4 y5 f5 y6 f6 sz2
  go_cut [] from 7 to 11 (fun wx => Hid (∃ g11 h11, Row wx A 60 (slC s (.slice (some ⟨g6, 0, none⟩) s.p.m h6) (.slice (some ⟨g11, 0, none⟩) s.ze.length h11) (.slice a12 s.zr.length c12)) ∧ Row wx D 60 #[.string ⟨#[]⟩, .string ⟨#[]⟩, .int .i64 0, .int .i64 0, .int .i64 0, .string ⟨#[]⟩, .slice none 0 0, .bool false, .bool false, .bool false, .bool false, .slice none 0 0, .slice none 0 0] ∧ OwnT wx w0.heap.size (some ⟨g6, 0, none⟩) s.p.m h6 s.p.S ∧ wx.ownsRow G1 3 1 (.slice (some ⟨g11, 0, none⟩) s.ze.length h11) s.ze.length (s.ze.map (Value.int .i64)) ∧ Below w.heap.size w wx))
  case first =>
    have HOa : Hid ((w2.alloc (.cells #[] 3)).ownsRow G1 3 1 (.slice (some ⟨G1, 0, none⟩) 0 0) 0 []) := by
      show World.ownsRow _ _ _ _ _ _ _
      rw [HG1.out]
      have := World.ownsRow_lit (e := 3) (size := 1) (base := w2.heap.size) w2 #[] 0 (by simp) (by unfold maxLen; omega) (by simp)
      exact this
    have HIa : Hid (IntsAt (w2.alloc (.cells #[] 3)) a11 s.ze.length s.ze) := (KI1.out.below K2.out.2.2.2).below ((Below.refl _ _).alloc (Nat.le_refl _) _)
    have z11 := K2.out.1.cell 11
    simp at z11
    have HLe : Hid (G1 ≤ (w2.alloc (.cells #[] 3)).heap.size) := by rw [HG1.out]; show _ ≤ _; simp
    have hG1' := HG1.out
    rw [hG1'] at HOa HLe
    go_wp2_with (at_builtin; refine wpList_app_ints _ (by rfl) _ _ (by rfl) w2.heap.size w2.heap.size (by rfl) ?_ a11 s.ze c11 (by rfl) ?_ KS.out.2.1 ?_ ?_; exact HOa.out; exact HIa.out; exact HLe.out; intro g11 h11 w4 hown4 hgrow4; have b24 : Below w2.heap.size w2 w4 := ((Below.refl _ _).alloc (Nat.le_refl _) _).grown hgrow4 (by simp) (fun x hx => by cases hx; exact Nat.le_refl _); have R4 := K2.out.1.below b24 lA2; have v11 := R4.cell 11; have u11 := R4.free 11; simp at v11; have KB24 : Hid _ := b24; have KO4 : Hid _ := hown4; clear hown4 hgrow4 z11 b24 R4)
    go_meet
    have l11 := World.ownsRow.lt KO4.out g11 rfl
    refine ⟨g11, h11, (K2.out.1.below KB24.out lA2).set 11 _, (K2.out.2.1.below KB24.out K2.out.2.1.lt).other 11 _ (Ne.symm HL.out.1), (K2.out.2.2.1.below KB24.out).setFar HL.out.2.2.2.1, ?_, (below2 K2.out.2.2.2 KB24.out).setCell HL.out.2.1 _⟩
    rw [hG1']
    exact own_kept KO4.out (grown_set _ _ _ _) (fun x e => by cases e; show g11 ≠ A; have := l11.1; omega)
  obtain ⟨g11, h11, RAc, RDc, O6c, O11c, Bc⟩ := hcut.out
  clear hcut
  have lAc := RAc.lt
  have KC2 : Hid (Row wc A 60 (slC s (.slice (some ⟨g6, 0, none⟩) s.p.m h6) (.slice (some ⟨g11, 0, none⟩) s.ze.length h11) (.slice a12 s.zr.length c12)) ∧ Row wc D 60 #[.string ⟨#[]⟩, .string ⟨#[]⟩, .int .i64 0, .int .i64 0, .int .i64 0, .string ⟨#[]⟩, .slice none 0 0, .bool false, .bool false, .bool false, .bool false, .slice none 0 0, .slice none 0 0] ∧ OwnT wc w0.heap.size (some ⟨g6, 0, none⟩) s.p.m h6 s.p.S ∧ wc.ownsRow G1 3 1 (.slice (some ⟨g11, 0, none⟩) s.ze.length h11) s.ze.length (s.ze.map (Value.int .i64)) ∧ Below w.heap.size w wc) := ⟨RAc, RDc, O6c, O11c, Bc⟩
  clear RAc RDc O6c O11c Bc HW2 HGW K2 HG1
  go_upto_region 3 with fail
  obtain ⟨wb, HWB⟩ : ∃ x, x = wc := ⟨wc, rfl⟩
  subst HWB
  go_cut [] from 12 to 16 (fun wx => Hid (∃ g12 h12, Row wx A 60 (slC s (.slice (some ⟨g6, 0, none⟩) s.p.m h6) (.slice (some ⟨g11, 0, none⟩) s.ze.length h11) (.slice (some ⟨g12, 0, none⟩) s.zr.length h12)) ∧ Row wx D 60 #[.string ⟨#[]⟩, .string ⟨#[]⟩, .int .i64 0, .int .i64 0, .int .i64 0, .string ⟨#[]⟩, .slice none 0 0, .bool false, .bool false, .bool false, .bool false, .slice none 0 0, .slice none 0 0] ∧ OwnT wx w0.heap.size (some ⟨g6, 0, none⟩) s.p.m h6 s.p.S ∧ wx.ownsRow G1 3 1 (.slice (some ⟨g11, 0, none⟩) s.ze.length h11) s.ze.length (s.ze.map (Value.int .i64)) ∧ wx.ownsRow wb.heap.size 3 1 (.slice (some ⟨g12, 0, none⟩) s.zr.length h12) s.zr.length (s.zr.map (Value.int .i64)) ∧ Below w.heap.size w wx))
  case first =>
    have HOa : Hid ((wb.alloc (.cells #[] 3)).ownsRow wb.heap.size 3 1 (.slice (some ⟨wb.heap.size, 0, none⟩) 0 0) 0 []) := World.ownsRow_lit (e := 3) (size := 1) (base := wb.heap.size) wb #[] 0 (by simp) (by unfold maxLen; omega) (by simp)
    have HIa : Hid (IntsAt (wb.alloc (.cells #[] 3)) a12 s.zr.length s.zr) := (KI2.out.below KC2.out.2.2.2.2).below ((Below.refl _ _).alloc (Nat.le_refl _) _)
    have z12 := KC2.out.1.cell 12
    simp at z12
    have HLe : Hid (wb.heap.size ≤ (wb.alloc (.cells #[] 3)).heap.size) := by show _ ≤ _; simp
    go_wp2_with (at_builtin; refine wpList_app_ints _ (by rfl) _ _ (by rfl) wb.heap.size wb.heap.size (by rfl) ?_ a12 s.zr c12 (by rfl) ?_ KS.out.2.2 ?_ ?_; exact HOa.out; exact HIa.out; exact HLe.out; intro g12 h12 w4 hown4 hgrow4; have b24 : Below wb.heap.size wb w4 := ((Below.refl _ _).alloc (Nat.le_refl _) _).grown hgrow4 (by simp) (fun x hx => by cases hx; exact Nat.le_refl _); have R4 := KC2.out.1.below b24 lAc; have v12 := R4.cell 12; have u12 := R4.free 12; simp at v12; have KB24 : Hid _ := b24; have KO4 : Hid _ := hown4; clear hown4 hgrow4 z12 b24 R4)
    go_meet
    have l12 := World.ownsRow.lt KO4.out g12 rfl
    have l11 := World.ownsRow.lt KC2.out.2.2.2.1 g11 rfl
    have hw0G := HQ1.out.2.2
    have hA0 := HL.out.2.2.2.1
    exact ⟨g12, h12, (KC2.out.1.below KB24.out lAc).set 12 _, (KC2.out.2.1.below KB24.out KC2.out.2.1.lt).other 12 _ (Ne.symm HL.out.1), (KC2.out.2.2.1.below KB24.out).setFar HL.out.2.2.2.1, own_kept (ownsRow_below KC2.out.2.2.2.1 KB24.out) (grown_set _ _ _ _) (fun x e => by cases e; show g11 ≠ A; have := l11.1; omega), own_kept KO4.out (grown_set _ _ _ _) (fun x e => by cases e; show g12 ≠ A; have := l12.1; omega), (below2 KC2.out.2.2.2.2 KB24.out).setCell HL.out.2.1 _⟩
  obtain ⟨g12, h12, RAd, RDd, O6, O11, O12, Bd⟩ := hcut.out
  clear hcut
  have l11 := World.ownsRow.lt KC2.out.2.2.2.1 g11 rfl
  have l12 := World.ownsRow.lt O12 g12 rfl
  have hq := HQ1.out
  have hl := HL.out
  have w0w : w.heap.size ≤ w0.heap.size := KB0.out.size
  have HA6 : Hid (Row wc A 60 (slC s (.slice (some ⟨g6, 0, none⟩) s.p.m h6) (.slice (some ⟨g11, 0, none⟩) s.ze.length h11) (.slice (some ⟨g12, 0, none⟩) s.zr.length h12))) := RAd
  have HD6 : Hid (Row wc D 60 #[.string ⟨#[]⟩, .string ⟨#[]⟩, .int .i64 0, .int .i64 0, .int .i64 0, .string ⟨#[]⟩, .slice none 0 0, .bool false, .bool false, .bool false, .bool false, .slice none 0 0, .slice none 0 0]) := RDd
  obtain ⟨w7, HW7⟩ : ∃ x, Hid (x = wc.setRow D (slC s (.slice (some ⟨g6, 0, none⟩) s.p.m h6) (.slice (some ⟨g11, 0, none⟩) s.ze.length h11) (.slice (some ⟨g12, 0, none⟩) s.zr.length h12))) := ⟨_, rfl⟩
  have ZR : Hid (Row w7 D 60 (slC s (.slice (some ⟨g6, 0, none⟩) s.p.m h6) (.slice (some ⟨g11, 0, none⟩) s.ze.length h11) (.slice (some ⟨g12, 0, none⟩) s.zr.length h12))) := by show Row _ _ _ _; rw [HW7.out]; exact RDd.row
  have ZB : Hid (Below w.heap.size w w7) := by show Below _ _ _; rw [HW7.out]; exact belowSetRow Bd hl.2.2.1 _
  have HSO : Hid (SlO w7 w.heap.size s (.slice (some ⟨g6, 0, none⟩) s.p.m h6) (.slice (some ⟨g11, 0, none⟩) s.ze.length h11) (.slice (some ⟨g12, 0, none⟩) s.zr.length h12) (fun x => x = g6) (fun x => x = g11) (fun x => x = g12)) := by
    refine ⟨?_, ?_, ?_, fun x e1 e2 => ?_, fun x e1 e2 => ?_, fun x e1 e2 => ?_⟩
    · rw [HW7.out]
      exact ow_txt (own_kept (OwnT.base O6 w0w) (grown_row _ _ _) (fun x e => by cases e; show g6 ≠ D; omega)) (fun x e => by cases e; rfl)
    · rw [HW7.out]
      exact ow_ints (own_base (own_kept O11 (grown_row _ _ _) (fun x e => by cases e; show g11 ≠ D; omega)) (by omega)) (fun x e => by cases e; rfl)
    · rw [HW7.out]
      exact ow_ints (own_base (own_kept O12 (grown_row _ _ _) (fun x e => by cases e; show g12 ≠ D; omega)) (by omega)) (fun x e => by cases e; rfl)
    · omega
    · omega
    · omega
  clear RAd RDd O6 O11 O12 Bd l11 l12 hq hl w0w KC2
  go_wp2_with (first | (refine wpList_load_row (by rfl) 60 _ (by rfl) A (by rfl) 60 (slC s (.slice (some ⟨g6, 0, none⟩) s.p.m h6) (.slice (some ⟨g11, 0, none⟩) s.ze.length h11) (.slice (some ⟨g12, 0, none⟩) s.zr.length h12)) (0, 0) _ ?_ Try.underlying60 (by rfl) Try.infoSl ?_; exact HA6.out) | (refine wpList_store_row (by rfl) 60 _ _ (by rfl) D (slC s (.slice (some ⟨g6, 0, none⟩) s.p.m h6) (.slice (some ⟨g11, 0, none⟩) s.ze.length h11) (.slice (some ⟨g12, 0, none⟩) s.zr.length h12)) (by rfl) (by rfl) 60 #[.string ⟨#[]⟩, .string ⟨#[]⟩, .int .i64 0, .int .i64 0, .int .i64 0, .string ⟨#[]⟩, .slice none 0 0, .bool false, .bool false, .bool false, .bool false, .slice none 0 0, .slice none 0 0] ?_ Try.infoSl rfl (by simp [Value.oneCell']) ?_; exact HD6.out; rw [← HW7.out]))
  exact bodyPost_ret (v := slV s (.slice (some ⟨g6, 0, none⟩) s.p.m h6) (.slice (some ⟨g11, 0, none⟩) s.ze.length h11) (.slice (some ⟨g12, 0, none⟩) s.zr.length h12)) (results_cell_row Try.results53 _ _ D 60 _ (0, 0) _ (by rfl) ZR.out Try.underlying60 (by rfl) Try.infoSl) rfl ⟨g6, g11, g12, h6, h11, h12, _, _, _, rfl, HSO.out, ZB.out⟩
end Go.Proofs.Ytjhbjfplgmcbpaa
/- The slot of a root, in the program and in the model. Conditions: lists and texts of at most 2^20. Written by a program. -/
namespace Go.Proofs.Ytjhbjfplgmcbpaa
set_option maxRecDepth 2000
open Go.ChangeShapes Go.WideShapes Go.ChangeAt Go.RowKit

/-- A slot that is ours, behind a store into another block. -/
theorem SlO.setRow {w : World} {B B' : Nat} {s : Sl} {v6 v11 v12 : Value} {F6 F11 F12 : Nat → Prop} (h : SlO w B s v6 v11 v12 F6 F11 F12) (D : Nat) (cs : Array Value) (hD : D < B) (hB : B' ≤ B) : ∃ F6 F11 F12, SlO (w.setRow D cs) B' s v6 v11 v12 F6 F11 F12 :=
  ⟨_, _, _, ⟨(h.t.cut.base hB).frame fun x hx _ => setRow_other _ _ _ _ (fun e => by have := hx.2.1; omega), (h.e.cut.base hB).frame fun x hx _ => setRow_other _ _ _ _ (fun e => by have := hx.2.1; omega), (h.z.cut.base hB).frame fun x hx _ => setRow_other _ _ _ _ (fun e => by have := hx.2.1; omega), fun x h1 h2 => h.d1 x h1.1 h2.1, fun x h1 h2 => h.d2 x h1.1 h2.1, fun x h1 h2 => h.d3 x h1.1 h2.1⟩⟩
end Go.Proofs.Ytjhbjfplgmcbpaa
/- One slot that the exact laws mark and ask for its marks. Conditions: lists of at most 2^20. -/
namespace Go.Proofs.Ytjhbjfplgmcbpaa
set_option maxRecDepth 2000
open Go.ChangeShapes Go.WideShapes Go.ChangeAt Go.RowKit

end Go.Proofs.Ytjhbjfplgmcbpaa
/- For every input: the function SlotOf of the program answers as its model does, whatever its node and its root are; it leaves the node as it was, and its answer owns its memory. No condition. Written by a program. -/
namespace Go.Proofs.Ytjhbjfplgmcbpaa
set_option maxRecDepth 2000
open Go.ChangeShapes Go.WideShapes Go.ChangeAt Go.RowKit
theorem tot_ge2 {g : Nat → Nat} {n i : Nat} (hi : i < n) : g i ≤ tot g n := by have := tot_step (g := g) hi; omega
/-- What the count tells of the slots. -/
theorem wtL_little {n : Nat} {S : Nat → Sl} (h : wtL n S ≤ 1048576) : n ≤ 1048576 ∧ (∀ i, i < n → SlS (S i)) ∧ (∀ i, i < n → SlK (S i)) ∧ 1 + tot (fun i => wkS (S i)) n ≤ 40000000 := by
  unfold wtL at h
  have hw : ∀ i, i < n → wtS (S i) ≤ 1048576 := fun i hi => by have : wtS (S i) ≤ tot (fun i => wtS (S i)) n := tot_ge2 (g := fun i => wtS (S i)) hi; omega
  have h10 : tot (fun i => wkS (S i)) n ≤ 10 * n + tot (fun i => wtS (S i)) n := by
    clear h hw
    induction n with
    | zero => exact Nat.le_refl _
    | succ n ih =>
      show tot (fun i => wkS (S i)) n + wkS (S n) ≤ 10 * (n + 1) + (tot (fun i => wtS (S i)) n + wtS (S n))
      have : wkS (S n) ≤ 10 + wtS (S n) := by unfold wkS wtS wtP; omega
      omega
  refine ⟨by omega, fun i hi => ?_, fun i hi => ?_, by omega⟩
  · have := hw i hi
    unfold wtS wtP at this
    exact ⟨by omega, by omega, by omega⟩
  · have := hw i hi
    unfold wtS wtP at this
    refine ⟨by omega, by omega, by omega, by omega, fun j hj => ?_, by omega, by omega⟩
    have : ((S i).p.S j).size ≤ tot (fun j => ((S i).p.S j).size) (S i).p.m := tot_ge2 (g := fun j => ((S i).p.S j).size) hj
    omega
/-- What stands in memory while the law is gone through. -/
structure SoF (w : World) (B E X G bx bg : Nat) (id f : Int) (a : Option Addr) (n c gx : Nat) (T TG : Sl) (v6 v11 v12 u6 u11 u12 : Value) (W : World) : Prop where
  rb : Row W B 73 #[.int .i64 id, .int .i64 f, .slice a n c]
  re : Row W E 60 (slC T v6 v11 v12)
  rx : Row W X 46 #[.int .i64 id, .int .i64 f, .slice (some ⟨gx, 0, none⟩) n n]
  rg : Row W G 60 (slC T u6 u11 u12)
  se : ∃ F6 F11 F12, SlO W 0 T v6 v11 v12 F6 F11 F12 ∧ ∀ g, F6 g ∨ F11 g ∨ F12 g → g < bx
  sg : ∃ F6 F11 F12, SlO W bg TG u6 u11 u12 F6 F11 F12 ∧ ∀ g, F6 g ∨ F11 g ∨ F12 g → bg ≤ g ∧ g < G
  bw : Below w.heap.size w W
theorem SlO.below {w w' : World} {B : Nat} {s : Sl} {v6 v11 v12 : Value} {F6 F11 F12 : Nat → Prop} (h : SlO w B s v6 v11 v12 F6 F11 F12) (hb : Below w.heap.size w w') : SlO w' B s v6 v11 v12 F6 F11 F12 := ⟨h.t.below hb, h.e.below hb, h.z.below hb, h.d1, h.d2, h.d3⟩
theorem SlO.turned {w w' : World} {B : Nat} {s : Sl} {v6 v11 v12 : Value} {F6 F11 F12 F : Nat → Prop} (h : SlO w B s v6 v11 v12 F6 F11 F12) (ht : Trn w w' F) (hd : ∀ g, F6 g ∨ F11 g ∨ F12 g → ¬ F g) : SlO w' B s v6 v11 v12 F6 F11 F12 := ⟨h.t.turned ht (fun g hg => hd g (.inl hg)), h.e.turned ht (fun g hg => hd g (.inr (.inl hg))), h.z.turned ht (fun g hg => hd g (.inr (.inr hg))), h.d1, h.d2, h.d3⟩
theorem SlO.cut {w : World} {B : Nat} {s : Sl} {v6 v11 v12 : Value} {F6 F11 F12 : Nat → Prop} (h : SlO w B s v6 v11 v12 F6 F11 F12) : ∃ H6 H11 H12, SlO w B s v6 v11 v12 H6 H11 H12 ∧ ∀ g, H6 g ∨ H11 g ∨ H12 g → B ≤ g ∧ g < w.heap.size :=
  ⟨_, _, _, ⟨h.t.cut, h.e.cut, h.z.cut, fun g h1 h2 => h.d1 g h1.1 h2.1, fun g h1 h2 => h.d2 g h1.1 h2.1, fun g h1 h2 => h.d3 g h1.1 h2.1⟩, fun g hg => by rcases hg with hg | hg | hg <;> exact hg.2⟩
theorem SlO.base {w : World} {B B' : Nat} {s : Sl} {v6 v11 v12 : Value} {F6 F11 F12 : Nat → Prop} (h : SlO w B s v6 v11 v12 F6 F11 F12) (hB : B' ≤ B) : SlO w B' s v6 v11 v12 F6 F11 F12 := ⟨h.t.base hB, h.e.base hB, h.z.base hB, h.d1, h.d2, h.d3⟩
theorem SlO.rd {w : World} {B : Nat} {s : Sl} {a6 a11 a12 : Option Addr} {c6 c11 c12 m e z : Nat} {F6 F11 F12 : Nat → Prop} (h : SlO w B s (.slice a6 m c6) (.slice a11 e c11) (.slice a12 z c12) F6 F11 F12) : TxtAt w a6 s.p.m s.p.S ∧ IntsAt w a11 s.ze.length s.ze ∧ IntsAt w a12 s.zr.length s.zr := by
  have h1 := h.t.rd
  have h2 := h.e.rd
  have h3 := h.z.rd
  obtain ⟨_, _, e1⟩ := h1.shape
  obtain ⟨_, _, e2⟩ := h2.shape
  obtain ⟨_, _, e3⟩ := h3.shape
  simp only [Value.slice.injEq] at e1 e2 e3
  rw [e1.2.1] at h1
  rw [e2.2.1] at h2
  rw [e3.2.1] at h3
  exact ⟨rd_txt.1 h1, rd_ints.1 h2, rd_ints.1 h3⟩
theorem belowT {w W W' : World} {F : Nat → Prop} (h : Below w.heap.size w W) (ht : Trn W W' F) (hF : ∀ g, F g → w.heap.size ≤ g) : Below w.heap.size w W' := by
  have hb := ht.below (s := w.heap.size) hF h.size
  exact ⟨hb.os.trans h.os, hb.tape.trans h.tape, hb.output.trans h.output, Nat.le_trans h.size hb.size, fun k hk => (hb.block k hk).trans (h.block k hk)⟩
section
variable {w W W' : World} {B E X G bx bg : Nat} {id f : Int} {a : Option Addr} {n c gx : Nat} {T TG TH : Sl} {v6 v11 v12 u6 u11 u12 : Value}
theorem SoF.below (h : SoF w B E X G bx bg id f a n c gx T TG v6 v11 v12 u6 u11 u12 W) (hb : Below W.heap.size W W') : SoF w B E X G bx bg id f a n c gx T TG v6 v11 v12 u6 u11 u12 W' := by
  obtain ⟨F6, F11, F12, s1, s2⟩ := h.se
  obtain ⟨H6, H11, H12, g1, g2⟩ := h.sg
  exact ⟨h.rb.below hb h.rb.lt, h.re.below hb h.re.lt, h.rx.below hb h.rx.lt, h.rg.below hb h.rg.lt, ⟨_, _, _, s1.below hb, s2⟩, ⟨_, _, _, g1.below hb, g2⟩, below2 h.bw hb⟩
theorem SoF.turnX {ex : Nat} (h : SoF w B E X G bx bg id f a n c gx T TG v6 v11 v12 u6 u11 u12 W) (ht : Trn W W' (rng bx ex)) (hB : B < bx) (hE : E < bx) (hX : ex ≤ X) (hg : ex ≤ bg) (hG : bg ≤ G) (hw : w.heap.size ≤ bx) : SoF w B E X G bx bg id f a n c gx T TG v6 v11 v12 u6 u11 u12 W' := by
  obtain ⟨F6, F11, F12, s1, s2⟩ := h.se
  obtain ⟨H6, H11, H12, g1, g2⟩ := h.sg
  have row : ∀ {g t : Nat} {cs : Array Value}, Row W g t cs → ¬ rng bx ex g → Row W' g t cs := fun {g t cs} hr hn => (ht.block g hr.lt hn).trans hr
  refine ⟨row h.rb (fun k => by have := k.1; omega), row h.re (fun k => by have := k.1; omega), row h.rx (fun k => by have := k.2; omega), row h.rg (fun k => by have := k.2; omega), ⟨_, _, _, s1.turned ht (fun g hg k => by have := s2 g hg; have := k.1; omega), s2⟩, ⟨_, _, _, g1.turned ht (fun g hg k => by have := g2 g hg; have := k.2; omega), g2⟩, ?_⟩
  exact belowT h.bw ht (fun g k => by have := k.1; omega)
theorem SoF.turnG {F : Nat → Prop} {F6 F11 F12 : Nat → Prop} (h : SoF w B E X G bx bg id f a n c gx T TG v6 v11 v12 u6 u11 u12 W) (ht : Trn W W' F) (hF : ∀ g, F g → bg ≤ g ∧ g < G) (hs : SlO W' bg TH u6 u11 u12 F6 F11 F12) (hF2 : ∀ g, F6 g ∨ F11 g ∨ F12 g → bg ≤ g ∧ g < G) (hB : B < bg) (hE : E < bg) (hX : X < bg) (hbx : bx ≤ bg) (hw : w.heap.size ≤ bx) : SoF w B E X G bx bg id f a n c gx T TH v6 v11 v12 u6 u11 u12 W' := by
  obtain ⟨G6, G11, G12, s1, s2⟩ := h.se
  have row : ∀ {g t : Nat} {cs : Array Value}, Row W g t cs → ¬ F g → Row W' g t cs := fun {g t cs} hr hn => (ht.block g hr.lt hn).trans hr
  refine ⟨row h.rb (fun k => by have := hF _ k; omega), row h.re (fun k => by have := hF _ k; omega), row h.rx (fun k => by have := hF _ k; omega), row h.rg (fun k => by have := hF _ k; omega), ⟨_, _, _, s1.turned ht (fun g hg k => by have := s2 g hg; have := hF g k; omega), s2⟩, ⟨_, _, _, hs, hF2⟩, ?_⟩
  exact belowT h.bw ht (fun g k => by have := hF g k; omega)
end
end Go.Proofs.Ytjhbjfplgmcbpaa
