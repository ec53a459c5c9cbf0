import Derived.Test.YtmhcdkbgjjibeaaGreatDoorG23
import Derived.Deep.CutRange
import Derived.Test.YtmhcdkbgjjibeaaGreatDoorG21
import Derived.Test.YtmhcdkbgjjibeaaGreatDoorG19
set_option maxHeartbeats 8000000
set_option maxRecDepth 2000
open Go.ChangeShapes Go.WideShapes Go.ChangeAt Go.RowKit
namespace Go.Proofs.YtmhcdkbgjjibeaaGreatDoor
theorem sCopyS_any (s : Sl) (a6 a11 a12 : Option Addr) (c6 c11 c12 : Nat) (w : World) (h6 : TxtAt w a6 s.p.m s.p.S) (h11 : IntsAt w a11 s.ze.length s.ze) (h12 : IntsAt w a12 s.zr.length s.zr) (hs : SlS s) :
  Calls Tryz.prog 62 #[slV s (.slice a6 s.p.m c6) (.slice a11 s.ze.length c11) (.slice a12 s.zr.length c12)] w fun e w' => ∃ (g6 g11 g12 h6 h11 h12 : Nat) (F6 F11 F12 : Nat → Prop), e = .returned (slV s (.slice (some ⟨g6, 0, none⟩) s.p.m h6) (.slice (some ⟨g11, 0, none⟩) s.ze.length h11) (.slice (some ⟨g12, 0, none⟩) s.zr.length h12)) ∧ SlO w' w.heap.size s (.slice (some ⟨g6, 0, none⟩) s.p.m h6) (.slice (some ⟨g11, 0, none⟩) s.ze.length h11) (.slice (some ⟨g12, 0, none⟩) s.zr.length h12) F6 F11 F12 ∧ Below w.heap.size w w' := by
 obtain ⟨A, HA⟩ : ∃ x, Hid (x = w.heap.size) := ⟨_, rfl⟩
 obtain ⟨D, HD⟩ : ∃ x, Hid (x = w.heap.size + 1) := ⟨_, rfl⟩
 obtain ⟨w0, HW0⟩ : ∃ x, Hid (x = (w.alloc (.cells (slC s (.slice a6 s.p.m c6) (.slice a11 s.ze.length c11) (.slice a12 s.zr.length c12)) 76)).alloc (.cells #[.string ⟨#[]⟩, .string ⟨#[]⟩, .int .i64 0, .int .i64 0, .int .i64 0, .string ⟨#[]⟩, .slice none 0 0, .bool false, .bool false, .bool false, .bool false, .slice none 0 0, .slice none 0 0] 76)) := ⟨_, rfl⟩
 have RA : Hid (Row w0 A 76 (slC s (.slice a6 s.p.m c6) (.slice a11 s.ze.length c11) (.slice a12 s.zr.length c12))) := by show Row _ _ _ _; rw [HW0.out, HA.out]; exact Row.alloc (Row.new w _ _) _
 have RD : Hid (Row w0 D 76 #[.string ⟨#[]⟩, .string ⟨#[]⟩, .int .i64 0, .int .i64 0, .int .i64 0, .string ⟨#[]⟩, .slice none 0 0, .bool false, .bool false, .bool false, .bool false, .slice none 0 0, .slice none 0 0]) := by
  show Row _ _ _ _
  rw [HW0.out, HD.out]
  have := Row.new (w.alloc (.cells (slC s (.slice a6 s.p.m c6) (.slice a11 s.ze.length c11) (.slice a12 s.zr.length c12)) 76)) #[.string ⟨#[]⟩, .string ⟨#[]⟩, .int .i64 0, .int .i64 0, .int .i64 0, .string ⟨#[]⟩, .slice none 0 0, .bool false, .bool false, .bool false, .bool false, .slice none 0 0, .slice none 0 0] 76
  simpa using this
 have hb0 : Below w.heap.size w w0 := by rw [HW0.out]; exact ((Below.refl _ _).alloc (Nat.le_refl _) _).alloc (by simp) _
 have KB0 : Hid (Below w.heap.size w w0) := hb0
 have HL : Hid (A ≠ D ∧ w.heap.size ≤ A ∧ w.heap.size ≤ D ∧ A < w0.heap.size ∧ D < w0.heap.size) := ⟨by have := HA.out; have := HD.out; omega, by have := HA.out; omega, by have := HD.out; omega, RA.out.lt, RD.out.lt⟩
 have KC : Hid _ := sCopyP_any s.p.r s.p.k s.p.n s.p.i s.p.b a6 s.p.m c6 s.p.S w0 (h6.below hb0) hs.1
 have KI1 : Hid (IntsAt w a11 s.ze.length s.ze) := h11
 have KI2 : Hid (IntsAt w a12 s.zr.length s.zr) := h12
 have KS : Hid (SlS s) := hs
 clear h6 h11 h12 hs hb0
 go_enter Tryz.func62, Tryz.ntmps62
 go_wp2_with fail
 rw [← HW0.out, ← HD.out, ← HA.out]
 refine Calls.mono KC.out ?_
 rintro e w1 ⟨g6, h6, rfl, O1, b1⟩
 have RA1 := RA.out.below b1 RA.out.lt
 have RD1 := RD.out.below b1 RD.out.lt
 have y1 := RA1.cell 1
 have f1 := RA1.free 1
 have y2 := RA1.cell 2
 have f2 := RA1.free 2
 have y3 := RA1.cell 3
 have f3 := RA1.free 3
 have y4 := RA1.cell 4
 have f4 := RA1.free 4
 have y5 := RA1.cell 5
 have f5 := RA1.free 5
 have y6 := RA1.cell 6
 have f6 := RA1.free 6
 simp at y1 y2 y3 y4 y5 y6
 obtain ⟨w2, HW2⟩ : ∃ x, Hid (x = ((((((w1.setCell ⟨A, 1, none⟩ (.string s.p.r)).setCell ⟨A, 2, none⟩ (.int .i64 s.p.k)).setCell ⟨A, 3, none⟩ (.int .i64 s.p.n)).setCell ⟨A, 4, none⟩ (.int .i64 s.p.i)).setCell ⟨A, 5, none⟩ (.string s.p.b)).setCell ⟨A, 6, none⟩ (.slice (some ⟨g6, 0, none⟩) s.p.m h6))) := ⟨_, rfl⟩
 obtain ⟨G1, HGW⟩ : ∃ x, Hid (x = w1.heap.size) := ⟨_, rfl⟩
 have sz2 : w2.heap.size = w1.heap.size := by rw [HW2.out]; simp
 have HG1 : Hid (G1 = w2.heap.size) := by show _ = _; rw [sz2]; exact HGW.out
 have l6 := World.ownsRow.lt O1 g6 rfl
 have K2 : Hid (Row w2 A 76 (slC s (.slice (some ⟨g6, 0, none⟩) s.p.m h6) (.slice a11 s.ze.length c11) (.slice a12 s.zr.length c12)) ∧ Row w2 D 76 #[.string ⟨#[]⟩, .string ⟨#[]⟩, .int .i64 0, .int .i64 0, .int .i64 0, .string ⟨#[]⟩, .slice none 0 0, .bool false, .bool false, .bool false, .bool false, .slice none 0 0, .slice none 0 0] ∧ OwnT w2 w0.heap.size (some ⟨g6, 0, none⟩) s.p.m h6 s.p.S ∧ Below w.heap.size w w2) := by
  rw [HW2.out]
  exact ⟨(((((RA1.set 1 _).set 2 _).set 3 _).set 4 _).set 5 _).set 6 _, (((((RD1.other 1 _ (Ne.symm HL.out.1)).other 2 _ (Ne.symm HL.out.1)).other 3 _ (Ne.symm HL.out.1)).other 4 _ (Ne.symm HL.out.1)).other 5 _ (Ne.symm HL.out.1)).other 6 _ (Ne.symm HL.out.1), (((((O1.setFar HL.out.2.2.2.1).setFar HL.out.2.2.2.1).setFar HL.out.2.2.2.1).setFar HL.out.2.2.2.1).setFar HL.out.2.2.2.1).setFar HL.out.2.2.2.1, ((((((below2 KB0.out b1).setCell HL.out.2.1 _).setCell HL.out.2.1 _).setCell HL.out.2.1 _).setCell HL.out.2.1 _).setCell HL.out.2.1 _).setCell HL.out.2.1 _⟩
 have HQ1 : Hid (g6 < G1 ∧ w0.heap.size ≤ g6 ∧ w0.heap.size ≤ G1) := by have := HG1.out; have := l6.1; have := l6.2; exact ⟨by omega, by omega, by omega⟩
 have lA2 := K2.out.1.lt
 clear O1 b1 RA1 RD1 l6
 go_upto_region 2 with fail
 rw [← HW2.out]
 clear y1 f1 y2 f2 y3 f3 y4 f4 y5 f5 y6 f6 sz2
 go_cut [] from 7 to 11 (fun wx => Hid (∃ g11 h11, Row wx A 76 (slC s (.slice (some ⟨g6, 0, none⟩) s.p.m h6) (.slice (some ⟨g11, 0, none⟩) s.ze.length h11) (.slice a12 s.zr.length c12)) ∧ Row wx D 76 #[.string ⟨#[]⟩, .string ⟨#[]⟩, .int .i64 0, .int .i64 0, .int .i64 0, .string ⟨#[]⟩, .slice none 0 0, .bool false, .bool false, .bool false, .bool false, .slice none 0 0, .slice none 0 0] ∧ OwnT wx w0.heap.size (some ⟨g6, 0, none⟩) s.p.m h6 s.p.S ∧ wx.ownsRow G1 3 1 (.slice (some ⟨g11, 0, none⟩) s.ze.length h11) s.ze.length (s.ze.map (Value.int .i64)) ∧ Below w.heap.size w wx))
 case first =>
  have HOa : Hid ((w2.alloc (.cells #[] 3)).ownsRow G1 3 1 (.slice (some ⟨G1, 0, none⟩) 0 0) 0 []) := by
   show World.ownsRow _ _ _ _ _ _ _
   rw [HG1.out]
   have := World.ownsRow_lit (e := 3) (size := 1) (base := w2.heap.size) w2 #[] 0 (by simp) (by unfold maxLen; omega) (by simp)
   exact this
  have HIa : Hid (IntsAt (w2.alloc (.cells #[] 3)) a11 s.ze.length s.ze) := (KI1.out.below K2.out.2.2.2).below ((Below.refl _ _).alloc (Nat.le_refl _) _)
  have z11 := K2.out.1.cell 11
  simp at z11
  have HLe : Hid (G1 ≤ (w2.alloc (.cells #[] 3)).heap.size) := by rw [HG1.out]; show _ ≤ _; simp
  have hG1' := HG1.out
  rw [hG1'] at HOa HLe
  go_wp2_with (at_builtin; refine wpList_app_ints _ (by rfl) _ _ (by rfl) w2.heap.size w2.heap.size (by rfl) ?_ a11 s.ze c11 (by rfl) ?_ KS.out.2.1 ?_ ?_; exact HOa.out; exact HIa.out; exact HLe.out; intro g11 h11 w4 hown4 hgrow4; have b24 : Below w2.heap.size w2 w4 := ((Below.refl _ _).alloc (Nat.le_refl _) _).grown hgrow4 (by simp) (fun x hx => by cases hx; exact Nat.le_refl _); have R4 := K2.out.1.below b24 lA2; have v11 := R4.cell 11; have u11 := R4.free 11; simp at v11; have KB24 : Hid _ := b24; have KO4 : Hid _ := hown4; clear hown4 hgrow4 z11 b24 R4)
  go_meet
  have l11 := World.ownsRow.lt KO4.out g11 rfl
  refine ⟨g11, h11, (K2.out.1.below KB24.out lA2).set 11 _, (K2.out.2.1.below KB24.out K2.out.2.1.lt).other 11 _ (Ne.symm HL.out.1), (K2.out.2.2.1.below KB24.out).setFar HL.out.2.2.2.1, ?_, (below2 K2.out.2.2.2 KB24.out).setCell HL.out.2.1 _⟩
  rw [hG1']
  exact own_kept KO4.out (grown_set _ _ _ _) (fun x e => by cases e; show g11 ≠ A; have := l11.1; omega)
 obtain ⟨g11, h11, RAc, RDc, O6c, O11c, Bc⟩ := hcut.out
 clear hcut
 have lAc := RAc.lt
 have KC2 : Hid (Row wc A 76 (slC s (.slice (some ⟨g6, 0, none⟩) s.p.m h6) (.slice (some ⟨g11, 0, none⟩) s.ze.length h11) (.slice a12 s.zr.length c12)) ∧ Row wc D 76 #[.string ⟨#[]⟩, .string ⟨#[]⟩, .int .i64 0, .int .i64 0, .int .i64 0, .string ⟨#[]⟩, .slice none 0 0, .bool false, .bool false, .bool false, .bool false, .slice none 0 0, .slice none 0 0] ∧ OwnT wc w0.heap.size (some ⟨g6, 0, none⟩) s.p.m h6 s.p.S ∧ wc.ownsRow G1 3 1 (.slice (some ⟨g11, 0, none⟩) s.ze.length h11) s.ze.length (s.ze.map (Value.int .i64)) ∧ Below w.heap.size w wc) := ⟨RAc, RDc, O6c, O11c, Bc⟩
 clear RAc RDc O6c O11c Bc HW2 HGW K2 HG1
 go_upto_region 3 with fail
 obtain ⟨wb, HWB⟩ : ∃ x, x = wc := ⟨wc, rfl⟩
 subst HWB
 go_cut [] from 12 to 16 (fun wx => Hid (∃ g12 h12, Row wx A 76 (slC s (.slice (some ⟨g6, 0, none⟩) s.p.m h6) (.slice (some ⟨g11, 0, none⟩) s.ze.length h11) (.slice (some ⟨g12, 0, none⟩) s.zr.length h12)) ∧ Row wx D 76 #[.string ⟨#[]⟩, .string ⟨#[]⟩, .int .i64 0, .int .i64 0, .int .i64 0, .string ⟨#[]⟩, .slice none 0 0, .bool false, .bool false, .bool false, .bool false, .slice none 0 0, .slice none 0 0] ∧ OwnT wx w0.heap.size (some ⟨g6, 0, none⟩) s.p.m h6 s.p.S ∧ wx.ownsRow G1 3 1 (.slice (some ⟨g11, 0, none⟩) s.ze.length h11) s.ze.length (s.ze.map (Value.int .i64)) ∧ wx.ownsRow wb.heap.size 3 1 (.slice (some ⟨g12, 0, none⟩) s.zr.length h12) s.zr.length (s.zr.map (Value.int .i64)) ∧ Below w.heap.size w wx))
 case first =>
  have HOa : Hid ((wb.alloc (.cells #[] 3)).ownsRow wb.heap.size 3 1 (.slice (some ⟨wb.heap.size, 0, none⟩) 0 0) 0 []) := World.ownsRow_lit (e := 3) (size := 1) (base := wb.heap.size) wb #[] 0 (by simp) (by unfold maxLen; omega) (by simp)
  have HIa : Hid (IntsAt (wb.alloc (.cells #[] 3)) a12 s.zr.length s.zr) := (KI2.out.below KC2.out.2.2.2.2).below ((Below.refl _ _).alloc (Nat.le_refl _) _)
  have z12 := KC2.out.1.cell 12
  simp at z12
  have HLe : Hid (wb.heap.size ≤ (wb.alloc (.cells #[] 3)).heap.size) := by show _ ≤ _; simp
  go_wp2_with (at_builtin; refine wpList_app_ints _ (by rfl) _ _ (by rfl) wb.heap.size wb.heap.size (by rfl) ?_ a12 s.zr c12 (by rfl) ?_ KS.out.2.2 ?_ ?_; exact HOa.out; exact HIa.out; exact HLe.out; intro g12 h12 w4 hown4 hgrow4; have b24 : Below wb.heap.size wb w4 := ((Below.refl _ _).alloc (Nat.le_refl _) _).grown hgrow4 (by simp) (fun x hx => by cases hx; exact Nat.le_refl _); have R4 := KC2.out.1.below b24 lAc; have v12 := R4.cell 12; have u12 := R4.free 12; simp at v12; have KB24 : Hid _ := b24; have KO4 : Hid _ := hown4; clear hown4 hgrow4 z12 b24 R4)
  go_meet
  have l12 := World.ownsRow.lt KO4.out g12 rfl
  have l11 := World.ownsRow.lt KC2.out.2.2.2.1 g11 rfl
  have hw0G := HQ1.out.2.2
  have hA0 := HL.out.2.2.2.1
  exact ⟨g12, h12, (KC2.out.1.below KB24.out lAc).set 12 _, (KC2.out.2.1.below KB24.out KC2.out.2.1.lt).other 12 _ (Ne.symm HL.out.1), (KC2.out.2.2.1.below KB24.out).setFar HL.out.2.2.2.1, own_kept (ownsRow_below KC2.out.2.2.2.1 KB24.out) (grown_set _ _ _ _) (fun x e => by cases e; show g11 ≠ A; have := l11.1; omega), own_kept KO4.out (grown_set _ _ _ _) (fun x e => by cases e; show g12 ≠ A; have := l12.1; omega), (below2 KC2.out.2.2.2.2 KB24.out).setCell HL.out.2.1 _⟩
 obtain ⟨g12, h12, RAd, RDd, O6, O11, O12, Bd⟩ := hcut.out
 clear hcut
 have l11 := World.ownsRow.lt KC2.out.2.2.2.1 g11 rfl
 have l12 := World.ownsRow.lt O12 g12 rfl
 have hq := HQ1.out
 have hl := HL.out
 have w0w : w.heap.size ≤ w0.heap.size := KB0.out.size
 have HA6 : Hid (Row wc A 76 (slC s (.slice (some ⟨g6, 0, none⟩) s.p.m h6) (.slice (some ⟨g11, 0, none⟩) s.ze.length h11) (.slice (some ⟨g12, 0, none⟩) s.zr.length h12))) := RAd
 have HD6 : Hid (Row wc D 76 #[.string ⟨#[]⟩, .string ⟨#[]⟩, .int .i64 0, .int .i64 0, .int .i64 0, .string ⟨#[]⟩, .slice none 0 0, .bool false, .bool false, .bool false, .bool false, .slice none 0 0, .slice none 0 0]) := RDd
 obtain ⟨w7, HW7⟩ : ∃ x, Hid (x = wc.setRow D (slC s (.slice (some ⟨g6, 0, none⟩) s.p.m h6) (.slice (some ⟨g11, 0, none⟩) s.ze.length h11) (.slice (some ⟨g12, 0, none⟩) s.zr.length h12))) := ⟨_, rfl⟩
 have ZR : Hid (Row w7 D 76 (slC s (.slice (some ⟨g6, 0, none⟩) s.p.m h6) (.slice (some ⟨g11, 0, none⟩) s.ze.length h11) (.slice (some ⟨g12, 0, none⟩) s.zr.length h12))) := by show Row _ _ _ _; rw [HW7.out]; exact RDd.row
 have ZB : Hid (Below w.heap.size w w7) := by show Below _ _ _; rw [HW7.out]; exact belowSetRow Bd hl.2.2.1 _
 have HSO : Hid (SlO w7 w.heap.size s (.slice (some ⟨g6, 0, none⟩) s.p.m h6) (.slice (some ⟨g11, 0, none⟩) s.ze.length h11) (.slice (some ⟨g12, 0, none⟩) s.zr.length h12) (fun x => x = g6) (fun x => x = g11) (fun x => x = g12)) := by
  refine ⟨?_, ?_, ?_, fun x e1 e2 => ?_, fun x e1 e2 => ?_, fun x e1 e2 => ?_⟩
  ·rw [HW7.out]
   exact ow_txt (own_kept (OwnT.base O6 w0w) (grown_row _ _ _) (fun x e => by cases e; show g6 ≠ D; omega)) (fun x e => by cases e; rfl)
  ·rw [HW7.out]
   exact ow_ints (own_base (own_kept O11 (grown_row _ _ _) (fun x e => by cases e; show g11 ≠ D; omega)) (by omega)) (fun x e => by cases e; rfl)
  ·rw [HW7.out]
   exact ow_ints (own_base (own_kept O12 (grown_row _ _ _) (fun x e => by cases e; show g12 ≠ D; omega)) (by omega)) (fun x e => by cases e; rfl)
  ·omega
  ·omega
  ·omega
 clear RAd RDd O6 O11 O12 Bd l11 l12 hq hl w0w KC2
 go_wp2_with (first | (refine wpList_load_row (by rfl) 76 _ (by rfl) A (by rfl) 76 (slC s (.slice (some ⟨g6, 0, none⟩) s.p.m h6) (.slice (some ⟨g11, 0, none⟩) s.ze.length h11) (.slice (some ⟨g12, 0, none⟩) s.zr.length h12)) (0, 0) _ ?_ Tryz.underlying76 (by rfl) Tryz.infoSl ?_; exact HA6.out) | (refine wpList_store_row (by rfl) 76 _ _ (by rfl) D (slC s (.slice (some ⟨g6, 0, none⟩) s.p.m h6) (.slice (some ⟨g11, 0, none⟩) s.ze.length h11) (.slice (some ⟨g12, 0, none⟩) s.zr.length h12)) (by rfl) (by rfl) 76 #[.string ⟨#[]⟩, .string ⟨#[]⟩, .int .i64 0, .int .i64 0, .int .i64 0, .string ⟨#[]⟩, .slice none 0 0, .bool false, .bool false, .bool false, .bool false, .slice none 0 0, .slice none 0 0] ?_ Tryz.infoSl rfl (by simp [Value.oneCell']) ?_; exact HD6.out; rw [← HW7.out]))
 exact bodyPost_ret (v := slV s (.slice (some ⟨g6, 0, none⟩) s.p.m h6) (.slice (some ⟨g11, 0, none⟩) s.ze.length h11) (.slice (some ⟨g12, 0, none⟩) s.zr.length h12)) (results_cell_row Tryz.results62 _ _ D 76 _ (0, 0) _ (by rfl) ZR.out Tryz.underlying76 (by rfl) Tryz.infoSl) rfl ⟨g6, g11, g12, h6, h11, h12, _, _, _, rfl, HSO.out, ZB.out⟩
def soS (S : Nat → Sl) (root : ByteArray) (n : Nat) : Sl := match plc S root n with
 | some x => S x
 | none => slZ
def soB (S : Nat → Sl) (root : ByteArray) (n : Nat) : Bool := (plc S root n).isSome
def plN (S : Nat → Sl) (root : ByteArray) (n : Nat) : Nat := match plc S root n with
 | some x => x
 | none => n
theorem SlO.setRow {w : World} {B B' : Nat} {s : Sl} {v6 v11 v12 : Value} {F6 F11 F12 : Nat → Prop} (h : SlO w B s v6 v11 v12 F6 F11 F12) (D : Nat) (cs : Array Value) (hD : D < B) (hB : B' ≤ B) : ∃ F6 F11 F12, SlO (w.setRow D cs) B' s v6 v11 v12 F6 F11 F12 :=
 ⟨_, _, _, ⟨(h.t.cut.base hB).frame fun x hx _ => setRow_other _ _ _ _ (fun e => by have := hx.2.1; omega), (h.e.cut.base hB).frame fun x hx _ => setRow_other _ _ _ _ (fun e => by have := hx.2.1; omega), (h.z.cut.base hB).frame fun x hx _ => setRow_other _ _ _ _ (fun e => by have := hx.2.1; omega), fun x h1 h2 => h.d1 x h1.1 h2.1, fun x h1 h2 => h.d2 x h1.1 h2.1, fun x h1 h2 => h.d3 x h1.1 h2.1⟩⟩
theorem sPlace_any (id f : Int) (a : Option Addr) (n cap : Nat) (S : Nat → Sl) (root : ByteArray) (w : World) (h : Rd w (slsD n S) (.slice a n cap)) (hn : n ≤ 1048576) :
  Calls Tryz.prog 61 #[ndV id f (.slice a n cap), .string root] w fun e w' => e = .returned (.int .i64 (plN S root n : Nat)) ∧ Below w.heap.size w w' := by
 obtain ⟨A, HA⟩ : ∃ x, Hid (x = w.heap.size) := ⟨_, rfl⟩
 obtain ⟨w0, HW0⟩ : ∃ x, Hid (x = w.alloc (.cells #[.int .i64 id, .int .i64 f, .slice a n cap] 81)) := ⟨_, rfl⟩
 have RA : Hid (Row w0 A 81 #[.int .i64 id, .int .i64 f, .slice a n cap]) := by show Row _ _ _ _; rw [HW0.out, HA.out]; exact Row.new w _ _
 have hb0 : Below w.heap.size w w0 := by rw [HW0.out]; exact (Below.refl _ _).alloc (Nat.le_refl _) _
 have KB0 : Hid (Below w.heap.size w w0) := hb0
 have KH : Hid (Rd w0 (slsD n S) (.slice a n cap)) := h.below hb0
 have x2 := RA.out.cell 2
 simp at x2
 clear h hb0
 go_enter Tryz.func61, Tryz.ntmps61
 go_wp2_with fail
 rw [← HW0.out, ← HA.out]
 go_loopw [5] (fun vi wr => ∃ k : Nat, k ≤ n ∧ vi = .int .i64 (k : Int) ∧ Hid (plF S root (n - k) k = plc S root n) ∧ Below w0.heap.size w0 wr) (fun vi _ => n - (intOf vi).toNat)
 case atStart => exact ⟨0, Nat.zero_le _, rfl, rfl, Below.refl _ _⟩
 case round =>
  obtain ⟨k, hk, rfl, HP, hbel⟩ := hrel
  replace x2 := (hbel.cell (p := ⟨A, 2, none⟩) RA.out.lt).trans x2
  have KBr : Hid (Below w.heap.size w wr ∧ Below w0.heap.size w0 wr) := ⟨below2 KB0.out hbel, hbel⟩
  by_cases hlt : k < n
  ·have hki : (k : Int) < (n : Int) := by omega
   obtain ⟨b1, f1, p6, p11, p12, q6, q11, q12, rfl, R1, _, _, _⟩ := slot_at (KH.out.below hbel) hlt
   have v0 : wr.cell? ⟨b1, f1 + k * 13, none⟩ = some (.string (S k).r) := by
    have := R1 0 (.string (S k).r) rfl
    simpa using this
   have e2 : n - k = (n - (k + 1)) + 1 := by omega
   have HP' := HP.out
   rw [e2] at HP'
   unfold plF at HP'
   clear R1 HP e2 hbel
   by_cases hr : (S k).r = root
   ·rw [if_pos hr] at HP'
    have HI : Hid (plN S root n = k) := by show _ = _; unfold plN; rw [← HP']
    rw [hr] at v0
    have hb := ba_beq root
    clear HP' hr
    go_wp2
    go_ret
    exact ⟨ret_int (by rw [HI.out]), KBr.out.1⟩
   ·rw [if_neg hr] at HP'
    have HP2 : Hid (plF S root (n - (k + 1)) (k + 1) = plc S root n) := HP'
    have hb := ba_ne hr
    clear HP' hr
    go_wp2
    go_roundw
    case rel => exact ⟨k + 1, by omega, by go_num, HP2, KBr.out.2⟩
    case measure => simp [intOf]; omega
  ·obtain rfl : k = n := by omega
   have HI : Hid (plN S root k = k) := by
    have := HP.out
    rw [Nat.sub_self] at this
    show _ = _
    unfold plN
    rw [← this]
    rfl
   go_wp2
   go_ret
   exact ⟨ret_int (by rw [HI.out]), KBr.out.1⟩
theorem slotOf_any (id f : Int) (a : Option Addr) (n cap : Nat) (S : Nat → Sl) (root : ByteArray) (w : World) (h : Rd w (slsD n S) (.slice a n cap)) (hn : n ≤ 1048576) (hs : ∀ i, i < n → SlK (S i)) :
  Calls Tryz.prog 50 #[ndV id f (.slice a n cap), .string root] w fun e w' => ∃ (a6 a11 a12 : Option Addr) (c6 c11 c12 : Nat) (F6 F11 F12 : Nat → Prop), e = .returned (.tuple #[slV (soS S root n) (.slice a6 (soS S root n).p.m c6) (.slice a11 (soS S root n).ze.length c11) (.slice a12 (soS S root n).zr.length c12), .bool (soB S root n)]) ∧ SlO w' w.heap.size (soS S root n) (.slice a6 (soS S root n).p.m c6) (.slice a11 (soS S root n).ze.length c11) (.slice a12 (soS S root n).zr.length c12) F6 F11 F12 ∧ Below w.heap.size w w' := by
 obtain ⟨A, HA⟩ : ∃ x, Hid (x = w.heap.size) := ⟨_, rfl⟩
 obtain ⟨D, HD⟩ : ∃ x, Hid (x = w.heap.size + 1) := ⟨_, rfl⟩
 obtain ⟨w0, HW0⟩ : ∃ x, Hid (x = (w.alloc (.cells #[.int .i64 id, .int .i64 f, .slice a n cap] 81)).alloc (.cells #[.string ⟨#[]⟩, .string ⟨#[]⟩, .int .i64 0, .int .i64 0, .int .i64 0, .string ⟨#[]⟩, .slice none 0 0, .bool false, .bool false, .bool false, .bool false, .slice none 0 0, .slice none 0 0] 76)) := ⟨_, rfl⟩
 have RA : Hid (Row w0 A 81 #[.int .i64 id, .int .i64 f, .slice a n cap]) := by show Row _ _ _ _; rw [HW0.out, HA.out]; exact Row.alloc (Row.new w _ _) _
 have RD : Hid (Row w0 D 76 #[.string ⟨#[]⟩, .string ⟨#[]⟩, .int .i64 0, .int .i64 0, .int .i64 0, .string ⟨#[]⟩, .slice none 0 0, .bool false, .bool false, .bool false, .bool false, .slice none 0 0, .slice none 0 0]) := by
  show Row _ _ _ _
  rw [HW0.out, HD.out]
  have := Row.new (w.alloc (.cells #[.int .i64 id, .int .i64 f, .slice a n cap] 81)) #[.string ⟨#[]⟩, .string ⟨#[]⟩, .int .i64 0, .int .i64 0, .int .i64 0, .string ⟨#[]⟩, .slice none 0 0, .bool false, .bool false, .bool false, .bool false, .slice none 0 0, .slice none 0 0] 76
  simpa using this
 have hb0 : Below w.heap.size w w0 := by rw [HW0.out]; exact ((Below.refl _ _).alloc (Nat.le_refl _) _).alloc (by simp) _
 have KB0 : Hid (Below w.heap.size w w0) := hb0
 have HL : Hid (w.heap.size ≤ D ∧ D < w0.heap.size) := ⟨by have := HD.out; omega, RD.out.lt⟩
 have KP : Hid _ := placeOf_any id f a n cap S root w0 (h.below hb0) hn
 have KH : Hid (Rd w0 (slsD n S) (.slice a n cap)) := h.below hb0
 have KN : Hid (∀ i, i < n → SlK (S i)) := hs
 clear h hb0 hs
 cases hp : plc S root n with
 | none =>
  have hpx : plX S root n = -1 := by unfold plX; rw [hp]
  rw [hpx] at KP
  have e1 : soS S root n = slZ := by unfold soS; rw [hp]
  have e2 : soB S root n = false := by unfold soB; rw [hp]; rfl
  rw [e1, e2]
  clear hp hpx e1 e2 KH KN
  go_enter Tryz.func50, Tryz.ntmps50
  go_wp2_with fail
  rw [← HW0.out, ← HD.out, ← HA.out]
  refine Calls.mono KP.out ?_
  rintro e w1 ⟨rfl, b1⟩
  have RA1 := RA.out.below b1 RA.out.lt
  have x2 := RA1.cell 2
  simp at x2
  have HD1 : Hid (Row w1 D 76 #[.string ⟨#[]⟩, .string ⟨#[]⟩, .int .i64 0, .int .i64 0, .int .i64 0, .string ⟨#[]⟩, .slice none 0 0, .bool false, .bool false, .bool false, .bool false, .slice none 0 0, .slice none 0 0]) := RD.out.below b1 RD.out.lt
  have KB1 : Hid (Below w.heap.size w w1) := below2 KB0.out b1
  obtain ⟨w7, HW7⟩ : ∃ x, Hid (x = w1.setRow D #[.string ⟨#[]⟩, .string ⟨#[]⟩, .int .i64 0, .int .i64 0, .int .i64 0, .string ⟨#[]⟩, .slice none 0 0, .bool false, .bool false, .bool false, .bool false, .slice none 0 0, .slice none 0 0]) := ⟨_, rfl⟩
  have ZR : Hid (Row w7 D 76 #[.string ⟨#[]⟩, .string ⟨#[]⟩, .int .i64 0, .int .i64 0, .int .i64 0, .string ⟨#[]⟩, .slice none 0 0, .bool false, .bool false, .bool false, .bool false, .slice none 0 0, .slice none 0 0]) := by show Row _ _ _ _; rw [HW7.out]; exact HD1.out.row
  have ZB : Hid (Below w.heap.size w w7) := by show Below _ _ _; rw [HW7.out]; exact belowSetRow KB1.out HL.out.1 _
  clear b1 RA1
  go_wp2_with (refine wpList_store_row (by rfl) 76 _ _ (by rfl) D #[.string ⟨#[]⟩, .string ⟨#[]⟩, .int .i64 0, .int .i64 0, .int .i64 0, .string ⟨#[]⟩, .slice none 0 0, .bool false, .bool false, .bool false, .bool false, .slice none 0 0, .slice none 0 0] (by rfl) (by rfl) 76 #[.string ⟨#[]⟩, .string ⟨#[]⟩, .int .i64 0, .int .i64 0, .int .i64 0, .string ⟨#[]⟩, .slice none 0 0, .bool false, .bool false, .bool false, .bool false, .slice none 0 0, .slice none 0 0] ?_ Tryz.infoSl rfl (by simp [Value.oneCell']) ?_; exact HD1.out; rw [← HW7.out])
  refine bodyPost_ret (v := .tuple #[slV slZ (.slice none 0 0) (.slice none 0 0) (.slice none 0 0), .bool false]) (by
   have p0 := ZR.out.cell 0
   have p1 := ZR.out.cell 1
   have p2 := ZR.out.cell 2
   have p3 := ZR.out.cell 3
   have p4 := ZR.out.cell 4
   have p5 := ZR.out.cell 5
   have p6 := ZR.out.cell 6
   have p7 := ZR.out.cell 7
   have p8 := ZR.out.cell 8
   have p9 := ZR.out.cell 9
   have p10 := ZR.out.cell 10
   have p11 := ZR.out.cell 11
   have p12 := ZR.out.cell 12
   simp at p0 p1 p2 p3 p4 p5 p6 p7 p8 p9 p10 p11 p12
   simp [results, Tryz.results50, go_sem, p0, p1, p2, p3, p4, p5, p6, p7, p8, p9, p10, p11, p12, slZ]
   try rfl) rfl ⟨none, none, none, 0, 0, 0, fun _ => False, fun _ => False, fun _ => False, rfl, ⟨Ow.nil _ _ _ _ _ _, Ow.nil _ _ _ _ _ _, Ow.nil _ _ _ _ _ _, fun _ h => h.elim, fun _ h => h.elim, fun _ h => h.elim⟩, ZB.out⟩
 | some x =>
  obtain ⟨_, hxn', _, _⟩ := plF_some hp
  have hxn : x < n := by omega
  clear hxn'
  have hpx : plX S root n = (x : Int) := by unfold plX; rw [hp]
  rw [hpx] at KP
  have hneg : ¬ ((x : Int) < 0) := by omega
  have hxi : (x : Int) < (n : Int) := by omega
  have e1 : soS S root n = S x := by unfold soS; rw [hp]
  have e2 : soB S root n = true := by unfold soB; rw [hp]; rfl
  rw [e1, e2]
  clear hp hpx e1 e2
  go_enter Tryz.func50, Tryz.ntmps50
  go_wp2_with fail
  rw [← HW0.out, ← HD.out, ← HA.out]
  refine Calls.mono KP.out ?_
  rintro e w1 ⟨rfl, b1⟩
  obtain ⟨q1, f1, p6, p11, p12, c6, c11, c12, rfl, R1, t6, t11, t12⟩ := slot_at (KH.out.below b1) hxn
  have R1 : Hid _ := R1
  have RA1 := RA.out.below b1 RA.out.lt
  have x2 := RA1.cell 2
  simp at x2
  have HD1 : Hid (Row w1 D 76 #[.string ⟨#[]⟩, .string ⟨#[]⟩, .int .i64 0, .int .i64 0, .int .i64 0, .string ⟨#[]⟩, .slice none 0 0, .bool false, .bool false, .bool false, .bool false, .slice none 0 0, .slice none 0 0]) := RD.out.below b1 RD.out.lt
  have KB1 : Hid (Below w.heap.size w w1) := below2 KB0.out b1
  have KC : Hid _ := copiedS_any (S x) p6 p11 p12 c6 c11 c12 w1 t6 t11 t12 (KN.out x hxn)
  have KSz : Hid (w0.heap.size ≤ w1.heap.size) := b1.size
  clear b1 RA1 t6 t11 t12
  go_wp2_with (refine wpList_load_mid (by rfl) 76 _ (by rfl) q1 (f1 + x * 13) (by rfl) (slL (S x) (.slice p6 (S x).p.m c6) (.slice p11 (S x).ze.length c11) (.slice p12 (S x).zr.length c12)) _ ?_ Tryz.underlying76 (by rfl) Tryz.infoSl ?_; exact R1.out)
  refine Calls.mono KC.out ?_
  rintro e w3 ⟨g6, e11, e12, h11, h12, F6, F11, F12, rfl, HS, b3⟩
  have HD3 : Hid (Row w3 D 76 #[.string ⟨#[]⟩, .string ⟨#[]⟩, .int .i64 0, .int .i64 0, .int .i64 0, .string ⟨#[]⟩, .slice none 0 0, .bool false, .bool false, .bool false, .bool false, .slice none 0 0, .slice none 0 0]) := HD1.out.below b3 HD1.out.lt
  have KB3 : Hid (Below w.heap.size w w3) := below2 KB1.out b3
  obtain ⟨w7, HW7⟩ : ∃ y, Hid (y = w3.setRow D (slC (S x) (.slice (some ⟨g6, 0, none⟩) (S x).p.m (S x).p.m) (.slice e11 (S x).ze.length h11) (.slice e12 (S x).zr.length h12))) := ⟨_, rfl⟩
  have ZR : Hid (Row w7 D 76 (slC (S x) (.slice (some ⟨g6, 0, none⟩) (S x).p.m (S x).p.m) (.slice e11 (S x).ze.length h11) (.slice e12 (S x).zr.length h12))) := by show Row _ _ _ _; rw [HW7.out]; exact HD3.out.row
  have ZB : Hid (Below w.heap.size w w7) := by show Below _ _ _; rw [HW7.out]; exact belowSetRow KB3.out HL.out.1 _
  have HSO : Hid (∃ F6 F11 F12, SlO w7 w.heap.size (S x) (.slice (some ⟨g6, 0, none⟩) (S x).p.m (S x).p.m) (.slice e11 (S x).ze.length h11) (.slice e12 (S x).zr.length h12) F6 F11 F12) := by
   rw [HW7.out]
   exact HS.setRow D _ (by have := KSz.out; have := HL.out.2; omega) KB1.out.size
  clear HS b3
  go_wp2_with (refine wpList_store_row (by rfl) 76 _ _ (by rfl) D (slC (S x) (.slice (some ⟨g6, 0, none⟩) (S x).p.m (S x).p.m) (.slice e11 (S x).ze.length h11) (.slice e12 (S x).zr.length h12)) (by rfl) (by rfl) 76 #[.string ⟨#[]⟩, .string ⟨#[]⟩, .int .i64 0, .int .i64 0, .int .i64 0, .string ⟨#[]⟩, .slice none 0 0, .bool false, .bool false, .bool false, .bool false, .slice none 0 0, .slice none 0 0] ?_ Tryz.infoSl rfl (by simp [Value.oneCell']) ?_; exact HD3.out; rw [← HW7.out])
  obtain ⟨F6', F11', F12', HS'⟩ := HSO.out
  refine bodyPost_ret (v := .tuple #[slV (S x) (.slice (some ⟨g6, 0, none⟩) (S x).p.m (S x).p.m) (.slice e11 (S x).ze.length h11) (.slice e12 (S x).zr.length h12), .bool true]) (by
   have p0 := ZR.out.cell 0
   have p1 := ZR.out.cell 1
   have p2 := ZR.out.cell 2
   have p3 := ZR.out.cell 3
   have p4 := ZR.out.cell 4
   have p5 := ZR.out.cell 5
   have p6 := ZR.out.cell 6
   have p7 := ZR.out.cell 7
   have p8 := ZR.out.cell 8
   have p9 := ZR.out.cell 9
   have p10 := ZR.out.cell 10
   have p11 := ZR.out.cell 11
   have p12 := ZR.out.cell 12
   simp at p0 p1 p2 p3 p4 p5 p6 p7 p8 p9 p10 p11 p12
   simp [results, Tryz.results50, go_sem, p0, p1, p2, p3, p4, p5, p6, p7, p8, p9, p10, p11, p12]) rfl ⟨some ⟨g6, 0, none⟩, e11, e12, (S x).p.m, h11, h12, F6', F11', F12', rfl, HS', ZB.out⟩
theorem sSlotOf_any (id f : Int) (a : Option Addr) (n cap : Nat) (S : Nat → Sl) (root : ByteArray) (w : World) (h : Rd w (slsD n S) (.slice a n cap)) (hn : n ≤ 1048576) (hs : ∀ i, i < n → SlS (S i)) :
  Calls Tryz.prog 37 #[ndV id f (.slice a n cap), .string root] w fun e w' => ∃ (a6 a11 a12 : Option Addr) (c6 c11 c12 : Nat) (F6 F11 F12 : Nat → Prop), e = .returned (.tuple #[slV (soS S root n) (.slice a6 (soS S root n).p.m c6) (.slice a11 (soS S root n).ze.length c11) (.slice a12 (soS S root n).zr.length c12), .bool (soB S root n)]) ∧ SlO w' w.heap.size (soS S root n) (.slice a6 (soS S root n).p.m c6) (.slice a11 (soS S root n).ze.length c11) (.slice a12 (soS S root n).zr.length c12) F6 F11 F12 ∧ Below w.heap.size w w' := by
 obtain ⟨A, HA⟩ : ∃ x, Hid (x = w.heap.size) := ⟨_, rfl⟩
 obtain ⟨D, HD⟩ : ∃ x, Hid (x = w.heap.size + 1) := ⟨_, rfl⟩
 obtain ⟨w0, HW0⟩ : ∃ x, Hid (x = (w.alloc (.cells #[.int .i64 id, .int .i64 f, .slice a n cap] 81)).alloc (.cells #[.string ⟨#[]⟩, .string ⟨#[]⟩, .int .i64 0, .int .i64 0, .int .i64 0, .string ⟨#[]⟩, .slice none 0 0, .bool false, .bool false, .bool false, .bool false, .slice none 0 0, .slice none 0 0] 76)) := ⟨_, rfl⟩
 have RA : Hid (Row w0 A 81 #[.int .i64 id, .int .i64 f, .slice a n cap]) := by show Row _ _ _ _; rw [HW0.out, HA.out]; exact Row.alloc (Row.new w _ _) _
 have RD : Hid (Row w0 D 76 #[.string ⟨#[]⟩, .string ⟨#[]⟩, .int .i64 0, .int .i64 0, .int .i64 0, .string ⟨#[]⟩, .slice none 0 0, .bool false, .bool false, .bool false, .bool false, .slice none 0 0, .slice none 0 0]) := by
  show Row _ _ _ _
  rw [HW0.out, HD.out]
  have := Row.new (w.alloc (.cells #[.int .i64 id, .int .i64 f, .slice a n cap] 81)) #[.string ⟨#[]⟩, .string ⟨#[]⟩, .int .i64 0, .int .i64 0, .int .i64 0, .string ⟨#[]⟩, .slice none 0 0, .bool false, .bool false, .bool false, .bool false, .slice none 0 0, .slice none 0 0] 76
  simpa using this
 have hb0 : Below w.heap.size w w0 := by rw [HW0.out]; exact ((Below.refl _ _).alloc (Nat.le_refl _) _).alloc (by simp) _
 have KB0 : Hid (Below w.heap.size w w0) := hb0
 have HL : Hid (w.heap.size ≤ D ∧ D < w0.heap.size) := ⟨by have := HD.out; omega, RD.out.lt⟩
 have KP : Hid _ := sPlace_any id f a n cap S root w0 (h.below hb0) hn
 have KH : Hid (Rd w0 (slsD n S) (.slice a n cap)) := h.below hb0
 have KN : Hid (∀ i, i < n → SlS (S i)) := hs
 clear h hb0 hs
 cases hp : plc S root n with
 | none =>
  have hpx : plN S root n = n := by unfold plN; rw [hp]
  rw [hpx] at KP
  have hnn : ((n : Int) == (n : Int)) = true := by simp
  have e1 : soS S root n = slZ := by unfold soS; rw [hp]
  have e2 : soB S root n = false := by unfold soB; rw [hp]; rfl
  rw [e1, e2]
  clear hp hpx e1 e2 KH KN
  go_enter Tryz.func37, Tryz.ntmps37
  go_wp2_with fail
  rw [← HW0.out, ← HD.out, ← HA.out]
  refine Calls.mono KP.out ?_
  rintro e w1 ⟨rfl, b1⟩
  have RA1 := RA.out.below b1 RA.out.lt
  have x2 := RA1.cell 2
  simp at x2
  have HD1 : Hid (Row w1 D 76 #[.string ⟨#[]⟩, .string ⟨#[]⟩, .int .i64 0, .int .i64 0, .int .i64 0, .string ⟨#[]⟩, .slice none 0 0, .bool false, .bool false, .bool false, .bool false, .slice none 0 0, .slice none 0 0]) := RD.out.below b1 RD.out.lt
  have KB1 : Hid (Below w.heap.size w w1) := below2 KB0.out b1
  obtain ⟨w7, HW7⟩ : ∃ x, Hid (x = w1.setRow D #[.string ⟨#[]⟩, .string ⟨#[]⟩, .int .i64 0, .int .i64 0, .int .i64 0, .string ⟨#[]⟩, .slice none 0 0, .bool false, .bool false, .bool false, .bool false, .slice none 0 0, .slice none 0 0]) := ⟨_, rfl⟩
  have ZR : Hid (Row w7 D 76 #[.string ⟨#[]⟩, .string ⟨#[]⟩, .int .i64 0, .int .i64 0, .int .i64 0, .string ⟨#[]⟩, .slice none 0 0, .bool false, .bool false, .bool false, .bool false, .slice none 0 0, .slice none 0 0]) := by show Row _ _ _ _; rw [HW7.out]; exact HD1.out.row
  have ZB : Hid (Below w.heap.size w w7) := by show Below _ _ _; rw [HW7.out]; exact belowSetRow KB1.out HL.out.1 _
  clear b1 RA1
  go_wp2_with (refine wpList_store_row (by rfl) 76 _ _ (by rfl) D #[.string ⟨#[]⟩, .string ⟨#[]⟩, .int .i64 0, .int .i64 0, .int .i64 0, .string ⟨#[]⟩, .slice none 0 0, .bool false, .bool false, .bool false, .bool false, .slice none 0 0, .slice none 0 0] (by rfl) (by rfl) 76 #[.string ⟨#[]⟩, .string ⟨#[]⟩, .int .i64 0, .int .i64 0, .int .i64 0, .string ⟨#[]⟩, .slice none 0 0, .bool false, .bool false, .bool false, .bool false, .slice none 0 0, .slice none 0 0] ?_ Tryz.infoSl rfl (by simp [Value.oneCell']) ?_; exact HD1.out; rw [← HW7.out])
  refine bodyPost_ret (v := .tuple #[slV slZ (.slice none 0 0) (.slice none 0 0) (.slice none 0 0), .bool false]) (by
   have p0 := ZR.out.cell 0
   have p1 := ZR.out.cell 1
   have p2 := ZR.out.cell 2
   have p3 := ZR.out.cell 3
   have p4 := ZR.out.cell 4
   have p5 := ZR.out.cell 5
   have p6 := ZR.out.cell 6
   have p7 := ZR.out.cell 7
   have p8 := ZR.out.cell 8
   have p9 := ZR.out.cell 9
   have p10 := ZR.out.cell 10
   have p11 := ZR.out.cell 11
   have p12 := ZR.out.cell 12
   simp at p0 p1 p2 p3 p4 p5 p6 p7 p8 p9 p10 p11 p12
   simp [results, Tryz.results37, go_sem, p0, p1, p2, p3, p4, p5, p6, p7, p8, p9, p10, p11, p12, slZ]
   try rfl) rfl ⟨none, none, none, 0, 0, 0, fun _ => False, fun _ => False, fun _ => False, rfl, ⟨Ow.nil _ _ _ _ _ _, Ow.nil _ _ _ _ _ _, Ow.nil _ _ _ _ _ _, fun _ h => h.elim, fun _ h => h.elim, fun _ h => h.elim⟩, ZB.out⟩
 | some x =>
  obtain ⟨_, hxn', _, _⟩ := plF_some hp
  have hxn : x < n := by omega
  clear hxn'
  have hpx : plN S root n = x := by unfold plN; rw [hp]
  rw [hpx] at KP
  have hneg : ((x : Int) == (n : Int)) = false := by simp; omega
  have hxi : (x : Int) < (n : Int) := by omega
  have e1 : soS S root n = S x := by unfold soS; rw [hp]
  have e2 : soB S root n = true := by unfold soB; rw [hp]; rfl
  rw [e1, e2]
  clear hp hpx e1 e2
  go_enter Tryz.func37, Tryz.ntmps37
  go_wp2_with fail
  rw [← HW0.out, ← HD.out, ← HA.out]
  refine Calls.mono KP.out ?_
  rintro e w1 ⟨rfl, b1⟩
  obtain ⟨q1, f1, p6, p11, p12, c6, c11, c12, rfl, R1, t6, t11, t12⟩ := slot_at (KH.out.below b1) hxn
  have R1 : Hid _ := R1
  have RA1 := RA.out.below b1 RA.out.lt
  have x2 := RA1.cell 2
  simp at x2
  have HD1 : Hid (Row w1 D 76 #[.string ⟨#[]⟩, .string ⟨#[]⟩, .int .i64 0, .int .i64 0, .int .i64 0, .string ⟨#[]⟩, .slice none 0 0, .bool false, .bool false, .bool false, .bool false, .slice none 0 0, .slice none 0 0]) := RD.out.below b1 RD.out.lt
  have KB1 : Hid (Below w.heap.size w w1) := below2 KB0.out b1
  have KC : Hid _ := sCopyS_any (S x) p6 p11 p12 c6 c11 c12 w1 t6 t11 t12 (KN.out x hxn)
  have KSz : Hid (w0.heap.size ≤ w1.heap.size) := b1.size
  clear b1 RA1 t6 t11 t12
  go_wp2_with (refine wpList_load_mid (by rfl) 76 _ (by rfl) q1 (f1 + x * 13) (by rfl) (slL (S x) (.slice p6 (S x).p.m c6) (.slice p11 (S x).ze.length c11) (.slice p12 (S x).zr.length c12)) _ ?_ Tryz.underlying76 (by rfl) Tryz.infoSl ?_; exact R1.out)
  refine Calls.mono KC.out ?_
  rintro e w3 ⟨g6, g11, g12, h6, h11, h12, F6, F11, F12, rfl, HS, b3⟩
  have HD3 : Hid (Row w3 D 76 #[.string ⟨#[]⟩, .string ⟨#[]⟩, .int .i64 0, .int .i64 0, .int .i64 0, .string ⟨#[]⟩, .slice none 0 0, .bool false, .bool false, .bool false, .bool false, .slice none 0 0, .slice none 0 0]) := HD1.out.below b3 HD1.out.lt
  have KB3 : Hid (Below w.heap.size w w3) := below2 KB1.out b3
  obtain ⟨w7, HW7⟩ : ∃ y, Hid (y = w3.setRow D (slC (S x) (.slice (some ⟨g6, 0, none⟩) (S x).p.m h6) (.slice (some ⟨g11, 0, none⟩) (S x).ze.length h11) (.slice (some ⟨g12, 0, none⟩) (S x).zr.length h12))) := ⟨_, rfl⟩
  have ZR : Hid (Row w7 D 76 (slC (S x) (.slice (some ⟨g6, 0, none⟩) (S x).p.m h6) (.slice (some ⟨g11, 0, none⟩) (S x).ze.length h11) (.slice (some ⟨g12, 0, none⟩) (S x).zr.length h12))) := by show Row _ _ _ _; rw [HW7.out]; exact HD3.out.row
  have ZB : Hid (Below w.heap.size w w7) := by show Below _ _ _; rw [HW7.out]; exact belowSetRow KB3.out HL.out.1 _
  have HSO : Hid (∃ F6 F11 F12, SlO w7 w.heap.size (S x) (.slice (some ⟨g6, 0, none⟩) (S x).p.m h6) (.slice (some ⟨g11, 0, none⟩) (S x).ze.length h11) (.slice (some ⟨g12, 0, none⟩) (S x).zr.length h12) F6 F11 F12) := by
   rw [HW7.out]
   exact HS.setRow D _ (by have := KSz.out; have := HL.out.2; omega) KB1.out.size
  clear HS b3
  go_wp2_with (refine wpList_store_row (by rfl) 76 _ _ (by rfl) D (slC (S x) (.slice (some ⟨g6, 0, none⟩) (S x).p.m h6) (.slice (some ⟨g11, 0, none⟩) (S x).ze.length h11) (.slice (some ⟨g12, 0, none⟩) (S x).zr.length h12)) (by rfl) (by rfl) 76 #[.string ⟨#[]⟩, .string ⟨#[]⟩, .int .i64 0, .int .i64 0, .int .i64 0, .string ⟨#[]⟩, .slice none 0 0, .bool false, .bool false, .bool false, .bool false, .slice none 0 0, .slice none 0 0] ?_ Tryz.infoSl rfl (by simp [Value.oneCell']) ?_; exact HD3.out; rw [← HW7.out])
  obtain ⟨F6', F11', F12', HS'⟩ := HSO.out
  refine bodyPost_ret (v := .tuple #[slV (S x) (.slice (some ⟨g6, 0, none⟩) (S x).p.m h6) (.slice (some ⟨g11, 0, none⟩) (S x).ze.length h11) (.slice (some ⟨g12, 0, none⟩) (S x).zr.length h12), .bool true]) (by
   have p0 := ZR.out.cell 0
   have p1 := ZR.out.cell 1
   have p2 := ZR.out.cell 2
   have p3 := ZR.out.cell 3
   have p4 := ZR.out.cell 4
   have p5 := ZR.out.cell 5
   have p6 := ZR.out.cell 6
   have p7 := ZR.out.cell 7
   have p8 := ZR.out.cell 8
   have p9 := ZR.out.cell 9
   have p10 := ZR.out.cell 10
   have p11 := ZR.out.cell 11
   have p12 := ZR.out.cell 12
   simp at p0 p1 p2 p3 p4 p5 p6 p7 p8 p9 p10 p11 p12
   simp [results, Tryz.results37, go_sem, p0, p1, p2, p3, p4, p5, p6, p7, p8, p9, p10, p11, p12]) rfl ⟨some ⟨g6, 0, none⟩, some ⟨g11, 0, none⟩, some ⟨g12, 0, none⟩, h6, h11, h12, F6', F11', F12', rfl, HS', ZB.out⟩
theorem tot_ge2 {g : Nat → Nat} {n i : Nat} (hi : i < n) : g i ≤ tot g n := by have := tot_step (g := g) hi; omega
theorem wtL_little {n : Nat} {S : Nat → Sl} (h : wtL n S ≤ 1048576) : n ≤ 1048576 ∧ (∀ i, i < n → SlS (S i)) ∧ (∀ i, i < n → SlK (S i)) ∧ 1 + tot (fun i => wkS (S i)) n ≤ 40000000 := by
 unfold wtL at h
 have hw : ∀ i, i < n → wtS (S i) ≤ 1048576 := fun i hi => by have : wtS (S i) ≤ tot (fun i => wtS (S i)) n := tot_ge2 (g := fun i => wtS (S i)) hi; omega
 have h10 : tot (fun i => wkS (S i)) n ≤ 10 * n + tot (fun i => wtS (S i)) n := by
  clear h hw
  induction n with
  | zero => exact Nat.le_refl _
  | succ n ih =>
   show tot (fun i => wkS (S i)) n + wkS (S n) ≤ 10 * (n + 1) + (tot (fun i => wtS (S i)) n + wtS (S n))
   have : wkS (S n) ≤ 10 + wtS (S n) := by unfold wkS wtS wtP; omega
   omega
 refine ⟨by omega, fun i hi => ?_, fun i hi => ?_, by omega⟩
 ·have := hw i hi
  unfold wtS wtP at this
  exact ⟨by omega, by omega, by omega⟩
 ·have := hw i hi
  unfold wtS wtP at this
  refine ⟨by omega, by omega, by omega, by omega, fun j hj => ?_, by omega, by omega⟩
  have : ((S i).p.S j).size ≤ tot (fun j => ((S i).p.S j).size) (S i).p.m := tot_ge2 (g := fun j => ((S i).p.S j).size) hj
  omega
section
variable {w W W' : World} {B E X G bx bg : Nat} {id f : Int} {a : Option Addr} {n c gx : Nat} {T TG TH : Sl} {v6 v11 v12 u6 u11 u12 : Value}
end
end Go.Proofs.YtmhcdkbgjjibeaaGreatDoor
