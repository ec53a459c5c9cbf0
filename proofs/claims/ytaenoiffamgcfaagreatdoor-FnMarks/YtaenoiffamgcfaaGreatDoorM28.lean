import Derived.Test.YtaenoiffamgcfaaGreatDoorM25
import Derived.Test.YtaenoiffamgcfaaGreatDoorM24
import Derived.Deep.CutRange
import Derived.Test.YtaenoiffamgcfaaGreatDoorM26
set_option maxHeartbeats 8000000
set_option maxRecDepth 2000
open Go.ChangeShapes Go.WideShapes Go.ChangeAt Go.RowKit
namespace Go.Proofs.YtaenoiffamgcfaaGreatDoor
theorem wpList_app_none {ops : Array Oper} {rest : List Oper} {o : Oper} {a : Act} {Q : Exit → Act → World → Prop} (w : World) (hgd : o.guard = none) (s x : Nat) (ho : o.op = .call { callee := .builtin .append, args := #[.tmp s, .tmp x], argTypes := #[45, 45] }) (G c : Nat) (hs : a.eval (.tmp s) = .slice (some ⟨G, 0, none⟩) 0 0) (hx : a.eval (.tmp x) = .slice none 0 c) (h : wpList Tryz.prog ops Q rest (a.put o.dst (.slice (some ⟨G, 0, none⟩) 0 0)) w) : wpList Tryz.prog ops Q (o :: rest) a w := by
 refine wpList_plain hgd fun K hK => ?_
 obtain ⟨dst, op, ty, pos, aft, gd⟩ := o
 simp only at ho hgd
 subst ho hgd
 have hk := hK _ _ h
 have hs' : a.tmps[s]?.getD undef = .slice (some ⟨G, 0, none⟩) 0 0 := by simpa [Act.eval] using hs
 have hx' : a.tmps[x]?.getD undef = .slice none 0 c := by simpa [Act.eval] using hx
 clear hs hx h hK
 go_simp
 exact hk
theorem wpList_app_ints {ops : Array Oper} {rest : List Oper} {o : Oper} {a : Act} {Q : Exit → Act → World → Prop} (w : World) (hgd : o.guard = none) (s x : Nat) (ho : o.op = .call { callee := .builtin .append, args := #[.tmp s, .tmp x], argTypes := #[45, 45] }) (base G : Nat) (hs : a.eval (.tmp s) = .slice (some ⟨G, 0, none⟩) 0 0) (hown : w.ownsRow base 3 1 (.slice (some ⟨G, 0, none⟩) 0 0) 0 []) (ad : Option Addr) (zs : List Int) (c : Nat) (hx : a.eval (.tmp x) = .slice ad zs.length c) (hI : IntsAt w ad zs.length zs) (hn : zs.length ≤ 1048576) (hbase : base ≤ w.heap.size)
  (h : ∀ g cap w', w'.ownsRow base 3 1 (.slice (some ⟨g, 0, none⟩) zs.length cap) zs.length (zs.map (Value.int .i64)) → w.grownBy w' (some G) → wpList Tryz.prog ops Q rest (a.put o.dst (.slice (some ⟨g, 0, none⟩) zs.length cap)) w') : wpList Tryz.prog ops Q (o :: rest) a w := by
 obtain ⟨i0, hi, hz0, hz1, hz2⟩ : ∃ i0, Tryz.prog.info? 3 = some i0 ∧ i0.zero = some (.int .i64 0) ∧ i0.size = 1 ∧ i0.bytes = 8 := ⟨_, rfl, rfl, rfl, rfl⟩
 match ad, hx, hI with
 | none, hx, hI =>
  have e0 : zs.length = 0 := by
   by_cases h0 : zs.length = 0
   ·exact h0
   ·obtain ⟨b, off, e, _⟩ := hI.2 0 (by omega)
    cases e
  have ez : zs = [] := List.length_eq_zero_iff.1 e0
  subst ez
  exact wpList_app_none w hgd s x ho G c hs hx (h G 0 w hown ⟨rfl, rfl, rfl, Nat.le_refl _, fun _ _ _ => rfl⟩)
 | some ⟨b, off, sp⟩, hx, hI =>
  refine wpList_append_all w hgd (.tmp s) (.tmp x) 45 ho base 3 i0 (.int .i64 0) 1 8 Tryz.underlying45 hi hz0 hz1 hz2 rfl (by decide) G 0 0 [] hs hown ⟨b, off, sp⟩ zs.length c (zs.map (Value.int .i64)) hx (by simp) (fun j u hu => ?_) (by simp [Value.oneCell']) (by unfold maxLen; omega) (by omega) hbase fun g cap w' h1 h2 => ?_
  ·have hj : 0 < zs.length := by
    have := (List.getElem?_eq_some_iff.1 hu).1
    simp at this
    omega
   have e := ints_spot hI hj
   simp at e
   subst e
   exact ints_news hI j u hu
  ·have := h g cap w' (by simpa using h1) h2
   simpa using this
theorem step_app_ints {ops : Array Oper} {o : Oper} {a : Act} {K : Act → World → Prop} {Q : Exit → Act → World → Prop} {E : Prop} (w : World) (hgd : o.guard = none) (s x : Nat) (ho : o.op = .call { callee := .builtin .append, args := #[.tmp s, .tmp x], argTypes := #[45, 45] }) (base g0 cap0 nz ny nr : Nat) (zs ys : List Int) (_hz : zs.length = nz) (hy : ys.length = ny) (hr : nz + ny = nr) (hs : a.eval (.tmp s) = .slice (some ⟨g0, 0, none⟩) nz cap0) (hown : w.ownsRow base 3 1 (.slice (some ⟨g0, 0, none⟩) nz cap0) nz (zs.map (Value.int .i64))) (ad : Option Addr) (c : Nat) (hx : a.eval (.tmp x) = .slice ad ny c) (hI : IntsAt w ad ny ys) (hn : nr ≤ 2000000) (hbase : base ≤ w.heap.size)
  (h : ∀ g cap w', w'.ownsRow base 3 1 (.slice (some ⟨g, 0, none⟩) nr cap) nr ((zs ++ ys).map (Value.int .i64)) → w.grownBy w' (some g0) → K (a.put o.dst (.slice (some ⟨g, 0, none⟩) nr cap)) w') :
  if Region.wanted o (yielded ops a.tmps) = true then Oper.wp Tryz.prog o a w K Q else E := by
 obtain ⟨i0, hi, hz0, hz1, hz2⟩ : ∃ i0, Tryz.prog.info? 3 = some i0 ∧ i0.zero = some (.int .i64 0) ∧ i0.size = 1 ∧ i0.bytes = 8 := ⟨_, rfl, rfl, rfl, rfl⟩
 subst hr
 match ad, hx, hI with
 | none, hx, hI =>
  have e0 : ny = 0 := by
   by_cases h0 : ny = 0
   ·exact h0
   ·obtain ⟨b, off, e, _⟩ := hI.2 0 (by omega)
    cases e
  subst e0
  have ez : ys = [] := List.length_eq_zero_iff.1 hy
  subst ez
  have hw : Region.wanted o (yielded ops a.tmps) = true := by simp [Region.wanted, hgd]
  rw [if_pos hw]
  have hk := h g0 cap0 w (by simpa using hown) ⟨rfl, rfl, rfl, Nat.le_refl _, fun _ _ _ => rfl⟩
  obtain ⟨dst, op, ty, pos, aft, gd⟩ := o
  simp only at ho hgd
  subst ho hgd
  have hs' : a.tmps[s]?.getD undef = .slice (some ⟨g0, 0, none⟩) nz cap0 := by simpa [Act.eval] using hs
  have hx' : a.tmps[x]?.getD undef = .slice none 0 c := by simpa [Act.eval] using hx
  clear hs hx h
  simp only [Nat.add_zero] at hk
  have hle : nz ≤ cap0 := by
   rcases own_shape hown with ⟨e, _⟩ | ⟨_, _, _, _, _, hle⟩
   ·cases e
   ·exact hle
  unfold Oper.wp
  go_simp
  exact hk
 | some ⟨b, off, sp⟩, hx, hI =>
  refine step_append_row w hgd (.tmp s) (.tmp x) 45 ho base 3 i0 (.int .i64 0) 1 8 Tryz.underlying45 hi hz0 hz1 hz2 rfl (by decide) g0 nz cap0 _ hs hown ⟨b, off, sp⟩ ny c (ys.map (Value.int .i64)) hx (by simp [hy]) (fun j u hu => ?_) (by simp [Value.oneCell']) (by unfold maxLen; omega) (by omega) hbase fun g cap w' h1 h2 => ?_
  ·have hj : 0 < ys.length := by
    have := (List.getElem?_eq_some_iff.1 hu).1
    simp at this
    omega
   rw [← hy] at hI
   have e := ints_spot hI hj
   simp at e
   subst e
   exact ints_news hI j u hu
  ·exact h g cap w' (by simpa using h1) h2
theorem grown_b {w w' : World} {g B : Nat} (h : w.grownBy w' (some g)) (hB : B ≤ g) (_hs : B ≤ w.heap.size) : Below B w w' := ⟨h.os, h.tape, h.output, h.size, fun j hj => h.block j (by omega) (fun e => by injection e with e; omega)⟩
theorem sCopyS_any (s : Sl) (a6 a11 a12 : Option Addr) (c6 c11 c12 : Nat) (w : World) (h6 : TxtAt w a6 s.p.m s.p.S) (h11 : IntsAt w a11 s.ze.length s.ze) (h12 : IntsAt w a12 s.zr.length s.zr) (hs : SlS s) :
  Calls Tryz.prog 72 #[slV s (.slice a6 s.p.m c6) (.slice a11 s.ze.length c11) (.slice a12 s.zr.length c12)] w fun e w' => ∃ (g6 g11 g12 h6 h11 h12 : Nat) (F6 F11 F12 : Nat → Prop), e = .returned (slV s (.slice (some ⟨g6, 0, none⟩) s.p.m h6) (.slice (some ⟨g11, 0, none⟩) s.ze.length h11) (.slice (some ⟨g12, 0, none⟩) s.zr.length h12)) ∧ SlO w' w.heap.size s (.slice (some ⟨g6, 0, none⟩) s.p.m h6) (.slice (some ⟨g11, 0, none⟩) s.ze.length h11) (.slice (some ⟨g12, 0, none⟩) s.zr.length h12) F6 F11 F12 ∧ Below w.heap.size w w' := by
 obtain ⟨A, HA⟩ : ∃ x, Hid (x = w.heap.size) := ⟨_, rfl⟩
 obtain ⟨D, HD⟩ : ∃ x, Hid (x = w.heap.size + 1) := ⟨_, rfl⟩
 obtain ⟨w0, HW0⟩ : ∃ x, Hid (x = (w.alloc (.cells (slC s (.slice a6 s.p.m c6) (.slice a11 s.ze.length c11) (.slice a12 s.zr.length c12)) 65)).alloc (.cells #[.string ⟨#[]⟩, .string ⟨#[]⟩, .int .i64 0, .int .i64 0, .int .i64 0, .string ⟨#[]⟩, .slice none 0 0, .bool false, .bool false, .bool false, .bool false, .slice none 0 0, .slice none 0 0] 65)) := ⟨_, rfl⟩
 have RA : Hid (Row w0 A 65 (slC s (.slice a6 s.p.m c6) (.slice a11 s.ze.length c11) (.slice a12 s.zr.length c12))) := by show Row _ _ _ _; rw [HW0.out, HA.out]; exact Row.alloc (Row.new w _ _) _
 have RD : Hid (Row w0 D 65 #[.string ⟨#[]⟩, .string ⟨#[]⟩, .int .i64 0, .int .i64 0, .int .i64 0, .string ⟨#[]⟩, .slice none 0 0, .bool false, .bool false, .bool false, .bool false, .slice none 0 0, .slice none 0 0]) := by
  show Row _ _ _ _
  rw [HW0.out, HD.out]
  have := Row.new (w.alloc (.cells (slC s (.slice a6 s.p.m c6) (.slice a11 s.ze.length c11) (.slice a12 s.zr.length c12)) 65)) #[.string ⟨#[]⟩, .string ⟨#[]⟩, .int .i64 0, .int .i64 0, .int .i64 0, .string ⟨#[]⟩, .slice none 0 0, .bool false, .bool false, .bool false, .bool false, .slice none 0 0, .slice none 0 0] 65
  simpa using this
 have hb0 : Below w.heap.size w w0 := by rw [HW0.out]; exact ((Below.refl _ _).alloc (Nat.le_refl _) _).alloc (by simp) _
 have KB0 : Hid (Below w.heap.size w w0) := hb0
 have HL : Hid (A ≠ D ∧ w.heap.size ≤ A ∧ w.heap.size ≤ D ∧ A < w0.heap.size ∧ D < w0.heap.size) := ⟨by have := HA.out; have := HD.out; omega, by have := HA.out; omega, by have := HD.out; omega, RA.out.lt, RD.out.lt⟩
 have KC : Hid _ := sCopyP_any s.p.r s.p.k s.p.n s.p.i s.p.b a6 s.p.m c6 s.p.S w0 (h6.below hb0) hs.1
 have KI1 : Hid (IntsAt w a11 s.ze.length s.ze) := h11
 have KI2 : Hid (IntsAt w a12 s.zr.length s.zr) := h12
 have KS : Hid (SlS s) := hs
 clear h6 h11 h12 hs hb0
 go_enter Tryz.func72, Tryz.ntmps72
 go_wp2_with fail
 rw [← HW0.out, ← HD.out, ← HA.out]
 refine Calls.mono KC.out ?_
 rintro e w1 ⟨g6, h6, rfl, O1, b1⟩
 have RA1 := RA.out.below b1 RA.out.lt
 have RD1 := RD.out.below b1 RD.out.lt
 have y1 := RA1.cell 1
 have f1 := RA1.free 1
 have y2 := RA1.cell 2
 have f2 := RA1.free 2
 have y3 := RA1.cell 3
 have f3 := RA1.free 3
 have y4 := RA1.cell 4
 have f4 := RA1.free 4
 have y5 := RA1.cell 5
 have f5 := RA1.free 5
 have y6 := RA1.cell 6
 have f6 := RA1.free 6
 simp at y1 y2 y3 y4 y5 y6
 obtain ⟨w2, HW2⟩ : ∃ x, Hid (x = ((((((w1.setCell ⟨A, 1, none⟩ (.string s.p.r)).setCell ⟨A, 2, none⟩ (.int .i64 s.p.k)).setCell ⟨A, 3, none⟩ (.int .i64 s.p.n)).setCell ⟨A, 4, none⟩ (.int .i64 s.p.i)).setCell ⟨A, 5, none⟩ (.string s.p.b)).setCell ⟨A, 6, none⟩ (.slice (some ⟨g6, 0, none⟩) s.p.m h6))) := ⟨_, rfl⟩
 obtain ⟨G1, HGW⟩ : ∃ x, Hid (x = w1.heap.size) := ⟨_, rfl⟩
 have sz2 : w2.heap.size = w1.heap.size := by rw [HW2.out]; simp
 have HG1 : Hid (G1 = w2.heap.size) := by show _ = _; rw [sz2]; exact HGW.out
 have l6 := World.ownsRow.lt O1 g6 rfl
 have K2 : Hid (Row w2 A 65 (slC s (.slice (some ⟨g6, 0, none⟩) s.p.m h6) (.slice a11 s.ze.length c11) (.slice a12 s.zr.length c12)) ∧ Row w2 D 65 #[.string ⟨#[]⟩, .string ⟨#[]⟩, .int .i64 0, .int .i64 0, .int .i64 0, .string ⟨#[]⟩, .slice none 0 0, .bool false, .bool false, .bool false, .bool false, .slice none 0 0, .slice none 0 0] ∧ OwnT w2 w0.heap.size (some ⟨g6, 0, none⟩) s.p.m h6 s.p.S ∧ Below w.heap.size w w2) := by
  rw [HW2.out]
  exact ⟨(((((RA1.set 1 _).set 2 _).set 3 _).set 4 _).set 5 _).set 6 _, (((((RD1.other 1 _ (Ne.symm HL.out.1)).other 2 _ (Ne.symm HL.out.1)).other 3 _ (Ne.symm HL.out.1)).other 4 _ (Ne.symm HL.out.1)).other 5 _ (Ne.symm HL.out.1)).other 6 _ (Ne.symm HL.out.1), (((((O1.setFar HL.out.2.2.2.1).setFar HL.out.2.2.2.1).setFar HL.out.2.2.2.1).setFar HL.out.2.2.2.1).setFar HL.out.2.2.2.1).setFar HL.out.2.2.2.1, ((((((below2 KB0.out b1).setCell HL.out.2.1 _).setCell HL.out.2.1 _).setCell HL.out.2.1 _).setCell HL.out.2.1 _).setCell HL.out.2.1 _).setCell HL.out.2.1 _⟩
 have HQ1 : Hid (g6 < G1 ∧ w0.heap.size ≤ g6 ∧ w0.heap.size ≤ G1) := by have := HG1.out; have := l6.1; have := l6.2; exact ⟨by omega, by omega, by omega⟩
 have lA2 := K2.out.1.lt
 clear O1 b1 RA1 RD1 l6
 go_upto_region 2 with fail
 rw [← HW2.out]
 clear y1 f1 y2 f2 y3 f3 y4 f4 y5 f5 y6 f6 sz2
 go_cut [] from 7 to 11 (fun wx => Hid (∃ g11 h11, Row wx A 65 (slC s (.slice (some ⟨g6, 0, none⟩) s.p.m h6) (.slice (some ⟨g11, 0, none⟩) s.ze.length h11) (.slice a12 s.zr.length c12)) ∧ Row wx D 65 #[.string ⟨#[]⟩, .string ⟨#[]⟩, .int .i64 0, .int .i64 0, .int .i64 0, .string ⟨#[]⟩, .slice none 0 0, .bool false, .bool false, .bool false, .bool false, .slice none 0 0, .slice none 0 0] ∧ OwnT wx w0.heap.size (some ⟨g6, 0, none⟩) s.p.m h6 s.p.S ∧ wx.ownsRow G1 3 1 (.slice (some ⟨g11, 0, none⟩) s.ze.length h11) s.ze.length (s.ze.map (Value.int .i64)) ∧ Below w.heap.size w wx))
 case first =>
  have HOa : Hid ((w2.alloc (.cells #[] 3)).ownsRow G1 3 1 (.slice (some ⟨G1, 0, none⟩) 0 0) 0 []) := by
   show World.ownsRow _ _ _ _ _ _ _
   rw [HG1.out]
   have := World.ownsRow_lit (e := 3) (size := 1) (base := w2.heap.size) w2 #[] 0 (by simp) (by unfold maxLen; omega) (by simp)
   exact this
  have HIa : Hid (IntsAt (w2.alloc (.cells #[] 3)) a11 s.ze.length s.ze) := (KI1.out.below K2.out.2.2.2).below ((Below.refl _ _).alloc (Nat.le_refl _) _)
  have z11 := K2.out.1.cell 11
  simp at z11
  have HLe : Hid (G1 ≤ (w2.alloc (.cells #[] 3)).heap.size) := by rw [HG1.out]; show _ ≤ _; simp
  have hG1' := HG1.out
  rw [hG1'] at HOa HLe
  go_wp2_with (at_builtin; refine wpList_app_ints _ (by rfl) _ _ (by rfl) w2.heap.size w2.heap.size (by rfl) ?_ a11 s.ze c11 (by rfl) ?_ KS.out.2.1 ?_ ?_; exact HOa.out; exact HIa.out; exact HLe.out; intro g11 h11 w4 hown4 hgrow4; have b24 : Below w2.heap.size w2 w4 := ((Below.refl _ _).alloc (Nat.le_refl _) _).grown hgrow4 (by simp) (fun x hx => by cases hx; exact Nat.le_refl _); have R4 := K2.out.1.below b24 lA2; have v11 := R4.cell 11; have u11 := R4.free 11; simp at v11; have KB24 : Hid _ := b24; have KO4 : Hid _ := hown4; clear hown4 hgrow4 z11 b24 R4)
  go_meet
  have l11 := World.ownsRow.lt KO4.out g11 rfl
  refine ⟨g11, h11, (K2.out.1.below KB24.out lA2).set 11 _, (K2.out.2.1.below KB24.out K2.out.2.1.lt).other 11 _ (Ne.symm HL.out.1), (K2.out.2.2.1.below KB24.out).setFar HL.out.2.2.2.1, ?_, (below2 K2.out.2.2.2 KB24.out).setCell HL.out.2.1 _⟩
  rw [hG1']
  exact own_kept KO4.out (grown_set _ _ _ _) (fun x e => by cases e; show g11 ≠ A; have := l11.1; omega)
 obtain ⟨g11, h11, RAc, RDc, O6c, O11c, Bc⟩ := hcut.out
 clear hcut
 have lAc := RAc.lt
 have KC2 : Hid (Row wc A 65 (slC s (.slice (some ⟨g6, 0, none⟩) s.p.m h6) (.slice (some ⟨g11, 0, none⟩) s.ze.length h11) (.slice a12 s.zr.length c12)) ∧ Row wc D 65 #[.string ⟨#[]⟩, .string ⟨#[]⟩, .int .i64 0, .int .i64 0, .int .i64 0, .string ⟨#[]⟩, .slice none 0 0, .bool false, .bool false, .bool false, .bool false, .slice none 0 0, .slice none 0 0] ∧ OwnT wc w0.heap.size (some ⟨g6, 0, none⟩) s.p.m h6 s.p.S ∧ wc.ownsRow G1 3 1 (.slice (some ⟨g11, 0, none⟩) s.ze.length h11) s.ze.length (s.ze.map (Value.int .i64)) ∧ Below w.heap.size w wc) := ⟨RAc, RDc, O6c, O11c, Bc⟩
 clear RAc RDc O6c O11c Bc HW2 HGW K2 HG1
 go_upto_region 3 with fail
 obtain ⟨wb, HWB⟩ : ∃ x, x = wc := ⟨wc, rfl⟩
 subst HWB
 go_cut [] from 12 to 16 (fun wx => Hid (∃ g12 h12, Row wx A 65 (slC s (.slice (some ⟨g6, 0, none⟩) s.p.m h6) (.slice (some ⟨g11, 0, none⟩) s.ze.length h11) (.slice (some ⟨g12, 0, none⟩) s.zr.length h12)) ∧ Row wx D 65 #[.string ⟨#[]⟩, .string ⟨#[]⟩, .int .i64 0, .int .i64 0, .int .i64 0, .string ⟨#[]⟩, .slice none 0 0, .bool false, .bool false, .bool false, .bool false, .slice none 0 0, .slice none 0 0] ∧ OwnT wx w0.heap.size (some ⟨g6, 0, none⟩) s.p.m h6 s.p.S ∧ wx.ownsRow G1 3 1 (.slice (some ⟨g11, 0, none⟩) s.ze.length h11) s.ze.length (s.ze.map (Value.int .i64)) ∧ wx.ownsRow wb.heap.size 3 1 (.slice (some ⟨g12, 0, none⟩) s.zr.length h12) s.zr.length (s.zr.map (Value.int .i64)) ∧ Below w.heap.size w wx))
 case first =>
  have HOa : Hid ((wb.alloc (.cells #[] 3)).ownsRow wb.heap.size 3 1 (.slice (some ⟨wb.heap.size, 0, none⟩) 0 0) 0 []) := World.ownsRow_lit (e := 3) (size := 1) (base := wb.heap.size) wb #[] 0 (by simp) (by unfold maxLen; omega) (by simp)
  have HIa : Hid (IntsAt (wb.alloc (.cells #[] 3)) a12 s.zr.length s.zr) := (KI2.out.below KC2.out.2.2.2.2).below ((Below.refl _ _).alloc (Nat.le_refl _) _)
  have z12 := KC2.out.1.cell 12
  simp at z12
  have HLe : Hid (wb.heap.size ≤ (wb.alloc (.cells #[] 3)).heap.size) := by show _ ≤ _; simp
  go_wp2_with (at_builtin; refine wpList_app_ints _ (by rfl) _ _ (by rfl) wb.heap.size wb.heap.size (by rfl) ?_ a12 s.zr c12 (by rfl) ?_ KS.out.2.2 ?_ ?_; exact HOa.out; exact HIa.out; exact HLe.out; intro g12 h12 w4 hown4 hgrow4; have b24 : Below wb.heap.size wb w4 := ((Below.refl _ _).alloc (Nat.le_refl _) _).grown hgrow4 (by simp) (fun x hx => by cases hx; exact Nat.le_refl _); have R4 := KC2.out.1.below b24 lAc; have v12 := R4.cell 12; have u12 := R4.free 12; simp at v12; have KB24 : Hid _ := b24; have KO4 : Hid _ := hown4; clear hown4 hgrow4 z12 b24 R4)
  go_meet
  have l12 := World.ownsRow.lt KO4.out g12 rfl
  have l11 := World.ownsRow.lt KC2.out.2.2.2.1 g11 rfl
  have hw0G := HQ1.out.2.2
  have hA0 := HL.out.2.2.2.1
  exact ⟨g12, h12, (KC2.out.1.below KB24.out lAc).set 12 _, (KC2.out.2.1.below KB24.out KC2.out.2.1.lt).other 12 _ (Ne.symm HL.out.1), (KC2.out.2.2.1.below KB24.out).setFar HL.out.2.2.2.1, own_kept (ownsRow_below KC2.out.2.2.2.1 KB24.out) (grown_set _ _ _ _) (fun x e => by cases e; show g11 ≠ A; have := l11.1; omega), own_kept KO4.out (grown_set _ _ _ _) (fun x e => by cases e; show g12 ≠ A; have := l12.1; omega), (below2 KC2.out.2.2.2.2 KB24.out).setCell HL.out.2.1 _⟩
 obtain ⟨g12, h12, RAd, RDd, O6, O11, O12, Bd⟩ := hcut.out
 clear hcut
 have l11 := World.ownsRow.lt KC2.out.2.2.2.1 g11 rfl
 have l12 := World.ownsRow.lt O12 g12 rfl
 have hq := HQ1.out
 have hl := HL.out
 have w0w : w.heap.size ≤ w0.heap.size := KB0.out.size
 have HA6 : Hid (Row wc A 65 (slC s (.slice (some ⟨g6, 0, none⟩) s.p.m h6) (.slice (some ⟨g11, 0, none⟩) s.ze.length h11) (.slice (some ⟨g12, 0, none⟩) s.zr.length h12))) := RAd
 have HD6 : Hid (Row wc D 65 #[.string ⟨#[]⟩, .string ⟨#[]⟩, .int .i64 0, .int .i64 0, .int .i64 0, .string ⟨#[]⟩, .slice none 0 0, .bool false, .bool false, .bool false, .bool false, .slice none 0 0, .slice none 0 0]) := RDd
 obtain ⟨w7, HW7⟩ : ∃ x, Hid (x = wc.setRow D (slC s (.slice (some ⟨g6, 0, none⟩) s.p.m h6) (.slice (some ⟨g11, 0, none⟩) s.ze.length h11) (.slice (some ⟨g12, 0, none⟩) s.zr.length h12))) := ⟨_, rfl⟩
 have ZR : Hid (Row w7 D 65 (slC s (.slice (some ⟨g6, 0, none⟩) s.p.m h6) (.slice (some ⟨g11, 0, none⟩) s.ze.length h11) (.slice (some ⟨g12, 0, none⟩) s.zr.length h12))) := by show Row _ _ _ _; rw [HW7.out]; exact RDd.row
 have ZB : Hid (Below w.heap.size w w7) := by show Below _ _ _; rw [HW7.out]; exact belowSetRow Bd hl.2.2.1 _
 have HSO : Hid (SlO w7 w.heap.size s (.slice (some ⟨g6, 0, none⟩) s.p.m h6) (.slice (some ⟨g11, 0, none⟩) s.ze.length h11) (.slice (some ⟨g12, 0, none⟩) s.zr.length h12) (fun x => x = g6) (fun x => x = g11) (fun x => x = g12)) := by
  refine ⟨?_, ?_, ?_, fun x e1 e2 => ?_, fun x e1 e2 => ?_, fun x e1 e2 => ?_⟩
  ·rw [HW7.out]
   exact ow_txt (own_kept (OwnT.base O6 w0w) (grown_row _ _ _) (fun x e => by cases e; show g6 ≠ D; omega)) (fun x e => by cases e; rfl)
  ·rw [HW7.out]
   exact ow_ints (own_base (own_kept O11 (grown_row _ _ _) (fun x e => by cases e; show g11 ≠ D; omega)) (by omega)) (fun x e => by cases e; rfl)
  ·rw [HW7.out]
   exact ow_ints (own_base (own_kept O12 (grown_row _ _ _) (fun x e => by cases e; show g12 ≠ D; omega)) (by omega)) (fun x e => by cases e; rfl)
  ·omega
  ·omega
  ·omega
 clear RAd RDd O6 O11 O12 Bd l11 l12 hq hl w0w KC2
 go_wp2_with (first | (refine wpList_load_row (by rfl) 65 _ (by rfl) A (by rfl) 65 (slC s (.slice (some ⟨g6, 0, none⟩) s.p.m h6) (.slice (some ⟨g11, 0, none⟩) s.ze.length h11) (.slice (some ⟨g12, 0, none⟩) s.zr.length h12)) (0, 0) _ ?_ Tryz.underlying65 (by rfl) Tryz.infoSl ?_; exact HA6.out) | (refine wpList_store_row (by rfl) 65 _ _ (by rfl) D (slC s (.slice (some ⟨g6, 0, none⟩) s.p.m h6) (.slice (some ⟨g11, 0, none⟩) s.ze.length h11) (.slice (some ⟨g12, 0, none⟩) s.zr.length h12)) (by rfl) (by rfl) 65 #[.string ⟨#[]⟩, .string ⟨#[]⟩, .int .i64 0, .int .i64 0, .int .i64 0, .string ⟨#[]⟩, .slice none 0 0, .bool false, .bool false, .bool false, .bool false, .slice none 0 0, .slice none 0 0] ?_ Tryz.infoSl rfl (by simp [Value.oneCell']) ?_; exact HD6.out; rw [← HW7.out]))
 exact bodyPost_ret (v := slV s (.slice (some ⟨g6, 0, none⟩) s.p.m h6) (.slice (some ⟨g11, 0, none⟩) s.ze.length h11) (.slice (some ⟨g12, 0, none⟩) s.zr.length h12)) (results_cell_row Tryz.results72 _ _ D 65 _ (0, 0) _ (by rfl) ZR.out Tryz.underlying65 (by rfl) Tryz.infoSl) rfl ⟨g6, g11, g12, h6, h11, h12, _, _, _, rfl, HSO.out, ZB.out⟩
theorem cnt_is {zs : List Int} {x : Int} {k : Nat} (hs : zs.Pairwise (· ≤ ·)) (hk : k ≤ zs.length) (h1 : ∀ j, j < k → zs.getD j 0 < x) (h2 : k < zs.length → x ≤ zs.getD k 0) : cntI zs x = k := by
 have e : zs = zs.take k ++ zs.drop k := (List.take_append_drop k zs).symm
 unfold cntI
 rw [e, List.countP_append]
 have a1 : (zs.take k).countP (· < x) = k := by
  have hl : (zs.take k).length = k := by rw [List.length_take]; omega
  refine (List.countP_eq_length.2 fun y hy => ?_).trans hl
  obtain ⟨j, hj, rfl⟩ := List.mem_iff_getElem.1 hy
  have hj' : j < k := by omega
  have := h1 j hj'
  rw [List.getD_eq_getElem?_getD, List.getElem?_eq_getElem (by omega)] at this
  simpa using this
 have a2 : (zs.drop k).countP (· < x) = 0 := by
  refine List.countP_eq_zero.2 fun y hy => ?_
  obtain ⟨j, hj, rfl⟩ := List.mem_iff_getElem.1 hy
  rw [List.length_drop] at hj
  have hk' : k < zs.length := by omega
  have h3 := h2 hk'
  rw [List.getD_eq_getElem?_getD, List.getElem?_eq_getElem hk'] at h3
  have h4 : zs[k] ≤ zs[k + j] := by
   by_cases e0 : j = 0
   ·subst e0; exact Int.le_refl _
   ·exact (List.pairwise_iff_getElem.1 hs) k (k + j) hk' (by omega) (by omega)
  simp only [List.getElem_drop, decide_eq_true_eq, Option.getD_some] at h3 ⊢
  omega
 rw [a1, a2]
 rfl
theorem mem_is {zs : List Int} {x : Int} {k : Nat} (hs : zs.Pairwise (· ≤ ·)) (h1 : ∀ j, j < k → zs.getD j 0 < x) (h2 : k < zs.length → x < zs.getD k 0) : x ∉ zs := by
 intro hm
 obtain ⟨j, hj, e⟩ := List.mem_iff_getElem.1 hm
 by_cases hjk : j < k
 ·have := h1 j hjk
  rw [List.getD_eq_getElem?_getD, List.getElem?_eq_getElem hj] at this
  simp at this
  omega
 ·have hk' : k < zs.length := by omega
  have h3 := h2 hk'
  rw [List.getD_eq_getElem?_getD, List.getElem?_eq_getElem hk'] at h3
  simp at h3
  have h4 : zs[k] ≤ zs[j] := by
   by_cases e0 : j = k
   ·subst e0; exact Int.le_refl _
   ·exact (List.pairwise_iff_getElem.1 hs) k j hk' hj (by omega)
  omega
theorem own_le {w : World} {B e s g n cap n' : Nat} {xs : List Value} (h : w.ownsRow B e s (.slice (some ⟨g, 0, none⟩) n cap) n' xs) : n ≤ cap := by
 rcases own_shape h with ⟨e, _⟩ | ⟨_, _, _, _, _, hle⟩
 ·cases e
 ·exact hle
theorem row_grown {w w' : World} {g g0 t : Nat} {cs : Array Value} (h : Row w g t cs) (hg : w.grownBy w' (some g0)) (hne : g ≠ g0) : Row w' g t cs := (hg.block g h.lt (fun e => hne (by injection e))).trans h
theorem ints_one {w : World} {g : Nat} {x : Int} (h : Row w g 3 #[.int .i64 x]) : IntsAt w (some ⟨g, 0, none⟩) 1 [x] := ⟨rfl, fun i hi => ⟨g, 0, rfl, by obtain rfl : i = 0 := (by omega); simpa using h.cell 0⟩⟩
theorem ints_take {w : World} {g N k : Nat} {zs : List Int} (h : IntsAt w (some ⟨g, 0, none⟩) N zs) (hk : k ≤ N) : IntsAt w (some ⟨g, 0, none⟩) k (zs.take k) := by
 have hl := h.1
 refine ⟨by rw [List.length_take]; omega, fun i hi => ?_⟩
 obtain ⟨b, off, e, hc⟩ := h.2 i (by omega)
 refine ⟨b, off, e, ?_⟩
 rw [hc, List.getD_eq_getElem?_getD, List.getD_eq_getElem?_getD, List.getElem?_take_of_lt hi]
theorem ints_drop {w : World} {g N k : Nat} {zs : List Int} (h : IntsAt w (some ⟨g, 0, none⟩) N zs) (hk : k ≤ N) : IntsAt w (some ⟨g, k, none⟩) (N - k) (zs.drop k) := by
 have hl := h.1
 refine ⟨by rw [List.length_drop]; omega, fun i hi => ?_⟩
 obtain ⟨b, off, e, hc⟩ := h.2 (k + i) (by omega)
 cases e
 refine ⟨g, k, rfl, ?_⟩
 rw [Nat.zero_add] at hc
 rw [hc, List.getD_eq_getElem?_getD, List.getD_eq_getElem?_getD, List.getElem?_drop]
theorem ints_nil (w : World) (a : Option Addr) (zs : List Int) {n : Nat} (hn : n = 0) (hz : zs.length = 0) : IntsAt w a n zs := ⟨by omega, fun i hi => by omega⟩
theorem ints_own {w : World} {B g n cap : Nat} {zs : List Int} (h : w.ownsRow B 3 1 (.slice (some ⟨g, 0, none⟩) n cap) n (zs.map (Value.int .i64))) (hl : zs.length = n) : IntsAt w (some ⟨g, 0, none⟩) n zs := by
 refine ⟨hl, fun i hi => ⟨g, 0, rfl, ?_⟩⟩
 rw [Nat.zero_add, World.ownsRow.cellAt h i (by omega), List.getElem?_map, List.getD_eq_getElem?_getD, List.getElem?_eq_getElem (by omega)]
 rfl
theorem put_no {zs : List Int} {x : Int} (hx : x ≠ -1) (hm : x ∉ zs) {k : Nat} (hk : cntI zs x = k) : putI zs x = [] ++ zs.take k ++ [x] ++ zs.drop k := by
 unfold putI
 rw [if_neg (fun h => by rcases h with h | h; exact hx h; exact hm h), hk]
 simp
def PutR (w w' : World) (a : Option Addr) (c0 : Nat) (z0 : List Int) (a' : Option Addr) (c' n : Nat) (zs : List Int) : Prop := IntsAt w' a' n zs ∧ (a' = a ∨ ∀ b, a' = some b → w.heap.size ≤ b.block) ∧ ((a' = a ∧ c' = c0 ∧ zs = z0) ∨ w'.ownsRow w.heap.size 3 1 (.slice a' n c') n (zs.map (Value.int .i64)))
theorem put_new {w w' : World} {g n cap : Nat} {a : Option Addr} {zs : List Int} (h : w'.ownsRow w.heap.size 3 1 (.slice (some ⟨g, 0, none⟩) n cap) n (zs.map (Value.int .i64))) (hl : zs.length = n) {c0 : Nat} {z0 : List Int} : PutR w w' a c0 z0 (some ⟨g, 0, none⟩) cap n zs := by
 refine ⟨ints_own h hl, .inr fun b e => ?_, .inr h⟩
 rcases own_shape h with ⟨e1, _⟩ | ⟨g1, _, e1, hb, _⟩
 ·cases e1
 ·cases e1; cases e; exact hb
theorem sPutS_any (g c : Nat) (zs : List Int) (x : Int) (N : Nat) (w : World) (h : IntsAt w (some ⟨g, 0, none⟩) N zs) (hN : zs.length = N) (hc : N ≤ c) (hc2 : c ≤ maxLen) (hn : N ≤ 1048576) (hs : zs.Pairwise (· ≤ ·)) (hx : x ≠ -1) :
  Calls Tryz.prog 83 #[.slice (some ⟨g, 0, none⟩) N c, .int .i64 x] w fun e w' => ∃ a' c', e = .returned (.slice a' (putI zs x).length c') ∧ PutR w w' (some ⟨g, 0, none⟩) c zs a' c' (putI zs x).length (putI zs x) ∧ Below w.heap.size w w' := by
 have KH : Hid (IntsAt w (some ⟨g, 0, none⟩) N zs) := h
 have KS : Hid (zs.Pairwise (· ≤ ·)) := hs
 have HN : Hid (zs.length = N) := hN
 have HX : Hid (x ≠ -1) := hx
 have HM : Hid (c ≤ maxLen) := hc2
 have hcell : ∀ j, j < N → w.cell? ⟨g, j, none⟩ = some (.int .i64 (zs.getD j 0)) := fun j hj => by
  obtain ⟨b, off, e, hc⟩ := h.2 j hj
  cases e
  simpa using hc
 have KCl : Hid (∀ j, j < N → w.cell? ⟨g, j, none⟩ = some (.int .i64 (zs.getD j 0))) := hcell
 clear h hs hN hx hc2 hcell
 go_enter Tryz.func83, Tryz.ntmps83
 go_wp2
 go_loopw [5] (fun vi wr => ∃ k : Nat, k ≤ N ∧ vi = .int .i64 (k : Int) ∧ Hid ((∀ j, j < k → zs.getD j 0 < x) ∧ wr = w)) (fun vi _ => N - (intOf vi).toNat)
 case atStart => exact ⟨0, Nat.zero_le _, rfl, fun j hj => absurd hj (Nat.not_lt_zero _), rfl⟩
 case round =>
  obtain ⟨k, hk, rfl, HJ'⟩ := hrel
  have HJ : Hid (∀ j, j < k → zs.getD j 0 < x) := HJ'.out.1
  obtain rfl := HJ'.out.2.symm
  clear HJ'
  by_cases hlt : k < N
  ·have hki : (k : Int) < (N : Int) := by omega
   have hc1 := KCl.out k hlt
   obtain ⟨z, HZ⟩ : ∃ y, Hid (zs.getD k 0 = y) := ⟨_, rfl⟩
   rw [HZ.out] at hc1
   by_cases hzx : z < x
   ·have HJ2 : Hid (∀ j, j < k + 1 → zs.getD j 0 < x) := fun j hj => by
     by_cases e : j = k
     ·subst e; rw [HZ.out]; exact hzx
     ·exact HJ.out j (by omega)
    go_wp2
    go_roundw
    case rel => exact ⟨k + 1, by omega, by go_num, HJ2.out, trivial⟩
    case measure => simp [intOf]; omega
   ·by_cases hze : z = x
    ·have HP : Hid (putI zs x = zs) := if_pos (.inr (by
      rw [← hze, ← HZ.out, List.getD_eq_getElem?_getD, List.getElem?_eq_getElem (by rw [HN.out]; exact hlt)]
      exact List.getElem_mem _))
     have hze2 : (z == x) = true := by simpa using hze
     go_wp2
     go_ret
     refine ⟨some ⟨g, 0, none⟩, c, ?_, by rw [HP.out, HN.out]; exact ⟨KH.out, .inl rfl, .inl ⟨rfl, rfl, rfl⟩⟩, Below.refl _ _⟩
     rw [HP.out, HN.out]
     rfl
    ·have HZX : Hid (x < z) := by show x < z; omega
     have hze2 : (z == x) = false := by simpa using hze
     have HC : Hid (cntI zs x = k) := cnt_is KS.out (by rw [HN.out]; exact hk) HJ.out (fun _ => by rw [HZ.out]; have := HZX.out; omega)
     have HP : Hid (putI zs x = [] ++ zs.take k ++ [x] ++ zs.drop k) := put_no HX.out (mem_is KS.out HJ.out (fun _ => by rw [HZ.out]; exact HZX.out)) HC.out
     have HT : Hid (∀ W, Below w.heap.size w W → IntsAt W (some ⟨g, 0, none⟩) k (zs.take k)) := fun W hW => ints_take (KH.out.below hW) hk
     have HD : Hid (∀ W, Below w.heap.size w W → IntsAt W (some ⟨g, k, none⟩) (N - k) (zs.drop k)) := fun W hW => ints_drop (KH.out.below hW) hk
     have bd := below_drew w
     have KA : Hid (((w.drew.alloc (.cells #[.int .i64 x] 3)).alloc (.cells #[] 3)).ownsRow w.heap.size 3 1 (.slice (some ⟨w.heap.size + 1, 0, none⟩) 0 0) 0 (([] : List Int).map (Value.int .i64)) ∧ Below w.heap.size w ((w.drew.alloc (.cells #[.int .i64 x] 3)).alloc (.cells #[] 3)) ∧ Row ((w.drew.alloc (.cells #[.int .i64 x] 3)).alloc (.cells #[] 3)) w.heap.size 3 #[.int .i64 x]) := by
      refine ⟨?_, (bd.alloc (Nat.le_refl _) _).alloc (by simp) _, (Row.new w.drew _ _).alloc _⟩
      have := World.ownsRow_lit (e := 3) (size := 1) (base := w.heap.size) (w.drew.alloc (.cells #[.int .i64 x] 3)) #[] 0 (by simp) (by unfold maxLen; omega) (by simp)
      simpa using this
     have bw : Below w.heap.size w (w.alloc (.cells #[] 3)).drew := ⟨((Below.refl w.heap.size w).alloc (Nat.le_refl _) (.cells #[] 3)).os, ((Below.refl w.heap.size w).alloc (Nat.le_refl _) (.cells #[] 3)).tape, ((Below.refl w.heap.size w).alloc (Nat.le_refl _) (.cells #[] 3)).output, ((Below.refl w.heap.size w).alloc (Nat.le_refl _) (.cells #[] 3)).size, ((Below.refl w.heap.size w).alloc (Nat.le_refl _) (.cells #[] 3)).block⟩
     have KB : Hid ((((w.alloc (.cells #[] 3)).drew).alloc (.cells #[.int .i64 x] 3)).ownsRow w.heap.size 3 1 (.slice (some ⟨w.heap.size, 0, none⟩) 0 0) 0 (([] : List Int).map (Value.int .i64)) ∧ Below w.heap.size w (((w.alloc (.cells #[] 3)).drew).alloc (.cells #[.int .i64 x] 3)) ∧ Row (((w.alloc (.cells #[] 3)).drew).alloc (.cells #[.int .i64 x] 3)) (w.heap.size + 1) 3 #[.int .i64 x]) := by
      refine ⟨?_, bw.alloc bw.size _, ?_⟩
      ·have := World.ownsRow.drew (World.ownsRow_lit (e := 3) (size := 1) (base := w.heap.size) w #[] 0 (by simp) (by unfold maxLen; omega) (by simp))
       have := World.ownsRow.alloc this (.cells #[.int .i64 x] 3)
       simpa using this
      ·have := Row.new ((w.alloc (.cells #[] 3)).drew) #[.int .i64 x] 3
       simpa using this
     have KC : Hid (((w.alloc (.cells #[] 3)).drew).ownsRow w.heap.size 3 1 (.slice (some ⟨w.heap.size, 0, none⟩) 0 0) 0 (([] : List Int).map (Value.int .i64)) ∧ Below w.heap.size w ((w.alloc (.cells #[] 3)).drew)) := by
      refine ⟨?_, bw⟩
      have := World.ownsRow.drew (World.ownsRow_lit (e := 3) (size := 1) (base := w.heap.size) w #[] 0 (by simp) (by unfold maxLen; omega) (by simp))
      simpa using this
     have hlT : (zs.take k).length = k := by rw [List.length_take, HN.out]; omega
     have hlD : (zs.drop k).length = N - k := by rw [List.length_drop, HN.out]
     have HLT : Hid (([] ++ zs.take k).length = k ∧ ([] ++ zs.take k ++ [x]).length = k + 1 ∧ (zs.drop k).length = N - k ∧ k + 1 + (N - k) = N + 1 ∧ (zs.take k).length = k) := ⟨by simpa using hlT, by simp [hlT], hlD, by omega, hlT⟩
     have hcm := HM.out
     have hk0 : (0 : Int) ≤ (k : Int) := by omega
     have hkN : (k : Int) ≤ (N : Int) := by omega
     have hNc : (N : Int) ≤ (c : Int) := by omega
     have hkc : (k : Int) ≤ (c : Int) := by omega
     unfold maxLen at hcm
     clear hlT hlD bd bw
     have hck : ¬ c = k := by omega
     have hck2 : ¬ c - k = 0 := by omega
     go_upto_region 6 with fail
     go_region_held3 (fun _ => True) (trivial) ((first | (guard_hyp KO2; refine step_app_ints _ (by rfl) _ _ (by rfl) w.heap.size _ _ (k + 1) (N - k) (N + 1) ([] ++ zs.take k ++ [x]) (zs.drop k) HLT.out.2.1 HLT.out.2.2.1 HLT.out.2.2.2.1 (by rfl) ?_ _ _ (by rfl) ?_ (by omega) ?_ ?_; exact KO2.out.1; exact HD.out _ KO2.out.2; exact KO2.out.2.size; intro g3 c3 w3 hown3 hgrow3; have KO3 : Hid (w3.ownsRow w.heap.size 3 1 (.slice (some ⟨g3, 0, none⟩) (N + 1) c3) (N + 1) (([] ++ zs.take k ++ [x] ++ zs.drop k).map (Value.int .i64)) ∧ Below w.heap.size w w3) := ⟨hown3, KO2.out.2.trans (grown_b hgrow3 (World.ownsRow.lt KO2.out.1 _ rfl).1 KO2.out.2.size)⟩; clear hown3 hgrow3) | (guard_hyp KO1; refine step_app_ints _ (by rfl) _ _ (by rfl) w.heap.size _ _ k 1 (k + 1) ([] ++ zs.take k) [x] HLT.out.1 rfl rfl (by rfl) ?_ _ _ (by rfl) ?_ (by omega) ?_ ?_; (first | exact KO1.out.1 | exact World.ownsRow.alloc KO1.out.1 _); (first | exact ints_one KX1.out | exact ints_one (Row.new _ _ _)); (first | exact KO1.out.2.size | exact (KO1.out.2.alloc KO1.out.2.size _).size); intro g2 c2 w2 hown2 hgrow2; have KO2 : Hid (w2.ownsRow w.heap.size 3 1 (.slice (some ⟨g2, 0, none⟩) (k + 1) c2) (k + 1) (([] ++ zs.take k ++ [x]).map (Value.int .i64)) ∧ Below w.heap.size w w2) := ⟨hown2, (by first | exact KO1.out.2.trans (grown_b hgrow2 (World.ownsRow.lt KO1.out.1 _ rfl).1 KO1.out.2.size) | exact (KO1.out.2.alloc KO1.out.2.size _).trans (grown_b hgrow2 (World.ownsRow.lt KO1.out.1 _ rfl).1 (KO1.out.2.alloc KO1.out.2.size _).size))⟩; clear hown2 hgrow2) | (refine step_app_ints _ (by rfl) _ _ (by rfl) w.heap.size _ _ 0 k k [] (zs.take k) rfl HLT.out.2.2.2.2 (Nat.zero_add _) (by rfl) ?_ _ _ (by rfl) ?_ (by omega) ?_ ?_; (first | exact KB.out.1 | exact KC.out.1 | exact KA.out.1); (first | exact HT.out _ KA.out.2.1 | exact HT.out _ KB.out.2.1 | exact HT.out _ KC.out.2); (first | exact KA.out.2.1.size | exact KB.out.2.1.size | exact KC.out.2.size); intro g1 c1 w1 hown1 hgrow1; have KO1 : Hid (w1.ownsRow w.heap.size 3 1 (.slice (some ⟨g1, 0, none⟩) k c1) k (([] ++ zs.take k).map (Value.int .i64)) ∧ Below w.heap.size w w1) := ⟨hown1, (by first | exact KA.out.2.1.trans (grown_b hgrow1 (by omega) KA.out.2.1.size) | exact KB.out.2.1.trans (grown_b hgrow1 (by omega) KB.out.2.1.size) | exact KC.out.2.trans (grown_b hgrow1 (by omega) KC.out.2.size))⟩; (first | (have KX1 : Hid (Row w1 w.heap.size 3 #[.int .i64 x]) := row_grown KA.out.2.2 hgrow1 (by omega)) | (have KX1 : Hid (Row w1 (w.heap.size + 1) 3 #[.int .i64 x]) := row_grown KB.out.2.2 hgrow1 (by omega)) | skip); clear hown1 hgrow1)))
     all_goals
      go_wp2_with fail
      go_ret
      have e : ([] ++ zs.take k ++ [x] ++ zs.drop k).length = N + 1 := by simp [HN.out]; omega
      refine ⟨some ⟨g3, 0, none⟩, c3, ?_, ?_, KO3.out.2⟩
      ·rw [HP.out, e]; rfl
      ·rw [HP.out, e]; exact put_new KO3.out.1 e
  ·have hnk : ¬ ((k : Int) < (N : Int)) := by omega
   have HKN : Hid (k = N) := by show k = N; omega
   have HC : Hid (cntI zs x = k) := cnt_is KS.out (by rw [HN.out]; exact hk) HJ.out (fun h => by rw [HN.out] at h; omega)
   have HP : Hid (putI zs x = [] ++ zs.take k ++ [x] ++ zs.drop k) := put_no HX.out (mem_is KS.out HJ.out (fun h => by rw [HN.out] at h; omega)) HC.out
   by_cases hck : c = k
   ·have hck2 : c - k = 0 := by omega
    have HT : Hid (∀ W, Below w.heap.size w W → IntsAt W (some ⟨g, 0, none⟩) k (zs.take k)) := fun W hW => ints_take (KH.out.below hW) hk
    have HD : Hid (∀ W, Below w.heap.size w W → IntsAt W (some ⟨g, 0, none⟩) (N - k) (zs.drop k)) := fun W hW => ints_nil _ _ _ (by have := HKN.out; omega) (by rw [List.length_drop, HN.out]; have := HKN.out; omega)
    have bd := below_drew w
    have KA : Hid (((w.drew.alloc (.cells #[.int .i64 x] 3)).alloc (.cells #[] 3)).ownsRow w.heap.size 3 1 (.slice (some ⟨w.heap.size + 1, 0, none⟩) 0 0) 0 (([] : List Int).map (Value.int .i64)) ∧ Below w.heap.size w ((w.drew.alloc (.cells #[.int .i64 x] 3)).alloc (.cells #[] 3)) ∧ Row ((w.drew.alloc (.cells #[.int .i64 x] 3)).alloc (.cells #[] 3)) w.heap.size 3 #[.int .i64 x]) := by
     refine ⟨?_, (bd.alloc (Nat.le_refl _) _).alloc (by simp) _, (Row.new w.drew _ _).alloc _⟩
     have := World.ownsRow_lit (e := 3) (size := 1) (base := w.heap.size) (w.drew.alloc (.cells #[.int .i64 x] 3)) #[] 0 (by simp) (by unfold maxLen; omega) (by simp)
     simpa using this
    have bw : Below w.heap.size w (w.alloc (.cells #[] 3)).drew := ⟨((Below.refl w.heap.size w).alloc (Nat.le_refl _) (.cells #[] 3)).os, ((Below.refl w.heap.size w).alloc (Nat.le_refl _) (.cells #[] 3)).tape, ((Below.refl w.heap.size w).alloc (Nat.le_refl _) (.cells #[] 3)).output, ((Below.refl w.heap.size w).alloc (Nat.le_refl _) (.cells #[] 3)).size, ((Below.refl w.heap.size w).alloc (Nat.le_refl _) (.cells #[] 3)).block⟩
    have KB : Hid ((((w.alloc (.cells #[] 3)).drew).alloc (.cells #[.int .i64 x] 3)).ownsRow w.heap.size 3 1 (.slice (some ⟨w.heap.size, 0, none⟩) 0 0) 0 (([] : List Int).map (Value.int .i64)) ∧ Below w.heap.size w (((w.alloc (.cells #[] 3)).drew).alloc (.cells #[.int .i64 x] 3)) ∧ Row (((w.alloc (.cells #[] 3)).drew).alloc (.cells #[.int .i64 x] 3)) (w.heap.size + 1) 3 #[.int .i64 x]) := by
     refine ⟨?_, bw.alloc bw.size _, ?_⟩
     ·have := World.ownsRow.drew (World.ownsRow_lit (e := 3) (size := 1) (base := w.heap.size) w #[] 0 (by simp) (by unfold maxLen; omega) (by simp))
      have := World.ownsRow.alloc this (.cells #[.int .i64 x] 3)
      simpa using this
     ·have := Row.new ((w.alloc (.cells #[] 3)).drew) #[.int .i64 x] 3
      simpa using this
    have KC : Hid (((w.alloc (.cells #[] 3)).drew).ownsRow w.heap.size 3 1 (.slice (some ⟨w.heap.size, 0, none⟩) 0 0) 0 (([] : List Int).map (Value.int .i64)) ∧ Below w.heap.size w ((w.alloc (.cells #[] 3)).drew)) := by
     refine ⟨?_, bw⟩
     have := World.ownsRow.drew (World.ownsRow_lit (e := 3) (size := 1) (base := w.heap.size) w #[] 0 (by simp) (by unfold maxLen; omega) (by simp))
     simpa using this
    have hlT : (zs.take k).length = k := by rw [List.length_take, HN.out]; omega
    have hlD : (zs.drop k).length = N - k := by rw [List.length_drop, HN.out]
    have HLT : Hid (([] ++ zs.take k).length = k ∧ ([] ++ zs.take k ++ [x]).length = k + 1 ∧ (zs.drop k).length = N - k ∧ k + 1 + (N - k) = N + 1 ∧ (zs.take k).length = k) := ⟨by simpa using hlT, by simp [hlT], hlD, by omega, hlT⟩
    have hcm := HM.out
    have hk0 : (0 : Int) ≤ (k : Int) := by omega
    have hkN : (k : Int) ≤ (N : Int) := by omega
    have hNc : (N : Int) ≤ (c : Int) := by omega
    have hkc : (k : Int) ≤ (c : Int) := by omega
    unfold maxLen at hcm
    clear hlT hlD bd bw
    go_upto_region 6 with fail
    go_region_held3 (fun _ => True) (trivial) ((first | (guard_hyp KO2; refine step_app_ints _ (by rfl) _ _ (by rfl) w.heap.size _ _ (k + 1) (N - k) (N + 1) ([] ++ zs.take k ++ [x]) (zs.drop k) HLT.out.2.1 HLT.out.2.2.1 HLT.out.2.2.2.1 (by rfl) ?_ _ _ (by rfl) ?_ (by omega) ?_ ?_; exact KO2.out.1; exact HD.out _ KO2.out.2; exact KO2.out.2.size; intro g3 c3 w3 hown3 hgrow3; have KO3 : Hid (w3.ownsRow w.heap.size 3 1 (.slice (some ⟨g3, 0, none⟩) (N + 1) c3) (N + 1) (([] ++ zs.take k ++ [x] ++ zs.drop k).map (Value.int .i64)) ∧ Below w.heap.size w w3) := ⟨hown3, KO2.out.2.trans (grown_b hgrow3 (World.ownsRow.lt KO2.out.1 _ rfl).1 KO2.out.2.size)⟩; clear hown3 hgrow3) | (guard_hyp KO1; refine step_app_ints _ (by rfl) _ _ (by rfl) w.heap.size _ _ k 1 (k + 1) ([] ++ zs.take k) [x] HLT.out.1 rfl rfl (by rfl) ?_ _ _ (by rfl) ?_ (by omega) ?_ ?_; (first | exact KO1.out.1 | exact World.ownsRow.alloc KO1.out.1 _); (first | exact ints_one KX1.out | exact ints_one (Row.new _ _ _)); (first | exact KO1.out.2.size | exact (KO1.out.2.alloc KO1.out.2.size _).size); intro g2 c2 w2 hown2 hgrow2; have KO2 : Hid (w2.ownsRow w.heap.size 3 1 (.slice (some ⟨g2, 0, none⟩) (k + 1) c2) (k + 1) (([] ++ zs.take k ++ [x]).map (Value.int .i64)) ∧ Below w.heap.size w w2) := ⟨hown2, (by first | exact KO1.out.2.trans (grown_b hgrow2 (World.ownsRow.lt KO1.out.1 _ rfl).1 KO1.out.2.size) | exact (KO1.out.2.alloc KO1.out.2.size _).trans (grown_b hgrow2 (World.ownsRow.lt KO1.out.1 _ rfl).1 (KO1.out.2.alloc KO1.out.2.size _).size))⟩; clear hown2 hgrow2) | (refine step_app_ints _ (by rfl) _ _ (by rfl) w.heap.size _ _ 0 k k [] (zs.take k) rfl HLT.out.2.2.2.2 (Nat.zero_add _) (by rfl) ?_ _ _ (by rfl) ?_ (by omega) ?_ ?_; (first | exact KB.out.1 | exact KC.out.1 | exact KA.out.1); (first | exact HT.out _ KA.out.2.1 | exact HT.out _ KB.out.2.1 | exact HT.out _ KC.out.2); (first | exact KA.out.2.1.size | exact KB.out.2.1.size | exact KC.out.2.size); intro g1 c1 w1 hown1 hgrow1; have KO1 : Hid (w1.ownsRow w.heap.size 3 1 (.slice (some ⟨g1, 0, none⟩) k c1) k (([] ++ zs.take k).map (Value.int .i64)) ∧ Below w.heap.size w w1) := ⟨hown1, (by first | exact KA.out.2.1.trans (grown_b hgrow1 (by omega) KA.out.2.1.size) | exact KB.out.2.1.trans (grown_b hgrow1 (by omega) KB.out.2.1.size) | exact KC.out.2.trans (grown_b hgrow1 (by omega) KC.out.2.size))⟩; (first | (have KX1 : Hid (Row w1 w.heap.size 3 #[.int .i64 x]) := row_grown KA.out.2.2 hgrow1 (by omega)) | (have KX1 : Hid (Row w1 (w.heap.size + 1) 3 #[.int .i64 x]) := row_grown KB.out.2.2 hgrow1 (by omega)) | skip); clear hown1 hgrow1)))
    all_goals
     go_wp2_with fail
     go_ret
     have e : ([] ++ zs.take k ++ [x] ++ zs.drop k).length = N + 1 := by simp [HN.out]; omega
     refine ⟨some ⟨g3, 0, none⟩, c3, ?_, ?_, KO3.out.2⟩
     ·rw [HP.out, e]; rfl
     ·rw [HP.out, e]; exact put_new KO3.out.1 e
   ·have hck2 : ¬ c - k = 0 := by omega
    have HT : Hid (∀ W, Below w.heap.size w W → IntsAt W (some ⟨g, 0, none⟩) k (zs.take k)) := fun W hW => ints_take (KH.out.below hW) hk
    have HD : Hid (∀ W, Below w.heap.size w W → IntsAt W (some ⟨g, k, none⟩) (N - k) (zs.drop k)) := fun W hW => ints_drop (KH.out.below hW) hk
    have bd := below_drew w
    have KA : Hid (((w.drew.alloc (.cells #[.int .i64 x] 3)).alloc (.cells #[] 3)).ownsRow w.heap.size 3 1 (.slice (some ⟨w.heap.size + 1, 0, none⟩) 0 0) 0 (([] : List Int).map (Value.int .i64)) ∧ Below w.heap.size w ((w.drew.alloc (.cells #[.int .i64 x] 3)).alloc (.cells #[] 3)) ∧ Row ((w.drew.alloc (.cells #[.int .i64 x] 3)).alloc (.cells #[] 3)) w.heap.size 3 #[.int .i64 x]) := by
     refine ⟨?_, (bd.alloc (Nat.le_refl _) _).alloc (by simp) _, (Row.new w.drew _ _).alloc _⟩
     have := World.ownsRow_lit (e := 3) (size := 1) (base := w.heap.size) (w.drew.alloc (.cells #[.int .i64 x] 3)) #[] 0 (by simp) (by unfold maxLen; omega) (by simp)
     simpa using this
    have bw : Below w.heap.size w (w.alloc (.cells #[] 3)).drew := ⟨((Below.refl w.heap.size w).alloc (Nat.le_refl _) (.cells #[] 3)).os, ((Below.refl w.heap.size w).alloc (Nat.le_refl _) (.cells #[] 3)).tape, ((Below.refl w.heap.size w).alloc (Nat.le_refl _) (.cells #[] 3)).output, ((Below.refl w.heap.size w).alloc (Nat.le_refl _) (.cells #[] 3)).size, ((Below.refl w.heap.size w).alloc (Nat.le_refl _) (.cells #[] 3)).block⟩
    have KB : Hid ((((w.alloc (.cells #[] 3)).drew).alloc (.cells #[.int .i64 x] 3)).ownsRow w.heap.size 3 1 (.slice (some ⟨w.heap.size, 0, none⟩) 0 0) 0 (([] : List Int).map (Value.int .i64)) ∧ Below w.heap.size w (((w.alloc (.cells #[] 3)).drew).alloc (.cells #[.int .i64 x] 3)) ∧ Row (((w.alloc (.cells #[] 3)).drew).alloc (.cells #[.int .i64 x] 3)) (w.heap.size + 1) 3 #[.int .i64 x]) := by
     refine ⟨?_, bw.alloc bw.size _, ?_⟩
     ·have := World.ownsRow.drew (World.ownsRow_lit (e := 3) (size := 1) (base := w.heap.size) w #[] 0 (by simp) (by unfold maxLen; omega) (by simp))
      have := World.ownsRow.alloc this (.cells #[.int .i64 x] 3)
      simpa using this
     ·have := Row.new ((w.alloc (.cells #[] 3)).drew) #[.int .i64 x] 3
      simpa using this
    have KC : Hid (((w.alloc (.cells #[] 3)).drew).ownsRow w.heap.size 3 1 (.slice (some ⟨w.heap.size, 0, none⟩) 0 0) 0 (([] : List Int).map (Value.int .i64)) ∧ Below w.heap.size w ((w.alloc (.cells #[] 3)).drew)) := by
     refine ⟨?_, bw⟩
     have := World.ownsRow.drew (World.ownsRow_lit (e := 3) (size := 1) (base := w.heap.size) w #[] 0 (by simp) (by unfold maxLen; omega) (by simp))
     simpa using this
    have hlT : (zs.take k).length = k := by rw [List.length_take, HN.out]; omega
    have hlD : (zs.drop k).length = N - k := by rw [List.length_drop, HN.out]
    have HLT : Hid (([] ++ zs.take k).length = k ∧ ([] ++ zs.take k ++ [x]).length = k + 1 ∧ (zs.drop k).length = N - k ∧ k + 1 + (N - k) = N + 1 ∧ (zs.take k).length = k) := ⟨by simpa using hlT, by simp [hlT], hlD, by omega, hlT⟩
    have hcm := HM.out
    have hk0 : (0 : Int) ≤ (k : Int) := by omega
    have hkN : (k : Int) ≤ (N : Int) := by omega
    have hNc : (N : Int) ≤ (c : Int) := by omega
    have hkc : (k : Int) ≤ (c : Int) := by omega
    unfold maxLen at hcm
    clear hlT hlD bd bw
    go_upto_region 6 with fail
    go_region_held3 (fun _ => True) (trivial) ((first | (guard_hyp KO2; refine step_app_ints _ (by rfl) _ _ (by rfl) w.heap.size _ _ (k + 1) (N - k) (N + 1) ([] ++ zs.take k ++ [x]) (zs.drop k) HLT.out.2.1 HLT.out.2.2.1 HLT.out.2.2.2.1 (by rfl) ?_ _ _ (by rfl) ?_ (by omega) ?_ ?_; exact KO2.out.1; exact HD.out _ KO2.out.2; exact KO2.out.2.size; intro g3 c3 w3 hown3 hgrow3; have KO3 : Hid (w3.ownsRow w.heap.size 3 1 (.slice (some ⟨g3, 0, none⟩) (N + 1) c3) (N + 1) (([] ++ zs.take k ++ [x] ++ zs.drop k).map (Value.int .i64)) ∧ Below w.heap.size w w3) := ⟨hown3, KO2.out.2.trans (grown_b hgrow3 (World.ownsRow.lt KO2.out.1 _ rfl).1 KO2.out.2.size)⟩; clear hown3 hgrow3) | (guard_hyp KO1; refine step_app_ints _ (by rfl) _ _ (by rfl) w.heap.size _ _ k 1 (k + 1) ([] ++ zs.take k) [x] HLT.out.1 rfl rfl (by rfl) ?_ _ _ (by rfl) ?_ (by omega) ?_ ?_; (first | exact KO1.out.1 | exact World.ownsRow.alloc KO1.out.1 _); (first | exact ints_one KX1.out | exact ints_one (Row.new _ _ _)); (first | exact KO1.out.2.size | exact (KO1.out.2.alloc KO1.out.2.size _).size); intro g2 c2 w2 hown2 hgrow2; have KO2 : Hid (w2.ownsRow w.heap.size 3 1 (.slice (some ⟨g2, 0, none⟩) (k + 1) c2) (k + 1) (([] ++ zs.take k ++ [x]).map (Value.int .i64)) ∧ Below w.heap.size w w2) := ⟨hown2, (by first | exact KO1.out.2.trans (grown_b hgrow2 (World.ownsRow.lt KO1.out.1 _ rfl).1 KO1.out.2.size) | exact (KO1.out.2.alloc KO1.out.2.size _).trans (grown_b hgrow2 (World.ownsRow.lt KO1.out.1 _ rfl).1 (KO1.out.2.alloc KO1.out.2.size _).size))⟩; clear hown2 hgrow2) | (refine step_app_ints _ (by rfl) _ _ (by rfl) w.heap.size _ _ 0 k k [] (zs.take k) rfl HLT.out.2.2.2.2 (Nat.zero_add _) (by rfl) ?_ _ _ (by rfl) ?_ (by omega) ?_ ?_; (first | exact KB.out.1 | exact KC.out.1 | exact KA.out.1); (first | exact HT.out _ KA.out.2.1 | exact HT.out _ KB.out.2.1 | exact HT.out _ KC.out.2); (first | exact KA.out.2.1.size | exact KB.out.2.1.size | exact KC.out.2.size); intro g1 c1 w1 hown1 hgrow1; have KO1 : Hid (w1.ownsRow w.heap.size 3 1 (.slice (some ⟨g1, 0, none⟩) k c1) k (([] ++ zs.take k).map (Value.int .i64)) ∧ Below w.heap.size w w1) := ⟨hown1, (by first | exact KA.out.2.1.trans (grown_b hgrow1 (by omega) KA.out.2.1.size) | exact KB.out.2.1.trans (grown_b hgrow1 (by omega) KB.out.2.1.size) | exact KC.out.2.trans (grown_b hgrow1 (by omega) KC.out.2.size))⟩; (first | (have KX1 : Hid (Row w1 w.heap.size 3 #[.int .i64 x]) := row_grown KA.out.2.2 hgrow1 (by omega)) | (have KX1 : Hid (Row w1 (w.heap.size + 1) 3 #[.int .i64 x]) := row_grown KB.out.2.2 hgrow1 (by omega)) | skip); clear hown1 hgrow1)))
    all_goals
     go_wp2_with fail
     go_ret
     have e : ([] ++ zs.take k ++ [x] ++ zs.drop k).length = N + 1 := by simp [HN.out]; omega
     refine ⟨some ⟨g3, 0, none⟩, c3, ?_, ?_, KO3.out.2⟩
     ·rw [HP.out, e]; rfl
     ·rw [HP.out, e]; exact put_new KO3.out.1 e
theorem sPut0_any (x : Int) (w : World) :
  Calls Tryz.prog 83 #[.slice none 0 0, .int .i64 x] w fun e w' => ∃ a' c', e = .returned (.slice a' 1 c') ∧ PutR w w' none 0 [] a' c' 1 [x] ∧ Below w.heap.size w w' := by
 have bw : Below w.heap.size w (w.alloc (.cells #[] 3)).drew := ⟨((Below.refl w.heap.size w).alloc (Nat.le_refl _) (.cells #[] 3)).os, ((Below.refl w.heap.size w).alloc (Nat.le_refl _) (.cells #[] 3)).tape, ((Below.refl w.heap.size w).alloc (Nat.le_refl _) (.cells #[] 3)).output, ((Below.refl w.heap.size w).alloc (Nat.le_refl _) (.cells #[] 3)).size, ((Below.refl w.heap.size w).alloc (Nat.le_refl _) (.cells #[] 3)).block⟩
 have KB : Hid ((((w.alloc (.cells #[] 3)).drew).alloc (.cells #[.int .i64 x] 3)).ownsRow w.heap.size 3 1 (.slice (some ⟨w.heap.size, 0, none⟩) 0 0) 0 (([] : List Int).map (Value.int .i64)) ∧ Below w.heap.size w (((w.alloc (.cells #[] 3)).drew).alloc (.cells #[.int .i64 x] 3)) ∧ Row (((w.alloc (.cells #[] 3)).drew).alloc (.cells #[.int .i64 x] 3)) (w.heap.size + 1) 3 #[.int .i64 x]) := by
  refine ⟨?_, bw.alloc bw.size _, ?_⟩
  ·have := World.ownsRow.drew (World.ownsRow_lit (e := 3) (size := 1) (base := w.heap.size) w #[] 0 (by simp) (by unfold maxLen; omega) (by simp))
   have := World.ownsRow.alloc this (.cells #[.int .i64 x] 3)
   simpa using this
  ·have := Row.new ((w.alloc (.cells #[] 3)).drew) #[.int .i64 x] 3
   simpa using this
 have KA : Hid (((w.drew.alloc (.cells #[.int .i64 x] 3)).alloc (.cells #[] 3)).ownsRow w.heap.size 3 1 (.slice (some ⟨w.heap.size + 1, 0, none⟩) 0 0) 0 (([] : List Int).map (Value.int .i64)) ∧ Below w.heap.size w ((w.drew.alloc (.cells #[.int .i64 x] 3)).alloc (.cells #[] 3)) ∧ Row ((w.drew.alloc (.cells #[.int .i64 x] 3)).alloc (.cells #[] 3)) w.heap.size 3 #[.int .i64 x]) := by
  refine ⟨?_, ((below_drew w).alloc (Nat.le_refl _) _).alloc (by simp) _, (Row.new w.drew _ _).alloc _⟩
  have := World.ownsRow_lit (e := 3) (size := 1) (base := w.heap.size) (w.drew.alloc (.cells #[.int .i64 x] 3)) #[] 0 (by simp) (by unfold maxLen; omega) (by simp)
  simpa using this
 clear bw
 go_enter Tryz.func83, Tryz.ntmps83
 go_wp2
 go_loopw [5] (fun vi wr => vi = .int .i64 0 ∧ wr = w) (fun _ _ => 0)
 case atStart => exact ⟨rfl, rfl⟩
 case round =>
  obtain ⟨rfl, hw⟩ := hrel
  obtain rfl := hw.symm
  go_upto_region 6 with fail
  go_region_held3 (fun _ => True) (trivial) ((refine step_app_ints _ (by rfl) _ _ (by rfl) w.heap.size _ _ 0 1 1 [] [x] rfl rfl rfl (by rfl) ?_ _ _ (by rfl) ?_ (by omega) ?_ ?_; (first | exact KB.out.1 | exact KA.out.1); (first | exact ints_one KB.out.2.2 | exact ints_one KA.out.2.2); (first | exact KB.out.2.1.size | exact KA.out.2.1.size); intro g2 c2 w2 hown2 hgrow2; have KO2 : Hid (w2.ownsRow w.heap.size 3 1 (.slice (some ⟨g2, 0, none⟩) 1 c2) 1 (([x] : List Int).map (Value.int .i64)) ∧ Below w.heap.size w w2) := ⟨hown2, (by first | exact KB.out.2.1.trans (grown_b hgrow2 (by omega) KB.out.2.1.size) | exact KA.out.2.1.trans (grown_b hgrow2 (by omega) KA.out.2.1.size))⟩; have hc2 : 1 ≤ c2 := own_le hown2; clear hown2 hgrow2))
  all_goals
   go_wp2_with fail
   go_ret
   exact ⟨some ⟨g2, 0, none⟩, c2, rfl, put_new KO2.out.1 rfl, KO2.out.2⟩
theorem sPut_any (B : Nat) (a : Option Addr) (c : Nat) (zs : List Int) (x : Int) (F : Nat → Prop) (w : World) (h : Ow w B (inD zs) (.slice a zs.length c) F) (hn : zs.length ≤ 1048576) (hs : zs.Pairwise (· ≤ ·)) (hx : x ≠ -1) :
  Calls Tryz.prog 83 #[.slice a zs.length c, .int .i64 x] w fun e w' => ∃ a' c', e = .returned (.slice a' (putI zs x).length c') ∧ PutR w w' a c zs a' c' (putI zs x).length (putI zs x) ∧ Below w.heap.size w w' := by
 obtain ⟨a1, c1, e1, ho, _⟩ := ints_ow h
 simp only [Value.slice.injEq, true_and] at e1
 obtain ⟨rfl, rfl⟩ := e1
 rcases ho.2 with ⟨e, h0⟩ | ⟨g, cap, cur, e, _, _, hnc, hcm, _, _⟩
 ·have hz : zs = [] := List.length_eq_zero_iff.1 h0
  subst hz
  simp only [Value.slice.injEq] at e
  obtain ⟨rfl, _, rfl⟩ := e
  have ep : putI [] x = [x] := by unfold putI; rw [if_neg (by simp [hx])]; rfl
  rw [ep]
  exact sPut0_any x w
 ·simp only [Value.slice.injEq] at e
  obtain ⟨rfl, _, rfl⟩ := e
  exact sPutS_any g c zs x zs.length w (rd_ints.1 h.rd) rfl hnc hcm hn hs hx
end Go.Proofs.YtaenoiffamgcfaaGreatDoor
