import Derived.Test.YtihklfkhjpnjkaaGreatDoorJ31
import Derived.Test.YtihklfkhjpnjkaaGreatDoorJ32
import Derived.Test.YtihklfkhjpnjkaaGreatDoorJ25
set_option maxHeartbeats 8000000
set_option maxRecDepth 2000
open Go.ChangeShapes Go.WideShapes Go.ChangeAt Go.RowKit
namespace Go.Proofs.YtihklfkhjpnjkaaGreatDoor
theorem rdS_small {s : ByteArray} {p : Pc} {b : Bool} (h : RdS s p b) : p.m ≤ 1000 := by
 rcases h with ⟨_, h1, _⟩ | ⟨_, rfl, _⟩
 ·have := (okP_parts (show okP p.r p.k p.n p.i p.b p.m p.S = true from h1)).2.2.2.2.1
  omega
 ·simp [pz]
theorem rdS_as {s : ByteArray} {p p' : Pc} {b b' : Bool} (h : RdS s p b) (h' : RdS s p' b') {w : World} {B : Nat} {a : Option Addr} {cap : Nat} (ho : OwnT w B a p'.m cap p'.S) :
  pcV p'.r p'.k p'.n p'.i p'.b (.slice a p'.m cap) = pcV p.r p.k p.n p.i p.b (.slice a p.m cap) ∧ b = b' ∧ OwnT w B a p.m cap p.S := by
 obtain ⟨hb, e1, e2, e3, e4, e5, e6, e7⟩ := RdS.one h' h
 refine ⟨by rw [e1, e2, e3, e4, e5, e6], hb.symm, ?_⟩
 rw [e6] at ho
 exact ho.congr e7
theorem walk_FnExactReadPiece (s : ByteArray) (w : World) (_w0 : s.size ≤ maxLen) (hN : NumW w) (hE : ErrT w) (hT : TabOk w) :
  Calls Tryz.prog 5 #[.string s] w fun e w' => e = .returned (.bool true) ∧ Below w.heap.size w w' := by
 clear _w0
 by_cases h1 : 1048576 < s.size
 ·have h1' : (1048576 : Int) < (s.size : Int) := by omega
  go_enter Tryz.func5, Tryz.ntmps5
  go_wp2
  go_ret
  exact ⟨rfl, Below.refl _ _⟩
 have h1' : ¬ (1048576 : Int) < (s.size : Int) := by omega
 have hs : s.size ≤ 1048576 := by omega
 have KN : Hid (NumW w) := hN
 have KE : Hid (ErrT w) := hE
 have KT : Hid (TabOk w) := hT
 have KS : Hid _ := sReadPiece_any s w hs
 have KI : Hid (∀ W, Below w.heap.size w W → Calls Tryz.prog 14 #[.string s] W fun e w' => (∃ (p : Pc) (b : Bool) (a : Option Addr) (cap : Nat), e = .returned (.tuple #[pcV p.r p.k p.n p.i p.b (.slice a p.m cap), .bool b]) ∧ OwnT w' W.heap.size a p.m cap p.S ∧ RdS s p b) ∧ Below W.heap.size W w') := fun W hW => readPiece_any s W hs (KN.out.below hW) (KE.out.below hW) (KT.out.below hW)
 clear h1 hs hN hE hT
 go_enter Tryz.func5, Tryz.ntmps5
 go_wp2_with fail
 refine Calls.mono KS.out ?_
 rintro e v3 ⟨⟨p, c, aS, cS, rfl, OS, hRd⟩, b3⟩
 have HRd : Hid (RdS s p c) := hRd
 have hpm : p.m ≤ 1000 := rdS_small hRd
 obtain ⟨S3, HS3⟩ : ∃ x, Hid (x = v3.heap.size) := ⟨_, rfl⟩
 obtain ⟨v3', HV3⟩ : ∃ x, Hid (x = v3.alloc (.cells (pcC p.r p.k p.n p.i p.b (.slice aS p.m cS)) 33)) := ⟨_, rfl⟩
 have b33 : Below v3.heap.size v3 v3' := by rw [HV3.out]; exact (Below.refl _ _).alloc (Nat.le_refl _) _
 have RS : Hid (Row v3' S3 33 (pcC p.r p.k p.n p.i p.b (.slice aS p.m cS))) := by show Row _ _ _ _; rw [HV3.out, HS3.out]; exact Row.new v3 _ _
 have TS : Hid (TxtAt v3' aS p.m p.S) := (OwnT.at OS).below b33
 have B3 : Hid (Below w.heap.size w v3') := below2 b3 b33
 have KI3 : Hid _ := KI.out v3' B3.out
 clear hRd b3 KS OS b33
 go_wp2_with fail
 rw [← HV3.out, ← HS3.out]
 refine Calls.mono KI3.out ?_
 rintro e v5 ⟨⟨p', c', aI, cI, rfl, OI0, hRd'⟩, b5⟩
 obtain ⟨ep, rfl, OI⟩ := rdS_as HRd.out hRd' OI0
 rw [ep]
 clear ep OI0 hRd'
 obtain ⟨S5, HS5⟩ : ∃ x, Hid (x = v5.heap.size) := ⟨_, rfl⟩
 obtain ⟨v5', HV5⟩ : ∃ x, Hid (x = v5.alloc (.cells (pcC p.r p.k p.n p.i p.b (.slice aI p.m cI)) 33)) := ⟨_, rfl⟩
 have b55 : Below v5.heap.size v5 v5' := by rw [HV5.out]; exact (Below.refl _ _).alloc (Nat.le_refl _) _
 have RI : Hid (Row v5' S5 33 (pcC p.r p.k p.n p.i p.b (.slice aI p.m cI))) := by show Row _ _ _ _; rw [HV5.out, HS5.out]; exact Row.new v5 _ _
 have RT : Hid (RowT v5' v3'.heap.size v5.heap.size aI p.m cI p.S) := (OwnT.row OI).below b55
 have D5 : Hid (Below v3'.heap.size v3' v5') := below2 b5 b55
 have B5 : Hid (Below w.heap.size w v5') := below2 B3.out D5.out
 have hs5 : Hid (v3'.heap.size ≤ v5.heap.size ∧ v5.heap.size ≤ v5'.heap.size ∧ S5 = v5.heap.size) := ⟨b5.size, b55.size, HS5.out⟩
 clear b5 KI3 OI b55
 have fr : (p.r.toList != p.r.toList) = false := by simp
 have fc : (c != c) = false := by simp
 have KEq : Hid (∀ W a b, TxtAt W a p.m p.S → TxtAt W b p.m p.S → ∀ ca cb, Calls Tryz.prog 24 #[pcV p.r p.k p.n p.i p.b (.slice a p.m ca), pcV p.r p.k p.n p.i p.b (.slice b p.m cb)] W fun e w' => e = .returned (.bool true) ∧ Below W.heap.size W w') := fun W a b ha hb ca cb => eqPc_same p.r p.k p.n p.i p.b a b p.m ca cb p.S W ha hb (by omega)
 have RS5 : Hid (Row v5' S3 33 (pcC p.r p.k p.n p.i p.b (.slice aS p.m cS))) := RS.out.below D5.out RS.out.lt
 have q0 := RS5.out.cell 0
 have q1 := RS5.out.cell 1
 have q2 := RS5.out.cell 2
 have q3 := RS5.out.cell 3
 have q4 := RS5.out.cell 4
 have q5 := RS5.out.cell 5
 simp at q0 q1 q2 q3 q4 q5
 go_wp2_with (rw [← HV5.out, ← HS5.out]; refine wpList_load_row (by rfl) 33 _ (by rfl) S5 (by rfl) 33 (pcC p.r p.k p.n p.i p.b (.slice aI p.m cI)) (0, 0) _ ?_ Tryz.underlying33 (by rfl) Tryz.infoPc ?_; exact RI.out)
 refine Calls.mono (KEq.out _ aI aS (RowT.at RT.out) (TS.out.below D5.out) cI cS) ?_
 rintro e v10 ⟨rfl, b10⟩
 have G10 : Hid (Below v5'.heap.size v5' v10) := b10
 have RI10 : Hid (Row v10 S5 33 (pcC p.r p.k p.n p.i p.b (.slice aI p.m cI))) := RI.out.below b10 RI.out.lt
 have RT10 : Hid (RowT v10 v3'.heap.size v5.heap.size aI p.m cI p.S) := RT.out.below b10
 obtain ⟨tm, HTM⟩ : ∃ x, Hid (1 + p.m = x) := ⟨_, rfl⟩
 have htm : ¬ ((tm : Int) < 0) := by omega
 have hqq : ((tm : Int) != (tm : Int)) = false := by simp
 have KMp : Hid _ := markPc_any p.r p.k p.n p.i p.b v3'.heap.size v5.heap.size aI p.m cI p.S tm v10 RT10.out hpm HTM.out
 have KHp : Hid (∀ W, TxtAt W aI p.m (fun i => mtxt (1 + i)) → Calls Tryz.prog 26 #[pcV p.r p.k p.n p.i p.b (.slice aI p.m cI), .int .i64 1] W fun e w' => e = .returned (.int .i64 (tm : Int)) ∧ Below W.heap.size W w') := fun W hW => heldPc_any p.r p.k p.n p.i p.b aI p.m cI tm W hW hpm HTM.out
 clear b10 q0 q1 q2 q3 q4 q5
 have y0 := RI10.out.cell 0
 have y1 := RI10.out.cell 1
 have y2 := RI10.out.cell 2
 have y3 := RI10.out.cell 3
 have y4 := RI10.out.cell 4
 have y5 := RI10.out.cell 5
 simp at y0 y1 y2 y3 y4 y5
 go_wp2_with fail
 refine Calls.mono KMp.out ?_
 rintro e v11 ⟨rfl, R11, T11⟩
 have h4w : w.heap.size ≤ v3'.heap.size := B3.out.size
 have h410 : v3'.heap.size ≤ v10.heap.size := by have h1 := G10.out.size; have h5 := hs5.out; omega
 have RI11 : Hid (Row v11 S5 33 (pcC p.r p.k p.n p.i p.b (.slice aI p.m cI))) := (T11.block S5 RI10.out.lt (.inr (by have := hs5.out; omega))).trans RI10.out
 have TM11 : Hid (TxtAt v11 aI p.m (fun i => mtxt (1 + i))) := R11.at
 have B11 : Hid (Below w.heap.size w v11) := (below2 B5.out G10.out).trans (T11.below h4w (by omega))
 have F11 : Hid (Below v3'.heap.size v3' v11) := (below2 D5.out G10.out).trans (T11.below (Nat.le_refl _) (by omega))
 clear R11 T11 KMp y0 y1 y2 y3 y4 y5
 have y0 := RI11.out.cell 0
 have y1 := RI11.out.cell 1
 have y2 := RI11.out.cell 2
 have y3 := RI11.out.cell 3
 have y4 := RI11.out.cell 4
 have y5 := RI11.out.cell 5
 simp at y0 y1 y2 y3 y4 y5
 go_wp2_with fail
 refine Calls.mono (KHp.out _ TM11.out) ?_
 rintro e v12 ⟨rfl, b12⟩
 have G12 : Hid (Below v11.heap.size v11 v12) := b12
 have B12 : Hid (Below w.heap.size w v12) := below2 B11.out b12
 have KJ : Hid _ := KI.out v12 B12.out
 clear b12 y0 y1 y2 y3 y4 y5
 go_wp2_with fail
 refine Calls.mono KJ.out ?_
 rintro e v14 ⟨⟨p'', c'', aJ, cJ, rfl, OJ0, hRd''⟩, b14⟩
 obtain ⟨ep, rfl, OJ⟩ := rdS_as HRd.out hRd'' OJ0
 rw [ep]
 clear ep OJ0 hRd''
 obtain ⟨S14, HS14⟩ : ∃ x, Hid (x = v14.heap.size) := ⟨_, rfl⟩
 obtain ⟨v14', HV14⟩ : ∃ x, Hid (x = v14.alloc (.cells (pcC p.r p.k p.n p.i p.b (.slice aJ p.m cJ)) 33)) := ⟨_, rfl⟩
 have b144 : Below v14.heap.size v14 v14' := by rw [HV14.out]; exact (Below.refl _ _).alloc (Nat.le_refl _) _
 have RJ : Hid (Row v14' S14 33 (pcC p.r p.k p.n p.i p.b (.slice aJ p.m cJ))) := by show Row _ _ _ _; rw [HV14.out, HS14.out]; exact Row.new v14 _ _
 have TJ : Hid (TxtAt v14' aJ p.m p.S) := (OwnT.at OJ).below b144
 have G14 : Hid (Below v11.heap.size v11 v14') := below2 G12.out (below2 b14 b144)
 have F14 : Hid (Below v3'.heap.size v3' v14') := below2 F11.out G14.out
 have B14 : Hid (Below w.heap.size w v14') := below2 B12.out (below2 b14 b144)
 have RS14 : Hid (Row v14' S3 33 (pcC p.r p.k p.n p.i p.b (.slice aS p.m cS))) := RS.out.below F14.out RS.out.lt
 clear b14 KJ OJ b144
 have q0 := RS14.out.cell 0
 have q1 := RS14.out.cell 1
 have q2 := RS14.out.cell 2
 have q3 := RS14.out.cell 3
 have q4 := RS14.out.cell 4
 have q5 := RS14.out.cell 5
 simp at q0 q1 q2 q3 q4 q5
 go_wp2_with (rw [← HV14.out, ← HS14.out]; refine wpList_load_row (by rfl) 33 _ (by rfl) S14 (by rfl) 33 (pcC p.r p.k p.n p.i p.b (.slice aJ p.m cJ)) (0, 0) _ ?_ Tryz.underlying33 (by rfl) Tryz.infoPc ?_; exact RJ.out)
 refine Calls.mono (KEq.out _ aJ aS TJ.out (TS.out.below F14.out) cJ cS) ?_
 rintro e v15 ⟨rfl, b15⟩
 have G15 : Hid (Below v11.heap.size v11 v15) := below2 G14.out b15
 have B15 : Hid (Below w.heap.size w v15) := below2 B14.out b15
 have RI15 : Hid (Row v15 S5 33 (pcC p.r p.k p.n p.i p.b (.slice aI p.m cI))) := RI11.out.below G15.out RI11.out.lt
 have TM15 : Hid (TxtAt v15 aI p.m (fun i => mtxt (1 + i))) := TM11.out.below G15.out
 clear b15 q0 q1 q2 q3 q4 q5
 have y0 := RI15.out.cell 0
 have y1 := RI15.out.cell 1
 have y2 := RI15.out.cell 2
 have y3 := RI15.out.cell 3
 have y4 := RI15.out.cell 4
 have y5 := RI15.out.cell 5
 simp at y0 y1 y2 y3 y4 y5
 go_wp2_with fail
 refine Calls.mono (KHp.out _ TM15.out) ?_
 rintro e v16 ⟨rfl, b16⟩
 have B16 : Hid (Below w.heap.size w v16) := below2 B15.out b16
 clear b16 y0 y1 y2 y3 y4 y5
 go_wp2
 go_ret
 exact ⟨rfl, B16.out⟩
end Go.Proofs.YtihklfkhjpnjkaaGreatDoor
