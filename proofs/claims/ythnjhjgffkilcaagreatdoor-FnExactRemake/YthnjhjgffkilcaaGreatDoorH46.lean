/- The walk of the law: for every input: the function Remake of the program answers as its model does, whatever its root, its pieces and its number are, leaves the pieces as they were, and its answer owns its memory. It holds where the library's variable errors.errorType stands as the program's text lays it. -/
import Derived.Test.YthnjhjgffkilcaaGreatDoorH45
import Derived.Test.YthnjhjgffkilcaaGreatDoorH41
import Derived.Test.YthnjhjgffkilcaaGreatDoorH37
import Derived.Test.YthnjhjgffkilcaaGreatDoorH42
namespace Go.Proofs.YthnjhjgffkilcaaGreatDoor
set_option maxRecDepth 2000
open Go.ChangeShapes Go.WideShapes Go.ChangeAt Go.RowKit

def pz : Pc := ⟨ByteArray.empty, 0, 0, 0, ByteArray.empty, 0, fun _ => ByteArray.empty⟩
/-- Which piece, and which code, both answer. -/
def IsRm (root : ByteArray) (n : Nat) (P : Nat → Pc) (idx : Int) (p : Pc) (c : Int) : Prop :=
  (enB root n P = false ∧ p = pz ∧ c = 1) ∨ (enB root n P = true ∧ ∃ L : List Nat, L.Perm (gsel root P n) ∧ (∀ x y, x < y → y < L.length → (P (L.getD x 0)).i ≤ (P (L.getD y 0)).i) ∧
    ((¬ (Cm root (enK root n P).toNat (qL P L) ∧ 0 ≤ idx ∧ idx < (qL P L 0).n) ∧ p = pz ∧ c = 2) ∨
     (Cm root (enK root n P).toNat (qL P L) ∧ 0 ≤ idx ∧ idx < (qL P L 0).n ∧ p = ⟨root, (qL P L 0).k, (qL P L 0).n, idx, alQ (enK root n P).toNat (qL P L) idx.toNat, pfR (qL P L 0).n.toNat (lvs (qL P L 0).k (qL P L 0).n.toNat (alQ (enK root n P).toNat (qL P L))) idx, pfF (qL P L 0).n.toNat (lvs (qL P L 0).k (qL P L 0).n.toNat (alQ (enK root n P).toNat (qL P L))) idx⟩ ∧ c = 0)))
theorem isRm_one {root : ByteArray} {n : Nat} {P : Nat → Pc} {idx : Int} {p p' : Pc} {c c' : Int} (h : IsRm root n P idx p c) (h' : IsRm root n P idx p' c') : p = p' ∧ c = c' := by
  rcases h with ⟨h1, h2, h3⟩ | ⟨h1, L, hp, hs, hr⟩ <;> rcases h' with ⟨k1, k2, k3⟩ | ⟨k1, L', kp, ks, kr⟩
  · exact ⟨by rw [h2, k2], by rw [h3, k3]⟩
  · rw [h1] at k1; cases k1
  · rw [h1] at k1; cases k1
  · obtain rfl := asc_one (gsel_one root P n) hp kp hs ks
    rcases hr with ⟨a1, a2, a3⟩ | ⟨a1, a2, a3, a4, a5⟩ <;> rcases kr with ⟨b1, b2, b3⟩ | ⟨b1, b2, b3, b4, b5⟩
    · exact ⟨by rw [a2, b2], by rw [a3, b3]⟩
    · exact absurd ⟨b1, b2, b3⟩ a1
    · exact absurd ⟨a1, a2, a3⟩ b1
    · exact ⟨by rw [a4, b4], by rw [a5, b5]⟩
/-- What both hand back. -/
def RmA (w w' : World) (root : ByteArray) (n : Nat) (P : Nat → Pc) (idx : Int) (e : Ending) : Prop := ∃ (p : Pc) (c : Int) (a : Option Addr) (cap : Nat), e = .returned (.tuple #[pcV p.r p.k p.n p.i p.b (.slice a p.m cap), .int .i64 c]) ∧ OwnT w' w.heap.size a p.m cap p.S ∧ p.m ≤ 1000 ∧ IsRm root n P idx p c
theorem rmA_of {w w' : World} {root : ByteArray} {n : Nat} {P : Nat → Pc} {idx : Int} {e : Ending} (h : (enB root n P = false ∧ e = .returned (.tuple #[.agg pcZ, .int .i64 1])) ∨ (enB root n P = true ∧ ∃ L : List Nat, L.Perm (gsel root P n) ∧ (∀ x y, x < y → y < L.length → (P (L.getD x 0)).i ≤ (P (L.getD y 0)).i) ∧ RmE w w' root (enK root n P).toNat (qL P L) idx e)) : RmA w w' root n P idx e := by
  rcases h with ⟨h1, h2⟩ | ⟨h1, L, hp, hs, hr⟩
  · exact ⟨pz, 1, none, 0, h2, OwnT.nil _ _ _, by simp [pz], .inl ⟨h1, rfl, rfl⟩⟩
  · rcases hr with ⟨a1, a2⟩ | ⟨a1, a2, a3, v, a4, ⟨a, cap, rfl, ho⟩⟩
    · exact ⟨pz, 2, none, 0, a2, OwnT.nil _ _ _, by simp [pz], .inr ⟨h1, L, hp, hs, .inl ⟨a1, rfl, rfl⟩⟩⟩
    · exact ⟨⟨root, (qL P L 0).k, (qL P L 0).n, idx, alQ (enK root n P).toNat (qL P L) idx.toNat, _, _⟩, 0, a, cap, a4, ho, Nat.le_trans (pfR_le _ _ _) (by omega), .inr ⟨h1, L, hp, hs, .inr ⟨a1, a2, a3, rfl, rfl⟩⟩⟩
set_option maxHeartbeats 8000000 in
theorem walk_FnExactRemake (a0 : ByteArray) (a1 : Option Addr) (len1 cap1 : Nat) (P1 : Nat → Pc) (a2 : Int) (w : World) (_w0 : a0.size ≤ maxLen) (w1 : PiAt w a1 len1 P1 ∧ len1 ≤ maxLen ∧ ∀ i, i < len1 → PcB (P1 i)) (_w2 : (Lit.int .i64 a2).wf = true) (hE : ErrT w) :
    Calls Tryz.prog 8 #[.string a0, .slice a1 len1 cap1, .int .i64 a2] w fun e w' => e = .returned (.bool true) ∧ Below w.heap.size w w' := by
  clear _w0 _w2
  by_cases h1 : 1048576 < a0.size
  · have h1' : (1048576 : Int) < (a0.size : Int) := by omega
    go_enter Tryz.func8, Tryz.ntmps8
    go_wp2
    go_ret
    exact ⟨rfl, Below.refl _ _⟩
  have h1' : ¬ (1048576 : Int) < (a0.size : Int) := by omega
  obtain ⟨hP, hn, hB⟩ := w1
  have KZ : Hid _ := szPs_any a1 len1 cap1 P1 1048576 w hP (by omega) hn hB
  have KP : Hid (PiAt w a1 len1 P1) := hP
  by_cases hw : wtLp len1 P1 ≤ 1048576
  case neg =>
    rw [szN_no hw] at KZ
    clear hP hB h1 hw
    go_enter Tryz.func8, Tryz.ntmps8
    go_wp2_with fail
    refine Calls.mono KZ.out ?_
    rintro e v1 ⟨rfl, b1⟩
    go_wp2
    go_ret
    exact ⟨rfl, b1⟩
  obtain ⟨lf, HLF⟩ : ∃ x, Hid (1048576 - wtLp len1 P1 = x) := ⟨_, rfl⟩
  rw [szN_yes hw, HLF.out] at KZ
  have hlf : ¬ ((lf : Int) < 0) := by omega
  have hnl : len1 ≤ 1048576 := by unfold wtLp at hw; omega
  have HM : Hid (∀ i, i < len1 → (P1 i).m ≤ 1048576) := fun i hi => by
    have h2 := tot_le (fun i => wtP (P1 i)) hi
    have h3 : (P1 i).m ≤ wtP (P1 i) := by unfold wtP; omega
    unfold wtLp at hw
    have h4 : tot (fun i => wtP (P1 i)) i + wtP (P1 i) ≤ tot (fun i => wtP (P1 i)) len1 := h2
    omega
  have HOf : Hid (ofs 1 P1 len1 ≤ 20000000) := by
    have h2 := ofs_wide P1 len1
    unfold wtLp at hw
    show _ ≤ _
    omega
  have HL : Hid (∀ i, i < len1 → ∀ j, j < (P1 i).m → ((P1 i).S j).size ≤ maxLen) := fun i hi j hj => (hB i hi).tx j hj
  have KE : Hid (ErrT w) := hE
  obtain ⟨tk, HTK⟩ : ∃ x, Hid (ofs 1 P1 len1 = x) := ⟨_, rfl⟩
  have htk : ¬ ((tk : Int) < 0) := by omega
  clear hP hB h1 hw hE hn
  go_enter Tryz.func8, Tryz.ntmps8
  go_wp2_with fail
  refine Calls.mono KZ.out ?_
  rintro e v1 ⟨rfl, b1⟩
  have P1v : Hid (PiAt v1 a1 len1 P1) := KP.out.below b1
  have B1 : Hid (Below w.heap.size w v1) := b1
  clear b1 KZ
  go_wp2_with fail
  refine Calls.mono (toPs_any a1 len1 cap1 P1 _ P1v.out hnl HM.out) ?_
  rintro e v2 ⟨G2, A2, C2, rfl, O2, b2⟩
  obtain ⟨A2', C2', hA2⟩ := PiAt.a O2.at
  have KS : Hid _ := sRemake_any a0 (some ⟨G2, 0, none⟩) len1 len1 A2' C2' P1 a2 v2 (fun W hW => chosen_any a0 (some ⟨G2, 0, none⟩) len1 len1 A2' C2' P1 W (hA2.below hW) hnl HM.out HL.out)
  have B2 : Hid (Below w.heap.size w v2) := below2 B1.out b2
  clear b2 O2 hA2
  go_wp2_with fail
  refine Calls.mono KS.out ?_
  rintro e v3 ⟨b3, hS⟩
  obtain ⟨p, c, aS, cS, rfl, OS, hpm, hRm⟩ := rmA_of hS
  have HRm : Hid (IsRm a0 len1 P1 a2 p c) := hRm
  obtain ⟨S3, HS3⟩ : ∃ x, Hid (x = v3.heap.size) := ⟨_, rfl⟩
  obtain ⟨v3', HV3⟩ : ∃ x, Hid (x = v3.alloc (.cells (pcC p.r p.k p.n p.i p.b (.slice aS p.m cS)) 33)) := ⟨_, rfl⟩
  have b33 : Below v3.heap.size v3 v3' := by rw [HV3.out]; exact (Below.refl _ _).alloc (Nat.le_refl _) _
  have RS : Hid (Row v3' S3 33 (pcC p.r p.k p.n p.i p.b (.slice aS p.m cS))) := by show Row _ _ _ _; rw [HV3.out, HS3.out]; exact Row.new v3 _ _
  have TS : Hid (TxtAt v3' aS p.m p.S) := (OwnT.at OS).below b33
  have B3 : Hid (Below w.heap.size w v3') := below2 (below2 B2.out b3) b33
  have P3 : Hid (PiAt v3' a1 len1 P1) := KP.out.below B3.out
  clear hS hRm b3 KS OS b33
  go_wp2_with fail
  rw [← HV3.out, ← HS3.out]
  refine Calls.mono (toPs_any a1 len1 cap1 P1 _ P3.out hnl HM.out) ?_
  rintro e v4 ⟨G4, A4, C4, rfl, O4, b4⟩
  obtain ⟨A4', C4', hA4⟩ := PiAt.a O4.at
  have B4 : Hid (Below w.heap.size w v4) := below2 B3.out b4
  have D4 : Hid (Below v3'.heap.size v3' v4) := b4
  have OX : Hid (OwnP v4 v3'.heap.size (some ⟨G4, 0, none⟩) len1 len1 A4 C4 P1) := O4
  have KI : Hid _ := remake_any a0 (some ⟨G4, 0, none⟩) len1 len1 A4' C4' P1 a2 v4 hA4 (KE.out.below B4.out) hnl HM.out HL.out (sort_ok P1 A4' C4')
  clear b4 O4 hA4
  go_wp2_with fail
  refine Calls.mono KI.out ?_
  rintro e v5 ⟨b5, hI⟩
  obtain ⟨p', c', aI, cI, rfl, OI, _, hRm'⟩ := rmA_of hI
  obtain ⟨rfl, rfl⟩ := isRm_one HRm.out hRm'
  obtain ⟨S5, HS5⟩ : ∃ x, Hid (x = v5.heap.size) := ⟨_, rfl⟩
  obtain ⟨v5', HV5⟩ : ∃ x, Hid (x = v5.alloc (.cells (pcC p.r p.k p.n p.i p.b (.slice aI p.m cI)) 33)) := ⟨_, rfl⟩
  have b55 : Below v5.heap.size v5 v5' := by rw [HV5.out]; exact (Below.refl _ _).alloc (Nat.le_refl _) _
  have b45 : Below v4.heap.size v4 v5' := below2 b5 b55
  have RI : Hid (Row v5' S5 33 (pcC p.r p.k p.n p.i p.b (.slice aI p.m cI))) := by show Row _ _ _ _; rw [HV5.out, HS5.out]; exact Row.new v5 _ _
  have RT : Hid (RowT v5' v4.heap.size v5.heap.size aI p.m cI p.S) := by
    have h2 := OwnT.row OI
    exact h2.below b55
  have D5 : Hid (Below v3'.heap.size v3' v5') := below2 D4.out b45
  have B5 : Hid (Below w.heap.size w v5') := below2 B4.out b45
  have OX5 : Hid (OwnP v5' v3'.heap.size (some ⟨G4, 0, none⟩) len1 len1 A4 C4 P1) := OX.out.below b45
  have D45 : Hid (Below v4.heap.size v4 v5') := b45
  have hs5 : Hid (v4.heap.size ≤ v5.heap.size ∧ v5.heap.size ≤ v5'.heap.size ∧ S5 = v5.heap.size) := ⟨b5.size, b55.size, HS5.out⟩
  have LO : Hid (OwnP v4 v3'.heap.size (some ⟨G4, 0, none⟩) len1 len1 A4 C4 P1) := OX.out
  clear hI b5 KI OI hRm' b55 b45 OX
  have fr : (p.r.toList != p.r.toList) = false := by simp
  have fc : (c != c) = false := by simp
  have KEq : Hid (∀ W a b, TxtAt W a p.m p.S → TxtAt W b p.m p.S → ∀ ca cb, Calls Tryz.prog 40 #[pcV p.r p.k p.n p.i p.b (.slice a p.m ca), pcV p.r p.k p.n p.i p.b (.slice b p.m cb)] W fun e w' => e = .returned (.bool true) ∧ Below W.heap.size W w') := fun W a b ha hb ca cb => eqPc_same p.r p.k p.n p.i p.b a b p.m ca cb p.S W ha hb (by omega)
  have RS5 : Hid (Row v5' S3 33 (pcC p.r p.k p.n p.i p.b (.slice aS p.m cS))) := RS.out.below D5.out RS.out.lt
  have q0 := RS5.out.cell 0
  have q1 := RS5.out.cell 1
  have q2 := RS5.out.cell 2
  have q3 := RS5.out.cell 3
  have q4 := RS5.out.cell 4
  have q5 := RS5.out.cell 5
  simp at q0 q1 q2 q3 q4 q5
  go_wp2_with (rw [← HV5.out, ← HS5.out]; refine wpList_load_row (by rfl) 33 _ (by rfl) S5 (by rfl) 33 (pcC p.r p.k p.n p.i p.b (.slice aI p.m cI)) (0, 0) _ ?_ Tryz.underlying33 (by rfl) Tryz.infoPc ?_; exact RI.out)
  refine Calls.mono (KEq.out _ aI aS (RowT.at RT.out) (TS.out.below D5.out) cI cS) ?_
  rintro e v6 ⟨rfl, b6⟩
  have D6 : Hid (Below v5'.heap.size v5' v6) := b6
  have B6 : Hid (Below w.heap.size w v6) := below2 B5.out b6
  have PA6 : Hid (PiAt v6 a1 len1 P1) := KP.out.below B6.out
  clear b6 q0 q1 q2 q3 q4 q5
  go_wp2_with fail
  refine Calls.mono (toPs_any a1 len1 cap1 P1 _ PA6.out hnl HM.out) ?_
  rintro e v7 ⟨G7, A7, C7, rfl, O7, b7⟩
  have D7 : Hid (Below v5'.heap.size v5' v7) := below2 D6.out b7
  have P7 : Hid (PiAt v7 (some ⟨G4, 0, none⟩) len1 P1) := (OX5.out.at).below D7.out
  have Q7 : Hid (PiAt v7 (some ⟨G7, 0, none⟩) len1 P1) := O7.at
  clear b7 O7
  go_wp2_with fail
  refine Calls.mono (eqPs_same (some ⟨G4, 0, none⟩) (some ⟨G7, 0, none⟩) len1 len1 len1 P1 _ P7.out Q7.out hnl HM.out) ?_
  rintro e v8 ⟨rfl, b8⟩
  have D8 : Hid (Below v5'.heap.size v5' v8) := below2 D7.out b8
  have OX8 : Hid (OwnP v8 v3'.heap.size (some ⟨G4, 0, none⟩) len1 len1 A4 C4 P1) := OX5.out.below D8.out
  have OW8 : Hid (Ow v8 v3'.heap.size (pcsD len1 P1) (.slice (some ⟨G4, 0, none⟩) len1 len1) (rng v3'.heap.size v4.heap.size)) := ((ow_pcs (F := rng v3'.heap.size v4.heap.size) LO.out (fun x h1 h2 => ⟨h1, h2⟩)).below D45.out).below D8.out
  have KMk : Hid (Calls Tryz.prog 41 #[.slice (some ⟨G4, 0, none⟩) len1 len1, .int .i64 ((1 : Nat) : Int)] v8 fun e w' => e = .returned (.int .i64 (tk : Int)) ∧ Trn v8 w' (rng v3'.heap.size v4.heap.size)) := by
    have := markPcs_any v3'.heap.size G4 len1 len1 (rng v3'.heap.size v4.heap.size) P1 1 v8 OW8.out hnl HM.out HOf.out
    rw [HTK.out] at this
    exact this.mono fun e w' h => ⟨h.1, h.2.2⟩
  have B8 : Hid (Below w.heap.size w v8) := below2 B5.out D8.out
  clear b8 OX8 OW8 P7 Q7
  go_wp2_with fail
  refine Calls.mono KMk.out ?_
  rintro e v9 ⟨rfl, t9⟩
  have hTM : TurnM v8 v9 v3'.heap.size v4.heap.size := ⟨t9.os, t9.tape, t9.output, t9.size, fun j hj h => t9.block j hj (fun hf => by have h1 := hf.1; have h2 := hf.2; omega)⟩
  have h38 : v3'.heap.size ≤ v8.heap.size := Nat.le_trans D5.out.size D8.out.size
  have E9 : Hid (Below v3'.heap.size v8 v9) := t9.below (fun x hx => hx.1) h38
  have F9 : Hid (Below v3'.heap.size v3' v9) := (below2 D5.out D8.out).trans E9.out
  have B9 : Hid (Below w.heap.size w v9) := B8.out.trans (E9.out.mono B3.out.size)
  have RT9 : Hid (RowT v9 v4.heap.size v5.heap.size aI p.m cI p.S) := (RT.out.below D8.out).turned hTM (.inr (Nat.le_refl _))
  have RI9 : Hid (Row v9 S5 33 (pcC p.r p.k p.n p.i p.b (.slice aI p.m cI))) := by
    have h1 := RI.out.below D8.out RI.out.lt
    have h2 := hs5.out
    exact (t9.block S5 h1.lt (fun hf => by have := hf.2; omega)).trans h1
  have RS9 : Hid (Row v9 S3 33 (pcC p.r p.k p.n p.i p.b (.slice aS p.m cS))) := RS.out.below F9.out RS.out.lt
  have q0 := RS9.out.cell 0
  have q1 := RS9.out.cell 1
  have q2 := RS9.out.cell 2
  have q3 := RS9.out.cell 3
  have q4 := RS9.out.cell 4
  have q5 := RS9.out.cell 5
  have y0 := RI9.out.cell 0
  have y1 := RI9.out.cell 1
  have y2 := RI9.out.cell 2
  have y3 := RI9.out.cell 3
  have y4 := RI9.out.cell 4
  have y5 := RI9.out.cell 5
  simp at q0 q1 q2 q3 q4 q5 y0 y1 y2 y3 y4 y5
  clear t9 hTM h38 KMk
  go_wp2_with fail
  refine Calls.mono (KEq.out _ aI aS (RowT.at RT9.out) (TS.out.below F9.out) cI cS) ?_
  rintro e v10 ⟨rfl, b10⟩
  have G10 : Hid (Below v9.heap.size v9 v10) := b10
  have RI10 : Hid (Row v10 S5 33 (pcC p.r p.k p.n p.i p.b (.slice aI p.m cI))) := RI9.out.below b10 RI9.out.lt
  have RT10 : Hid (RowT v10 v4.heap.size v5.heap.size aI p.m cI p.S) := RT9.out.below b10
  obtain ⟨tm, HTM⟩ : ∃ x, Hid (1 + p.m = x) := ⟨_, rfl⟩
  have htm : ¬ ((tm : Int) < 0) := by omega
  have hqq : ((tm : Int) != (tm : Int)) = false := by simp
  have KMp : Hid _ := markPc_any p.r p.k p.n p.i p.b v4.heap.size v5.heap.size aI p.m cI p.S tm v10 RT10.out hpm HTM.out
  have KHp : Hid (∀ W, TxtAt W aI p.m (fun i => mtxt (1 + i)) → Calls Tryz.prog 43 #[pcV p.r p.k p.n p.i p.b (.slice aI p.m cI), .int .i64 1] W fun e w' => e = .returned (.int .i64 (tm : Int)) ∧ Below W.heap.size W w') := fun W hW => heldPc_any p.r p.k p.n p.i p.b aI p.m cI tm W hW hpm HTM.out
  clear b10 q0 q1 q2 q3 q4 q5 y0 y1 y2 y3 y4 y5
  have y0 := RI10.out.cell 0
  have y1 := RI10.out.cell 1
  have y2 := RI10.out.cell 2
  have y3 := RI10.out.cell 3
  have y4 := RI10.out.cell 4
  have y5 := RI10.out.cell 5
  simp at y0 y1 y2 y3 y4 y5
  go_wp2_with fail
  refine Calls.mono KMp.out ?_
  rintro e v11 ⟨rfl, R11, T11⟩
  have hs10 := (below2 D8.out (Below.refl _ _)).size
  have h4w : w.heap.size ≤ v4.heap.size := B4.out.size
  have h34 : v3'.heap.size ≤ v4.heap.size := D4.out.size
  have h410 : v4.heap.size ≤ v10.heap.size := by have h1 := G10.out.size; have h2 := E9.out.size; have h3 := D8.out.size; have h5 := hs5.out; omega
  have RI11 : Hid (Row v11 S5 33 (pcC p.r p.k p.n p.i p.b (.slice aI p.m cI))) := (T11.block S5 RI10.out.lt (.inr (by have := hs5.out; omega))).trans RI10.out
  have TM11 : Hid (TxtAt v11 aI p.m (fun i => mtxt (1 + i))) := R11.at
  have B11 : Hid (Below w.heap.size w v11) := (below2 B9.out G10.out).trans (T11.below h4w (by omega))
  have F11 : Hid (Below v3'.heap.size v3' v11) := (below2 F9.out G10.out).trans (T11.below h34 (by omega))
  clear R11 T11 KMp y0 y1 y2 y3 y4 y5 hs10
  have y0 := RI11.out.cell 0
  have y1 := RI11.out.cell 1
  have y2 := RI11.out.cell 2
  have y3 := RI11.out.cell 3
  have y4 := RI11.out.cell 4
  have y5 := RI11.out.cell 5
  simp at y0 y1 y2 y3 y4 y5
  go_wp2_with fail
  refine Calls.mono (KHp.out _ TM11.out) ?_
  rintro e v12 ⟨rfl, b12⟩
  have G12 : Hid (Below v11.heap.size v11 v12) := b12
  have B12 : Hid (Below w.heap.size w v12) := below2 B11.out b12
  have PA12 : Hid (PiAt v12 a1 len1 P1) := KP.out.below B12.out
  clear b12 y0 y1 y2 y3 y4 y5
  go_wp2_with fail
  refine Calls.mono (toPs_any a1 len1 cap1 P1 _ PA12.out hnl HM.out) ?_
  rintro e v13 ⟨G13, A13, C13, rfl, O13, b13⟩
  obtain ⟨A13', C13', hA13⟩ := PiAt.a O13.at
  have B13 : Hid (Below w.heap.size w v13) := below2 B12.out b13
  have G13' : Hid (Below v11.heap.size v11 v13) := below2 G12.out b13
  have KJ : Hid _ := remake_any a0 (some ⟨G13, 0, none⟩) len1 len1 A13' C13' P1 a2 v13 hA13 (KE.out.below B13.out) hnl HM.out HL.out (sort_ok P1 A13' C13')
  clear b13 O13 hA13
  go_wp2_with fail
  refine Calls.mono KJ.out ?_
  rintro e v14 ⟨b14, hJ⟩
  obtain ⟨p'', c'', aJ, cJ, rfl, OJ, _, hRm''⟩ := rmA_of hJ
  obtain ⟨rfl, rfl⟩ := isRm_one HRm.out hRm''
  obtain ⟨S14, HS14⟩ : ∃ x, Hid (x = v14.heap.size) := ⟨_, rfl⟩
  obtain ⟨v14', HV14⟩ : ∃ x, Hid (x = v14.alloc (.cells (pcC p.r p.k p.n p.i p.b (.slice aJ p.m cJ)) 33)) := ⟨_, rfl⟩
  have b144 : Below v14.heap.size v14 v14' := by rw [HV14.out]; exact (Below.refl _ _).alloc (Nat.le_refl _) _
  have RJ : Hid (Row v14' S14 33 (pcC p.r p.k p.n p.i p.b (.slice aJ p.m cJ))) := by show Row _ _ _ _; rw [HV14.out, HS14.out]; exact Row.new v14 _ _
  have TJ : Hid (TxtAt v14' aJ p.m p.S) := (OwnT.at OJ).below b144
  have G14 : Hid (Below v11.heap.size v11 v14') := below2 G13'.out (below2 b14 b144)
  have F14 : Hid (Below v3'.heap.size v3' v14') := below2 F11.out G14.out
  have B14 : Hid (Below w.heap.size w v14') := below2 B13.out (below2 b14 b144)
  have RS14 : Hid (Row v14' S3 33 (pcC p.r p.k p.n p.i p.b (.slice aS p.m cS))) := RS.out.below F14.out RS.out.lt
  clear hJ b14 KJ OJ hRm'' b144
  have q0 := RS14.out.cell 0
  have q1 := RS14.out.cell 1
  have q2 := RS14.out.cell 2
  have q3 := RS14.out.cell 3
  have q4 := RS14.out.cell 4
  have q5 := RS14.out.cell 5
  simp at q0 q1 q2 q3 q4 q5
  go_wp2_with (rw [← HV14.out, ← HS14.out]; refine wpList_load_row (by rfl) 33 _ (by rfl) S14 (by rfl) 33 (pcC p.r p.k p.n p.i p.b (.slice aJ p.m cJ)) (0, 0) _ ?_ Tryz.underlying33 (by rfl) Tryz.infoPc ?_; exact RJ.out)
  refine Calls.mono (KEq.out _ aJ aS TJ.out (TS.out.below F14.out) cJ cS) ?_
  rintro e v15 ⟨rfl, b15⟩
  have G15 : Hid (Below v11.heap.size v11 v15) := below2 G14.out b15
  have B15 : Hid (Below w.heap.size w v15) := below2 B14.out b15
  have RI15 : Hid (Row v15 S5 33 (pcC p.r p.k p.n p.i p.b (.slice aI p.m cI))) := RI11.out.below G15.out RI11.out.lt
  have TM15 : Hid (TxtAt v15 aI p.m (fun i => mtxt (1 + i))) := TM11.out.below G15.out
  clear b15 q0 q1 q2 q3 q4 q5
  have y0 := RI15.out.cell 0
  have y1 := RI15.out.cell 1
  have y2 := RI15.out.cell 2
  have y3 := RI15.out.cell 3
  have y4 := RI15.out.cell 4
  have y5 := RI15.out.cell 5
  simp at y0 y1 y2 y3 y4 y5
  go_wp2_with fail
  refine Calls.mono (KHp.out _ TM15.out) ?_
  rintro e v16 ⟨rfl, b16⟩
  have B16 : Hid (Below w.heap.size w v16) := below2 B15.out b16
  clear b16 y0 y1 y2 y3 y4 y5
  go_wp2
  go_ret
  exact ⟨rfl, B16.out⟩
end Go.Proofs.YthnjhjgffkilcaaGreatDoor
