import Derived.Test.YtodnodekheaacaaGreatDoorG37
import Derived.Test.YtodnodekheaacaaGreatDoorG38
import Derived.Test.YtodnodekheaacaaGreatDoorG31
import Derived.Test.YtodnodekheaacaaGreatDoorG26
import Derived.Test.YtodnodekheaacaaGreatDoorG6
import Derived.Lib.QuietBelow
import Derived.BigQuiet
set_option maxHeartbeats 8000000
set_option maxRecDepth 2000
namespace Go.Proofs.YtodnodekheaacaaGreatDoor
open Go.ChangeShapes Go.WideShapes Go.ChangeAt Go.RowKit Go.Sort
theorem gL_join (c d : Nat → Nat → Value) (n m : Nat) : gL c n ++ gL d m = gL (fun i => if i < n then c i else d (i - n)) (n + m) := by
 apply List.ext_getElem?
 intro j
 by_cases hj : j < (n + m) * 6
 ·have h2 := gL_get (fun i => if i < n then c i else d (i - n)) (n + m) (j / 6) (j % 6) (by omega) (by omega)
  rw [show j / 6 * 6 + j % 6 = j by omega] at h2
  rw [h2]
  by_cases hn : j < n * 6
  ·have h1 := gL_get c n (j / 6) (j % 6) (by omega) (by omega)
   rw [show j / 6 * 6 + j % 6 = j by omega] at h1
   rw [List.getElem?_append_left (by rw [gL_len]; exact hn), h1, if_pos (by omega)]
  ·have h1 := gL_get d m (j / 6 - n) (j % 6) (by omega) (by omega)
   rw [show (j / 6 - n) * 6 + j % 6 = j - n * 6 by omega] at h1
   rw [List.getElem?_append_right (by rw [gL_len]; omega), gL_len, h1, if_neg (by omega)]
 ·rw [List.getElem?_eq_none (by rw [List.length_append, gL_len, gL_len]; omega), List.getElem?_eq_none (by rw [gL_len]; omega)]
noncomputable def gdP (root : ByteArray) (P : Nat → Pc) (n i : Nat) : Pc :=
 if i < 2 then ⟨if i = 0 then root else ⟨#[120]⟩, 0, 0, 0, ⟨#[]⟩, 0, fun _ => ⟨#[]⟩⟩ else P ((gdL root P n).getD (i - 2) 0)
noncomputable def gdA (root : ByteArray) (P : Nat → Pc) (A : Nat → Option Addr) (n i : Nat) : Option Addr := if i < 2 then none else A ((gdL root P n).getD (i - 2) 0)
noncomputable def gdC (root : ByteArray) (P : Nat → Pc) (C : Nat → Nat) (n i : Nat) : Nat := if i < 2 then 0 else C ((gdL root P n).getD (i - 2) 0)
theorem gd_is (root : ByteArray) (P : Nat → Pc) (n : Nat) : IsGd root P (gdP root P n) n :=
 ⟨rfl, rfl, fun j _ => by show gdP root P n (2 + j) = _; unfold gdP; rw [if_neg (by omega), Nat.add_sub_cancel_left]⟩
theorem gd_cells (root : ByteArray) (P : Nat → Pc) (A : Nat → Option Addr) (C : Nat → Nat) (n : Nat) :
  [Value.string root, .int .i64 0, .int .i64 0, .int .i64 0, .string ⟨#[]⟩, .slice none 0 0, .string ⟨#[120]⟩, .int .i64 0, .int .i64 0, .int .i64 0, .string ⟨#[]⟩, .slice none 0 0] ++ gL (fun i => celp P A C ((gdL root P n).getD i 0)) (gdL root P n).length
   = gL (celp (gdP root P n) (gdA root P A n) (gdC root P C n)) (2 + (gdL root P n).length) := by
 have e : [Value.string root, .int .i64 0, .int .i64 0, .int .i64 0, .string ⟨#[]⟩, .slice none 0 0, .string ⟨#[120]⟩, .int .i64 0, .int .i64 0, .int .i64 0, .string ⟨#[]⟩, .slice none 0 0] = gL (celp (gdP root P n) (gdA root P A n) (gdC root P C n)) 2 := rfl
 rw [e, gL_join]
 refine gL_congr fun i q hi _ => ?_
 by_cases h : i < 2
 ·rw [if_pos h]
 ·rw [if_neg h]
  unfold celp gdP gdA gdC
  rw [if_neg h, if_neg h, if_neg h]
theorem gd_mem {root : ByteArray} {P : Nat → Pc} {n j : Nat} (h : j < (gdL root P n).length) : (gdL root P n).getD j 0 < n := gdL_mem (getD_memL h)
theorem walk_FnRegain (a0 : Option Addr) (len0 cap0 : Nat) (z0 : List Int) (w : World) (w0 : IsRow .u8 w a0 len0 cap0 z0) (hE : ErrT w) :
  Calls Tryz.prog 4 #[.slice a0 len0 cap0] w fun e w' => e = .returned (.bool true) ∧ Below w.heap.size w w' := by
 obtain ⟨j0, hj0, hy0, hy1, hy2⟩ := info_parts Tryz.infoPc3
 by_cases h0 : 1048576 < len0
 ·clear w0
  have h0' : (1048576 : Int) < (len0 : Int) := by omega
  go_enter Tryz.func4, Tryz.ntmps4
  go_wp2_with (go_at_call 5; refine (big_any _ _ _ _).mono ?_; rintro e w' ⟨rfl, rfl⟩)
  go_ret
  exact ⟨rfl, Below.refl _ _⟩
 have hc := w0.code (by omega)
 have KE : Hid (ErrT w) := hE
 clear w0 hE
 have h0' : ¬ (1048576 : Int) < (len0 : Int) := by omega
 go_enter Tryz.func4, Tryz.ntmps4
 go_wp2_with fail
 refine (big_any _ _ _ _).mono ?_
 rintro e w' ⟨rfl, hw⟩
 obtain rfl := hw.symm
 clear hw
 go_wp2_with fail
 refine (drawRegain_any _ _ _ _ hc).mono ?_
 rintro e v1 ⟨root, j, G, cc, P, hr, hj, rfl, hP, hS, b1⟩
 have K1 : Hid (CodeAt v1 a0 len0) := hc.below b1
 have KP1 : Hid (PiAt v1 (some ⟨G, 0, none⟩) j P) := hP
 have HM : Hid (∀ i, i < j → (P i).m ≤ 1048576) := fun i hi => by have := (hS i hi).m; omega
 have HL : Hid (∀ i, i < j → ∀ t, t < (P i).m → ((P i).S t).size ≤ maxLen) := fun i hi t ht => by have := (hS i hi).s t ht; unfold maxLen; omega
 have KB1 : Hid (Below w.heap.size w v1) := b1
 have hj' : j ≤ 1048576 := by omega
 obtain ⟨A1, C1, hA1⟩ := PiAt.a hP
 have KA1 : Hid (PiA v1 (some ⟨G, 0, none⟩) j A1 C1 P) := hA1
 have KI : Hid _ := regain_any root (some ⟨G, 0, none⟩) j cc A1 C1 P v1 hA1 (KE.out.below b1) hj' HM.out HL.out (sort_ok P A1 C1)
 clear hc h0 h0' hP hS b1 hA1
 go_wp2_with fail
 refine Calls.mono KI.out ?_
 rintro e v2 ⟨b2, hI⟩
 have hI' : RgA root j P e := hI
 obtain ⟨ts, cs, rfl⟩ := rgA_is hI'
 have HI : Hid (RgA root j P (.returned (.tuple #[.string ts, .int .i64 cs]))) := hI'
 have B2 : Hid (Below v1.heap.size v1 v2) := b2
 have KS : Hid _ := sRegain_any root (some ⟨G, 0, none⟩) j cc A1 C1 P v2 (fun W hW => chosen_any root (some ⟨G, 0, none⟩) j cc A1 C1 P W ((KA1.out.below b2).below hW) hj' HM.out HL.out)
 clear hI hI' b2 KI
 go_wp2_with fail
 refine Calls.mono KS.out ?_
 rintro e v3 ⟨b3, hS3⟩
 have hSA : RgA root j P e := by
  rcases hS3 with h | ⟨h4, L, h5, h6, h7⟩
  ·exact .inl h
  ·exact .inr ⟨h4, L, h5, h6, rs_rg h7⟩
 obtain rfl := rgA_one HI.out hSA
 have B3 : Hid (Below v1.heap.size v1 v3) := below2 B2.out b3
 have K3 : Hid (CodeAt v3 a0 len0) := K1.out.below B3.out
 clear hS3 hSA b3 KS K1 B2
 go_wp2_with fail
 refine (drawRemake_any _ _ _ _ K3.out).mono ?_
 rintro e v4 ⟨r4, j4, G4, c4, P4, x4, hr4, hj4, rfl, hP4, hS4, b4⟩
 have B4 : Hid (Below v1.heap.size v1 v4) := below2 B3.out b4
 have hj4' : j4 ≤ 1048576 := by omega
 obtain ⟨A4, C4, hA4⟩ := PiAt.a hP4
 have HM4 : Hid (∀ i, i < j4 → (P4 i).m ≤ 1048576) := fun i hi => by have := (hS4 i hi).m; omega
 have HL4 : Hid (∀ i, i < j4 → ∀ t, t < (P4 i).m → ((P4 i).S t).size ≤ maxLen) := fun i hi t ht => by have := (hS4 i hi).s t ht; unfold maxLen; omega
 have KA4 : Hid (PiA v4 (some ⟨G4, 0, none⟩) j4 A4 C4 P4) := hA4
 have KI : Hid _ := remake_any r4 (some ⟨G4, 0, none⟩) j4 c4 A4 C4 P4 x4 v4 hA4 ((KE.out.below KB1.out).below B4.out) hj4' HM4.out HL4.out (sort_ok P4 A4 C4)
 clear hr4 hj4 hP4 hS4 b4 hA4 K3 B3
 go_wp2_with fail
 refine Calls.mono KI.out ?_
 rintro e v5 ⟨b5, hI⟩
 obtain ⟨p, c, aI, cI, rfl, OI, hpm, hRm⟩ := rmA_of hI
 have HRm : Hid (IsRm r4 j4 P4 x4 p c) := hRm
 obtain ⟨S5, HS5⟩ : ∃ x, Hid (x = v5.heap.size) := ⟨_, rfl⟩
 obtain ⟨v5', HV5⟩ : ∃ x, Hid (x = v5.alloc (.cells (pcC p.r p.k p.n p.i p.b (.slice aI p.m cI)) 30)) := ⟨_, rfl⟩
 have b55 : Below v5.heap.size v5 v5' := by rw [HV5.out]; exact (Below.refl _ _).alloc (Nat.le_refl _) _
 have RI : Hid (Row v5' S5 30 (pcC p.r p.k p.n p.i p.b (.slice aI p.m cI))) := by show Row _ _ _ _; rw [HV5.out, HS5.out]; exact Row.new v5 _ _
 have TI : Hid (TxtAt v5' aI p.m p.S) := (OwnT.at OI).below b55
 have B45 : Hid (Below v4.heap.size v4 v5') := below2 b5 b55
 have KS : Hid _ := sRemake_any r4 (some ⟨G4, 0, none⟩) j4 c4 A4 C4 P4 x4 v5' (fun W hW => chosen_any r4 (some ⟨G4, 0, none⟩) j4 c4 A4 C4 P4 W ((KA4.out.below B45.out).below hW) hj4' HM4.out HL4.out)
 clear hI b5 KI OI hRm b55
 go_wp2_with fail
 rw [← HV5.out, ← HS5.out]
 refine Calls.mono KS.out ?_
 rintro e v6 ⟨b6, hI⟩
 obtain ⟨p', c', aS, cS, rfl, OS, _, hRm'⟩ := rmA_of hI
 obtain ⟨rfl, rfl⟩ := isRm_one HRm.out hRm'
 obtain ⟨S6, HS6⟩ : ∃ x, Hid (x = v6.heap.size) := ⟨_, rfl⟩
 obtain ⟨v7, HV7⟩ : ∃ x, Hid (x = v6.alloc (.cells (pcC p.r p.k p.n p.i p.b (.slice aS p.m cS)) 30)) := ⟨_, rfl⟩
 have b67 : Below v6.heap.size v6 v7 := by rw [HV7.out]; exact (Below.refl _ _).alloc (Nat.le_refl _) _
 have b57 := below2 b6 b67
 have RS7 : Hid (Row v7 S6 30 (pcC p.r p.k p.n p.i p.b (.slice aS p.m cS))) := by show Row _ _ _ _; rw [HV7.out, HS6.out]; exact Row.new v6 _ _
 have RI7 : Hid (Row v7 S5 30 (pcC p.r p.k p.n p.i p.b (.slice aI p.m cI))) := RI.out.below b57 RI.out.lt
 have KSP : Hid _ := samePc_same p.r p.k p.n p.i p.b aI aS p.m cI cS p.S v7 (TI.out.below b57) ((OwnT.at OS).below b67) (by omega)
 have B7 : Hid (Below v1.heap.size v1 v7) := below2 B4.out (below2 B45.out b57)
 have f1 : (ts.toList != ts.toList) = false := by simp
 have f1' := ba_beq ts
 have f2 : (cs != cs) = false := by simp
 have f3 : (c != c) = false := by simp
 have q0 := RI7.out.cell 0
 have q1 := RI7.out.cell 1
 have q2 := RI7.out.cell 2
 have q3 := RI7.out.cell 3
 have q4 := RI7.out.cell 4
 have q5 := RI7.out.cell 5
 have s0 := RS7.out.cell 0
 have s1 := RS7.out.cell 1
 have s2 := RS7.out.cell 2
 have s3 := RS7.out.cell 3
 have s4 := RS7.out.cell 4
 have s5 := RS7.out.cell 5
 simp at q0 q1 q2 q3 q4 q5 s0 s1 s2 s3 s4 s5
 clear hI b6 KS OS hRm' b67 b57 RI TI B45 KA4 B4
 go_upto_region 9 with fail
 rw [← HV7.out, ← HS6.out]
 go_wp2_with fail
 refine Calls.mono KSP.out ?_
 rintro e v8 ⟨rfl, b8⟩
 have B8 : Hid (Below v1.heap.size v1 v8) := below2 B7.out b8
 clear b8 B7 KSP q0 q1 q2 q3 q4 q5 s0 s1 s2 s3 s4 s5 RI7 RS7 f3
 by_cases h60 : 60 < j
 ·have h60' : (60 : Int) < (j : Int) := by omega
  go_wp2
  go_ret
  exact ⟨rfl, below2 KB1.out B8.out⟩
 have h60' : ¬ (60 : Int) < (j : Int) := by omega
 obtain ⟨v9, HV9⟩ : ∃ x, Hid (x = v8.alloc (.cells #[] 30)) := ⟨_, rfl⟩
 have HB89 : Hid (Below v8.heap.size v8 v9) := by show Below _ _ _; rw [HV9.out]; exact (Below.refl _ _).alloc (Nat.le_refl _) _
 have HO9 : Hid (OwnC v9 v8.heap.size (some ⟨v8.heap.size, 0, none⟩) (gdL root P 0).length 0 (fun i => celp P A1 C1 ((gdL root P 0).getD i 0))) := by
  show OwnC _ _ _ _ _ _
  rw [HV9.out]
  exact World.ownsRow_lit v8 #[] 0 (Nat.le_refl _) (by unfold maxLen; omega) rfl
 have KA8 : Hid (∀ W, Below v8.heap.size v8 W → PiA W (some ⟨G, 0, none⟩) j A1 C1 P) := fun W hW => (KA1.out.below B8.out).below hW
 go_wp2_with fail
 rw [← HV9.out]
 go_loopw [16, 17] (fun v vi wr => ∃ k gg cg : Nat, k ≤ j ∧ vi = .int .i64 (k : Int) ∧ v = .slice (some ⟨gg, 0, none⟩) (gdL root P k).length cg ∧ Hid (OwnC wr v8.heap.size (some ⟨gg, 0, none⟩) (gdL root P k).length cg (fun i => celp P A1 C1 ((gdL root P k).getD i 0))) ∧ Hid (Below v8.heap.size v8 wr)) (fun _ vi _ => j - (intOf vi).toNat)
 case atStart => exact ⟨0, _, 0, Nat.zero_le _, rfl, rfl, HO9, HB89⟩
 case round =>
  obtain ⟨k, gg, cg, hk, rfl, rfl, HO, HB⟩ := hrel
  clear HO9 HB89
  have lgg := World.ownsRow.lt HO.out gg rfl
  have hs8 := HB.out.size
  obtain ⟨ng, HNG⟩ : ∃ x, Hid ((gdL root P k).length = x) := ⟨_, rfl⟩
  have hng : ng ≤ 60 := by rw [← HNG.out]; have := gdL_len root P k; omega
  by_cases hlt : k < j
  ·have hki : (k : Int) < (j : Int) := by omega
   obtain ⟨⟨bb, off, eb, hcell⟩, hT⟩ := KA8.out wr HB.out k hlt
   cases eb
   have R1 : Hid (∀ W, Below wr.heap.size wr W → W.rangeAt G (k * 6) [.string (P k).r, .int .i64 (P k).k, .int .i64 (P k).n, .int .i64 (P k).i, .string (P k).b, .slice (A1 k) (P k).m (C1 k)]) := fun W hW y v hv => by
    have hcw : ∀ y, y < 6 → W.cell? ⟨G, k * 6 + y, none⟩ = some (cel (P k) (.slice (A1 k) (P k).m (C1 k)) y) := fun y hy => by
     have h5 := hcell y hy
     rw [Nat.zero_add] at h5
     exact (hW.cell (block_lt_of_cell h5)).trans h5
    match y, hv with
    | 0, hv => cases hv; exact hcw 0 (by omega)
    | 1, hv => cases hv; exact hcw 1 (by omega)
    | 2, hv => cases hv; exact hcw 2 (by omega)
    | 3, hv => cases hv; exact hcw 3 (by omega)
    | 4, hv => cases hv; exact hcw 4 (by omega)
    | 5, hv => cases hv; exact hcw 5 (by omega)
    | y + 6, hv => simp at hv
   obtain ⟨bk, HBK⟩ : ∃ x, Hid (pok P k = x) := ⟨_, rfl⟩
   have KO : Hid (Calls Tryz.prog 16 #[pcV (P k).r (P k).k (P k).n (P k).i (P k).b (.slice (A1 k) (P k).m (C1 k))] wr fun e w' => e = .returned (.bool bk) ∧ Below wr.heap.size wr w') := by
    have := sPieceOk_any (P k).r (P k).k (P k).n (P k).i (P k).b (A1 k) (P k).m (C1 k) (P k).S wr hT (HM.out k hlt) (HL.out k hlt)
    rw [← HBK.out]
    exact this
   have R0 : Hid (wr.rangeAt G (k * 6) [.string (P k).r, .int .i64 (P k).k, .int .i64 (P k).n, .int .i64 (P k).i, .string (P k).b, .slice (A1 k) (P k).m (C1 k)]) := R1.out wr (Below.refl _ _)
   rw [HNG.out]
   clear hT hcell
   go_wp2_with (refine wpList_load_mid (by rfl) 30 _ (by rfl) G (k * 6) (by rfl) [.string (P k).r, .int .i64 (P k).k, .int .i64 (P k).n, .int .i64 (P k).i, .string (P k).b, .slice (A1 k) (P k).m (C1 k)] _ ?_ Tryz.underlying30 (by rfl) Tryz.infoPc ?_; exact R0.out)
   refine Calls.mono KO.out ?_
   rintro e u1 ⟨rfl, bu1⟩
   have HBu : Hid (Below v8.heap.size v8 u1) := below2 HB.out bu1
   have HOu : Hid (OwnC u1 v8.heap.size (some ⟨gg, 0, none⟩) (gdL root P k).length cg (fun i => celp P A1 C1 ((gdL root P k).getD i 0))) := HO.out.below bu1
   have R2 : Hid (u1.rangeAt G (k * 6) [.string (P k).r, .int .i64 (P k).k, .int .i64 (P k).n, .int .i64 (P k).i, .string (P k).b, .slice (A1 k) (P k).m (C1 k)]) := R1.out u1 bu1
   have z0 := R2.out 0 _ rfl
   rw [Nat.add_zero] at z0
   clear R1 R0 KO HO HB bu1
   cases bk with
   | false =>
    have HX : Hid (gdL root P (k + 1) = gdL root P k) := gdL_no (fun h => by have := h.2; rw [HBK.out] at this; cases this)
    have HN : Hid (OwnC u1 v8.heap.size (some ⟨gg, 0, none⟩) (gdL root P (k + 1)).length cg (fun i => celp P A1 C1 ((gdL root P (k + 1)).getD i 0)) ∧ (gdL root P (k + 1)).length = ng) := by rw [HX.out]; exact ⟨HOu.out, HNG.out⟩
    go_wp2
    go_roundw
    case rel => exact ⟨k + 1, gg, cg, by omega, by go_num, by rw [HN.out.2], HN.out.1, HBu⟩
    case measure => simp [intOf]; omega
   | true =>
    by_cases her : (P k).r = root
    ·have hbe : ((P k).r.toList == root.toList) = true := by rw [her]; simp
     have HX : Hid (gdL root P (k + 1) = gdL root P k ++ [k]) := gdL_yes ⟨her, HBK.out⟩
     have HER : Hid ((P k).r = root) := her
     have hsu := HBu.out.size
     have HOu' : Hid (World.ownsRow u1 v8.heap.size 30 6 (.slice (some ⟨gg, 0, none⟩) ng cg) ng (gL (fun i => celp P A1 C1 ((gdL root P k).getD i 0)) ng)) := by have := HOu.out; unfold OwnC at this; rw [HNG.out] at this; exact this
     clear her
     go_wp2_with (first | (at_builtin; refine wpList_append_lies _ (by rfl) _ _ 24 (by rfl) v8.heap.size 30 j0 (.agg #[.string ByteArray.empty, .int .i64 0, .int .i64 0, .int .i64 0, .string ByteArray.empty, .slice none 0 0]) 6 80 Tryz.underlying24 hj0 hy0 hy1 hy2 rfl (by decide) (.slice (some ⟨gg, 0, none⟩) ng cg) ng _ (by rfl) (World.ownsRow.alloc HOu'.out _) ⟨u1.heap.size, 0, none⟩ 1 1 [.string (P k).r, .int .i64 (P k).k, .int .i64 (P k).n, .int .i64 (P k).i, .string (P k).b, .slice (A1 k) (P k).m (C1 k)] (by rfl) (by rfl) (World.news_of_block (cs := #[.string (P k).r, .int .i64 (P k).k, .int .i64 (P k).n, .int .i64 (P k).i, .string (P k).b, .slice (A1 k) (P k).m (C1 k)]) (t := 30) (fr := (0, 0)) (heap_alloc_new u1 _)) (by simp [Value.oneCell']) (by omega) (by unfold maxLen; omega) (by omega) (by simp; omega) (u1.heap.size + 1) (by simp) ?_; intro g3 cap3 w9 hown3 hgrow3 hat3 hlt3) | (refine wpList_load_mid (by rfl) 30 _ (by rfl) G (k * 6) (by rfl) [.string (P k).r, .int .i64 (P k).k, .int .i64 (P k).n, .int .i64 (P k).i, .string (P k).b, .slice (A1 k) (P k).m (C1 k)] _ ?_ Tryz.underlying30 (by rfl) Tryz.infoPc ?_; exact R2.out))
     have HN : Hid (OwnC w9 v8.heap.size (some ⟨g3, 0, none⟩) (gdL root P (k + 1)).length cap3 (fun i => celp P A1 C1 ((gdL root P (k + 1)).getD i 0)) ∧ (gdL root P (k + 1)).length = ng + 1 ∧ Below v8.heap.size v8 w9) := by
      rw [HX.out]
      refine ⟨OwnC.snoc (by rw [HNG.out]; exact hown3), by rw [List.length_append, HNG.out]; rfl, ?_⟩
      exact (HBu.out.alloc hsu _).grown (show World.grownBy _ w9 (some gg) from hgrow3) (by simp; omega) (fun q hq => by cases hq; exact lgg.1)
     clear hown3 hgrow3 hat3 hlt3 HOu HOu' HBu R2 z0
     go_roundw
     case rel => exact ⟨k + 1, g3, cap3, by omega, by go_num, by rw [HN.out.2.1], HN.out.1, HN.out.2.2⟩
     case measure => simp [intOf]; omega
    ·have hbe : ((P k).r.toList == root.toList) = false := ba_ne her
     have HX : Hid (gdL root P (k + 1) = gdL root P k) := gdL_no (fun h => her h.1)
     have HN : Hid (OwnC u1 v8.heap.size (some ⟨gg, 0, none⟩) (gdL root P (k + 1)).length cg (fun i => celp P A1 C1 ((gdL root P (k + 1)).getD i 0)) ∧ (gdL root P (k + 1)).length = ng) := by rw [HX.out]; exact ⟨HOu.out, HNG.out⟩
     go_wp2
     go_roundw
     case rel => exact ⟨k + 1, gg, cg, by omega, by go_num, by rw [HN.out.2], HN.out.1, HBu⟩
     case measure => simp [intOf]; omega
  ·obtain rfl : j = k := by omega
   rw [HNG.out]
   have HOr : Hid (World.ownsRow wr v8.heap.size 30 6 (.slice (some ⟨gg, 0, none⟩) ng cg) ng (gL (fun i => celp P A1 C1 ((gdL root P j).getD i 0)) ng)) := by have := HO.out; unfold OwnC at this; rw [HNG.out] at this; exact this
   obtain ⟨u0, HU0⟩ : ∃ x, Hid (x = wr.alloc (.cells #[.string root, .int .i64 0, .int .i64 0, .int .i64 0, .string ⟨#[]⟩, .slice none 0 0, .string ⟨#[120]⟩, .int .i64 0, .int .i64 0, .int .i64 0, .string ⟨#[]⟩, .slice none 0 0] 30)) := ⟨_, rfl⟩
   have bu0 : Below wr.heap.size wr u0 := by rw [HU0.out]; exact (Below.refl _ _).alloc (Nat.le_refl _) _
   have HOW : Hid (World.ownsRow u0 wr.heap.size 30 6 (.slice (some ⟨wr.heap.size, 0, none⟩) 2 2) 2 [.string root, .int .i64 0, .int .i64 0, .int .i64 0, .string ⟨#[]⟩, .slice none 0 0, .string ⟨#[120]⟩, .int .i64 0, .int .i64 0, .int .i64 0, .string ⟨#[]⟩, .slice none 0 0]) := by
    show World.ownsRow _ _ _ _ _ _ _
    rw [HU0.out]
    exact World.ownsRow_lit wr _ 2 (Nat.le_refl _) (by unfold maxLen; omega) rfl
   have HNEW : Hid (∀ (y : Nat) (u : Value), (gL (fun i => celp P A1 C1 ((gdL root P j).getD i 0)) ng)[y]? = some u → u0.cell? ((⟨gg, 0, none⟩ : Addr).add y) = some u) := fun y u hu => by
    have hy : y < ng * 6 := by have := (List.getElem?_eq_some_iff.1 hu).1; rw [gL_len] at this; exact this
    have ea : (⟨gg, 0, none⟩ : Addr).add y = ⟨gg, y, none⟩ := by unfold Addr.add; split <;> simp_all
    rw [ea, (bu0.cell (p := ⟨gg, y, none⟩) lgg.2), World.ownsRow.cellAt HOr.out y hy]
    exact hu
   have HONE : Hid (∀ u ∈ gL (fun i => celp P A1 C1 ((gdL root P j).getD i 0)) ng, u.oneCell' = true) := fun u hu => by
    unfold gL at hu
    obtain ⟨y, _, e⟩ := List.mem_map.1 hu
    subst e
    have h6 : y % 6 < 6 := Nat.mod_lt _ (by omega)
    generalize y % 6 = t at h6
    match t, h6 with
    | 0, _ | 1, _ | 2, _ | 3, _ | 4, _ | 5, _ => rfl
   have hlen : (gL (fun i => celp P A1 C1 ((gdL root P j).getD i 0)) ng).length = ng * 6 := gL_len _ _
   have HBr : Hid (Below v8.heap.size v8 wr) := HB.out
   have HBu0 : Hid (Below wr.heap.size wr u0) := bu0
   have hsz0 := bu0.size
   clear HO HB bu0
   go_wp2_with (at_builtin; rw [← HU0.out]; refine wpList_append_all _ (by rfl) _ _ 24 (by rfl) wr.heap.size 30 j0 (.agg #[.string ByteArray.empty, .int .i64 0, .int .i64 0, .int .i64 0, .string ByteArray.empty, .slice none 0 0]) 6 80 Tryz.underlying24 hj0 hy0 hy1 hy2 rfl (by decide) wr.heap.size 2 2 _ (by rfl) HOW.out ⟨gg, 0, none⟩ ng cg (gL (fun i => celp P A1 C1 ((gdL root P j).getD i 0)) ng) (by rfl) hlen HNEW.out HONE.out (by unfold maxLen; omega) (by omega) hsz0 ?_; intro g3 cap3 u1 hown3 hgrow3)
   have hbu1 : Below wr.heap.size wr u1 := HBu0.out.grown hgrow3 HBu0.out.size (fun q hq => by cases hq; exact Nat.le_refl _)
   have HB1 : Hid (Below v1.heap.size v1 u1) := below2 B8.out (below2 HBr.out hbu1)
   have hPA : PiA u1 (some ⟨g3, 0, none⟩) (2 + ng) (gdA root P A1 j) (gdC root P C1 j) (gdP root P j) := fun i hi => by
    have hoc : OwnC u1 wr.heap.size (some ⟨g3, 0, none⟩) (2 + ng) cap3 (celp (gdP root P j) (gdA root P A1 j) (gdC root P C1 j)) := by
     unfold OwnC
     have := gd_cells root P A1 C1 j
     rw [HNG.out] at this
     rw [← this]
     exact hown3
    refine ⟨⟨g3, 0, rfl, fun q hq => by rw [Nat.zero_add]; exact hoc.cell hi hq⟩, ?_⟩
    by_cases h2 : i < 2
    ·unfold gdA gdP
     rw [if_pos h2, if_pos h2]
     exact fun t ht => absurd ht (Nat.not_lt_zero t)
    ·unfold gdA gdP
     rw [if_neg h2, if_neg h2]
     exact ((KA8.out wr HBr.out _ (gd_mem (by rw [HNG.out]; omega))).2).below hbu1
   have hb3 : ∀ i, i < 2 + ng → (gdP root P j i).m ≤ 1048576 ∧ ∀ t, t < (gdP root P j i).m → ((gdP root P j i).S t).size ≤ maxLen := fun i hi => by
    unfold gdP
    by_cases h2 : i < 2
    ·rw [if_pos h2]; exact ⟨by show 0 ≤ _; omega, fun t ht => absurd ht (Nat.not_lt_zero t)⟩
    ·rw [if_neg h2]
     have hm := gd_mem (root := root) (P := P) (n := j) (j := i - 2) (by rw [HNG.out]; omega)
     exact ⟨HM.out _ hm, HL.out _ hm⟩
   have KI : Hid _ := regain_any root (some ⟨g3, 0, none⟩) (2 + ng) cap3 (gdA root P A1 j) (gdC root P C1 j) (gdP root P j) u1 hPA ((KE.out.below KB1.out).below HB1.out) (by omega) (fun i hi => (hb3 i hi).1) (fun i hi => (hb3 i hi).2) (sort_ok _ _ _)
   have hcell1 : ∀ q, q < ng * 6 → u1.cell? ⟨gg, q, none⟩ = (gL (fun i => celp P A1 C1 ((gdL root P j).getD i 0)) ng)[q]? := fun q hq => by
    rw [(hbu1.cell (p := ⟨gg, q, none⟩) lgg.2), World.ownsRow.cellAt HOr.out q hq]
   have HC1 : Hid (∀ q, q < ng * 6 → u1.cell? ⟨gg, q, none⟩ = (gL (fun i => celp P A1 C1 ((gdL root P j).getD i 0)) ng)[q]?) := hcell1
   clear hPA hb3 hown3 hgrow3 hbu1 hcell1 HOr HOW HNEW HONE hlen
   go_wp2_with fail
   refine Calls.mono KI.out ?_
   rintro e u2 ⟨b2, hI⟩
   have hI' : RgA root (2 + (gdL root P j).length) (gdP root P j) e := by rw [HNG.out]; exact hI
   obtain rfl := (rg_good (gd_is root P j) (by omega) HI.out hI').symm
   have HB2 : Hid (Below v1.heap.size v1 u2) := below2 HB1.out b2
   have hft : (ts.toList == ts.toList) = true := by simp
   have hft' := ba_beq ts
   have hfc : (cs == cs) = true := by simp
   have HT := rg_text HI.out
   rcases HT with ⟨hcs, hte⟩ | ⟨hcs, hgl, hrof, hsz⟩
   ·subst hte
    have b0 : (cs == 0) = false := by simpa using hcs
    have b1 : (cs != 0) = true := by simpa using hcs
    have hem : ((⟨#[]⟩ : ByteArray).toList == (⟨#[]⟩ : ByteArray).toList) = true := by simp
    have hem' := ba_beq (⟨#[]⟩ : ByteArray)
    clear hI hI' b2 KI HC1
    go_wp2_with fail
    refine wp_region_quiet_below (by kernel_rfl) (by kernel_rfl) ?_
    repeat (go_big_quiet_step (fail))
    refine wpQuiet_nil ?_
    intro _ hw'
    obtain ⟨⟨dq, osq⟩, hw''⟩ := hw'
    subst hw''
    have HBf : Hid (Below w.heap.size w (grow (redrawn u2 dq) osq)) := below2 KB1.out (below2 HB2.out (below_regrown u2 dq osq))
    go_wp2
    go_ret
    exact ⟨rfl, HBf.out⟩
   ·subst hcs
    obtain ⟨x0, HX0⟩ : ∃ x, Hid ((gdL root P j).getD 0 0 = x) := ⟨_, rfl⟩
    have hgl' : 0 < ng := by rw [← HNG.out]; exact hgl
    have hng0 : (0 : Int) < (ng : Int) := by omega
    have hcl : ∀ q, q < 6 → u2.cell? ⟨gg, q, none⟩ = some (celp P A1 C1 x0 q) := fun q hq => by
     have h5 := HC1.out (0 * 6 + q) (by omega)
     rw [gL_get _ _ _ _ hgl' hq, HX0.out, Nat.zero_mul, Nat.zero_add] at h5
     exact (b2.cell (p := ⟨gg, q, none⟩) (block_lt_of_cell h5)).trans h5
    have y1 : u2.cell? ⟨gg, 1, none⟩ = some (.int .i64 (P x0).k) := hcl 1 (by omega)
    have y2 : u2.cell? ⟨gg, 2, none⟩ = some (.int .i64 (P x0).n) := hcl 2 (by omega)
    rw [HX0.out] at hrof
    have X1 : ∀ d os, (grow (redrawn u2 d) os).cell? ⟨gg, 1, none⟩ = some (.int .i64 (P x0).k) := fun d os => cell_regrown y1 d os
    have X2 : ∀ d os, (grow (redrawn u2 d) os).cell? ⟨gg, 2, none⟩ = some (.int .i64 (P x0).n) := fun d os => cell_regrown y2 d os
    have N1 : ∀ d os, Calls Tryz.prog 17 #[.string ts, .int .i64 (P x0).k, .int .i64 (P x0).n] (grow (redrawn u2 d) os) fun e w' => e = .returned (.string root) ∧ ∃ p : Regrown, w' = grow (redrawn u2 p.d) p.os := fun d os => Calls.regrown_of ((rootOf_any ts (P x0).k (P x0).n (grow (redrawn u2 d) os) (by omega)).mono fun e w' h => ⟨by rw [h.1, hrof], h.2⟩)
    have hrr : (root.toList == root.toList) = true := by simp
    have hrr' := ba_beq root
    clear hI hI' b2 KI HC1 y1 y2 hcl hrof hgl
    go_wp2_with fail
    refine wp_region_quiet_below (by kernel_rfl) (by kernel_rfl) ?_
    repeat (go_big_quiet_step (first | (with_reducible exact N1 _ _)))
    refine wpQuiet_nil ?_
    intro _ hw'
    obtain ⟨⟨dq, osq⟩, hw''⟩ := hw'
    subst hw''
    have HBf : Hid (Below w.heap.size w (grow (redrawn u2 dq) osq)) := below2 KB1.out (below2 HB2.out (below_regrown u2 dq osq))
    go_wp2
    go_ret
    exact ⟨rfl, HBf.out⟩
end Go.Proofs.YtodnodekheaacaaGreatDoor
