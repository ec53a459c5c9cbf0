/- The program's exchange of two rows, the clearing and the counting behind it. Conditions: as the search for a step has them. -/
import Derived.Test.YtojklpahobmleaaMNextA
namespace Go.Proofs.Ytojklpahobmleaa
open Go.ChangeShapes Go.WideShapes Go.ChangeAt Go.RowKit

/-- What stands from region 'n' on. -/
def fromReg (n : Nat) : Code → Option (Code × Code)
  | .seq (.region id ops d) b => if id == n then some (.region id ops d, b) else fromReg n b
  | .seq a b => match fromReg n a with
    | some c => some c
    | none => fromReg n b
  | .block _ c => fromReg n c
  | .scope c => fromReg n c
  | .cond _ a b => match fromReg n a with
    | some c => some c
    | none => fromReg n b
  | _ => none
noncomputable def foundParts : Code × Code := ((Try.f76.body.bind (fromReg 11)).getD (.skip, .skip))
set_option maxRecDepth 100000 in
set_option maxHeartbeats 4000000 in
theorem tail_any (B E G r cap W n Pb Wb Sb Mb : Nat) (A : Nat → Nat → Nat) (k c s p gp Cp gs Cs : Nat) (g C : Nat → Nat) (F : Nat → Nat → Nat) (w wq : World) (Post : Ending → World → Prop) (u4 u6 u7 u8 u9 u10 u11 u12 u13 u14 u15 u16 u17 u18 u19 u20 u21 u22 u23 u24 u25 u26 u27 u28 u29 u30 u31 u32 u33 u34 u35 u36 u37 u38 u39 u40 u41 u42 u43 u44 u45 u46 u47 u48 u49 u50 u51 : Value)
    (KMID : Hid (Mid w wq B E G r cap W n Pb Wb Sb Mb c s g C F)) (KDST : Hid (Dst B E Pb Wb Sb Mb)) (KN : Hid ((g p = gp ∧ C p = Cp) ∧ g s = gs ∧ C s = Cs))
    (KNUM : Hid ((k < c + 1 ∧ c + 1 ≤ n) ∧ (B ≤ w.heap.size ∧ Gm.Byt F) ∧ (s < r ∧ c < W) ∧ (W ≤ 1048576 ∧ r ≤ 1048576) ∧ Gm.rd A r (c + 1) = (Gm.one F s p c, s + 1))) (hpr : p < r)
    (KPOST : Hid (∀ (c1 : Nat) (g' C' : Nat → Nat) (w' : World), k < c1 → c1 ≤ n → BS w' B E G r cap W n Pb Wb Sb Mb A c1 g' C' → Below B w w' → Post (.returned (.bool true)) w')) :
    Code.wp Try.prog foundParts.2 (Exit.noGoto (bodyPost Try.prog Try.f76 Post))
      ⟨#[.pointer (some ⟨Pb, 0, none⟩), .pointer (some ⟨Wb, 0, none⟩), .pointer (some ⟨Sb, 0, none⟩), .pointer (some ⟨Mb, 0, none⟩), u4, .int .i64 (p : Int), u6, u7, u8, u9, u10, u11, u12, u13, u14, u15, u16, u17, u18, u19, u20, u21, u22, u23, u24, u25, u26, u27, u28, u29, u30, u31, u32, u33, u34, u35, u36, u37, u38, u39, u40, u41, u42, u43, u44, u45, u46, u47, u48, u49, u50, u51], []⟩ ((wq.setCell ⟨G, s, none⟩ (.slice (some ⟨gp, 0, none⟩) W Cp)).setCell ⟨G, p, none⟩ (.slice (some ⟨gs, 0, none⟩) W Cs)).drew := by
  have hM := KMID.out.mat
  have hsrr := KNUM.out.2.2.1.1
  have hhs' := hM.hdr hsrr
  have hh' := hM.hdr hpr
  have fp' := hM.ofree p
  have cm' := cell_of_one KMID.out.mm
  have cs' := cell_of_one KMID.out.st
  rw [KN.out.1.1, KN.out.1.2] at hh'
  rw [KN.out.2.1, KN.out.2.2] at hhs'
  have h1 := (hM.out.stored s (.slice (some ⟨gp, 0, none⟩) W Cp)).1
  obtain ⟨v', hy'⟩ : ∃ v', (wq.setCell ⟨G, s, none⟩ (.slice (some ⟨gp, 0, none⟩) W Cp)).cell? ⟨G, p, none⟩ = some v' := by
    rw [h1.cellAt p (by omega)]
    exact ⟨_, List.getElem?_eq_getElem (by rw [h1.1]; omega)⟩
  have fy' : (wq.setCell ⟨G, s, none⟩ (.slice (some ⟨gp, 0, none⟩) W Cp)).frozen? ⟨G, p, none⟩ = false := h1.frozenAt p
  have hGM : Mb ≠ G := fun e => by
    have h1 := hM.oE _ rfl
    have h2 := KDST.out.d4
    simp at h1
    omega
  have cm2 : (wq.setCell ⟨G, s, none⟩ (.slice (some ⟨gp, 0, none⟩) W Cp)).cell? ⟨Mb, 0, none⟩ = some (.slice (some ⟨G, 0, none⟩) r cap) := (grown_set wq G s _).cell cm' (by simp; exact hGM)
  have KEX : Hid _ := KMID.out.exchanged KDST.out hsrr hpr KN.out.1.1 KN.out.1.2 KN.out.2.1 KN.out.2.2
  have hs9 : s + 1 ≤ 2000000 := by have := KNUM.out.2.2.2.1.2; omega
  have hc9 : c + 1 ≤ 2000000 := by have h1 := KNUM.out.2.2.1.2; have h2 := KNUM.out.2.2.2.1.1; omega
  have hsi : (s : Int) < (r : Int) := by omega
  have hpi : (p : Int) < (r : Int) := by omega
  clear hM h1 hGM KMID KN hsrr hpr
  obtain ⟨w3, hw3⟩ : ∃ w3, w3 = ((wq.setCell ⟨G, s, none⟩ (.slice (some ⟨gp, 0, none⟩) W Cp)).setCell ⟨G, p, none⟩ (.slice (some ⟨gs, 0, none⟩) W Cs)).drew := ⟨_, rfl⟩
  rw [← hw3] at KEX ⊢
  clear hw3 hy' fy' cm2 cm' cs' hh' hhs' fp'
  have cp3 := cell_of_one KEX.out.pl
  have cs3 := cell_of_one KEX.out.st
  have cm3 := cell_of_one KEX.out.mm
  conv => arg 2; whnf
  go_wp2_with fail
  refine Calls.mono (clearPlace_any B E G r cap (fun i => g (Gm.sg s p i)) (fun i => C (Gm.sg s p i)) W (Gm.swp s p F) s c w3 KEX.out.mat (Gm.swp_byt KNUM.out.2.1.2) KNUM.out.2.2.1.1 KNUM.out.2.2.1.2 KNUM.out.2.2.2.1.1 KNUM.out.2.2.2.1.2) ?_
  rintro e w5 ⟨rfl, hM5, hC5⟩
  rw [oneIs] at hM5
  have hMd := KEX.out.cleared KDST.out hM5 hC5
  have hDn := hMd.done (s1 := s + 1) (c1 := c + 1) KDST.out KNUM.out.2.2.2.2 KNUM.out.2.1.1
  have cs5 := cell_of_one hMd.st
  have fs5 := free_of_one hMd.st
  clear cp3 cs3 cm3 KEX hM5 hC5 hMd
  obtain ⟨s1, hs1⟩ : ∃ s1, s + 1 = s1 := ⟨_, rfl⟩
  obtain ⟨c1, hc1⟩ : ∃ c1, c + 1 = c1 := ⟨_, rfl⟩
  have ws1 : IntKind.i64.wrap ((s : Int) + 1) = (s1 : Int) := by rw [IntKind.wrap_i64]; omega
  have wc1 : IntKind.i64.wrap ((c : Int) + 1) = (c1 : Int) := by rw [IntKind.wrap_i64]; omega
  have hkc1 : Hid (k < c1 ∧ c1 ≤ n) := by rw [← hc1]; exact KNUM.out.1
  rw [hs1, hc1] at hDn
  clear hs1 hc1 KNUM KDST hs9 hc9
  obtain ⟨cp6, fp6, hBS, hBl⟩ := hDn
  have HB : Hid _ := And.intro hBS hBl
  clear hBS hBl
  go_wp2
  exact KPOST.out c1 _ _ _ hkc1.out.1 hkc1.out.2 HB.out.1 HB.out.2
theorem tail_at {R : Code} (hR : foundParts.2 = R) (B E G r cap W n Pb Wb Sb Mb : Nat) (A : Nat → Nat → Nat) (k c s p gp Cp gs Cs : Nat) (g C : Nat → Nat) (F : Nat → Nat → Nat) (w wq : World) (Post : Ending → World → Prop) (u4 u6 u7 u8 u9 u10 u11 u12 u13 u14 u15 u16 u17 u18 u19 u20 u21 u22 u23 u24 u25 u26 u27 u28 u29 u30 u31 u32 u33 u34 u35 u36 u37 u38 u39 u40 u41 u42 u43 u44 u45 u46 u47 u48 u49 u50 u51 : Value)
    (KMID : Hid (Mid w wq B E G r cap W n Pb Wb Sb Mb c s g C F)) (KDST : Hid (Dst B E Pb Wb Sb Mb)) (KN : Hid ((g p = gp ∧ C p = Cp) ∧ g s = gs ∧ C s = Cs))
    (KNUM : Hid ((k < c + 1 ∧ c + 1 ≤ n) ∧ (B ≤ w.heap.size ∧ Gm.Byt F) ∧ (s < r ∧ c < W) ∧ (W ≤ 1048576 ∧ r ≤ 1048576) ∧ Gm.rd A r (c + 1) = (Gm.one F s p c, s + 1))) (hpr : p < r)
    (KPOST : Hid (∀ (c1 : Nat) (g' C' : Nat → Nat) (w' : World), k < c1 → c1 ≤ n → BS w' B E G r cap W n Pb Wb Sb Mb A c1 g' C' → Below B w w' → Post (.returned (.bool true)) w')) :
    Code.wp Try.prog R (Exit.noGoto (bodyPost Try.prog Try.f76 Post))
      ⟨#[.pointer (some ⟨Pb, 0, none⟩), .pointer (some ⟨Wb, 0, none⟩), .pointer (some ⟨Sb, 0, none⟩), .pointer (some ⟨Mb, 0, none⟩), u4, .int .i64 (p : Int), u6, u7, u8, u9, u10, u11, u12, u13, u14, u15, u16, u17, u18, u19, u20, u21, u22, u23, u24, u25, u26, u27, u28, u29, u30, u31, u32, u33, u34, u35, u36, u37, u38, u39, u40, u41, u42, u43, u44, u45, u46, u47, u48, u49, u50, u51], []⟩ ((wq.setCell ⟨G, s, none⟩ (.slice (some ⟨gp, 0, none⟩) W Cp)).setCell ⟨G, p, none⟩ (.slice (some ⟨gs, 0, none⟩) W Cs)).drew := by
  subst hR
  exact tail_any B E G r cap W n Pb Wb Sb Mb A k c s p gp Cp gs Cs g C F w wq Post u4 u6 u7 u8 u9 u10 u11 u12 u13 u14 u15 u16 u17 u18 u19 u20 u21 u22 u23 u24 u25 u26 u27 u28 u29 u30 u31 u32 u33 u34 u35 u36 u37 u38 u39 u40 u41 u42 u43 u44 u45 u46 u47 u48 u49 u50 u51 KMID KDST KN KNUM hpr KPOST
end Go.Proofs.Ytojklpahobmleaa
