import Derived.Test.YtodnodekheaacaaGreatDoorI28
import Derived.Deep.CutRange
import Derived.Test.YtodnodekheaacaaGreatDoorShelf
import Derived.Test.YtodnodekheaacaaGreatDoorI27
import Derived.Test.YtodnodekheaacaaGreatDoorI7
set_option maxHeartbeats 8000000
set_option maxRecDepth 2000
open Go.ChangeShapes Go.WideShapes Go.ChangeAt Go.RowKit
namespace Go.Proofs.YtodnodekheaacaaGreatDoor
theorem OwnC.snoc {w3 : World} {B g3 cap3 : Nat} {P : Nat → Pc} {A : Nat → Option Addr} {C : Nat → Nat} {L : List Nat} {c : Nat} (h3 : w3.ownsRow B 30 6 (.slice (some ⟨g3, 0, none⟩) (L.length + 1) cap3) (L.length + 1) (gL (fun j => celp P A C (L.getD j 0)) L.length ++ [.string (P c).r, .int .i64 (P c).k, .int .i64 (P c).n, .int .i64 (P c).i, .string (P c).b, .slice (A c) (P c).m (C c)])) :
  OwnC w3 B (some ⟨g3, 0, none⟩) (L ++ [c]).length cap3 (fun j => celp P A C ((L ++ [c]).getD j 0)) := by
 unfold OwnC
 have hl : (L ++ [c]).length = L.length + 1 := by simp
 rw [hl, gL_snoc, gL_congr (c' := fun j => celp P A C (L.getD j 0)) (fun i q hi _ => by simp [List.getElem?_append, hi])]
 have e : ((L ++ [c]).getD L.length 0) = c := by simp
 rw [e]
 exact h3
noncomputable def enK (root : ByteArray) (n : Nat) (P : Nat → Pc) : Int := (P ((gsel root P n).getD 0 0)).k
noncomputable def enB (root : ByteArray) (n : Nat) (P : Nat → Pc) : Bool := decide (n ≤ 64) && decide (gsel root P n ≠ []) && decide (enK root n P ≤ ((gsel root P n).length : Int))
theorem gsel_same {root : ByteArray} {P : Nat → Pc} {n : Nat} : ∀ x ∈ gsel root P n, (P x).k = (P ((gsel root P n).getD 0 0)).k := by
 induction n with
 | zero => intro x hx; cases hx
 | succ c ih =>
  intro x hx
  by_cases hp : (P c).r = root ∧ gwB (P c).k (P c).n (P c).i (gsel root P c).length (fun j => P ((gsel root P c).getD j 0)) = true ∧ pok P c = true
  ·rw [gsel_yes hp] at hx ⊢
   cases hL : gsel root P c with
   | nil =>
    rw [hL] at hx
    obtain rfl : x = c := by simpa using hx
    simp
   | cons y ys =>
    rw [hL] at hx ih hp
    have e0 : ((y :: ys ++ [c]).getD 0 0) = y := rfl
    rw [e0]
    rcases List.mem_append.1 hx with h | h
    ·exact ih x h
    ·obtain rfl : x = c := by simpa using h
     have h2 : GwP (P x).k (P x).n (P x).i (y :: ys).length (fun j => P ((y :: ys).getD j 0)) := by
      have := hp.2.1
      unfold gwB at this
      simpa using this
     exact (h2 0 (by simp)).1
  ·rw [gsel_no hp] at hx ⊢
   exact ih x hx
def SortOk (P : Nat → Pc) (A : Nat → Option Addr) (C : Nat → Nat) : Prop := ∀ (B g cc : Nat) (L : List Nat) (W : World), OwnC W B (some ⟨g, 0, none⟩) L.length cc (fun j => celp P A C (L.getD j 0)) → B ≤ W.heap.size → L.length ≤ 64 → (∀ x ∈ L, 0 ≤ (P x).i ∧ (P x).i ≤ 16) →
    Calls Tryz.prog 57 #[.slice (some ⟨g, 0, none⟩) L.length cc, .func (.func 58) #[] #[]] W fun e w' => e = .returned (.tuple #[]) ∧ Below B W w' ∧ ∃ L' : List Nat, L'.Perm L ∧ (∀ x y, x < y → y < L'.length → (P (L'.getD x 0)).i ≤ (P (L'.getD y 0)).i) ∧ OwnC w' B (some ⟨g, 0, none⟩) L'.length cc (fun j => celp P A C (L'.getD j 0))
theorem enough_any (root : ByteArray) (a : Option Addr) (n cap : Nat) (A : Nat → Option Addr) (C : Nat → Nat) (P : Nat → Pc) (w : World) (h : PiA w a n A C P) (hn : n ≤ 1048576) (hm : ∀ i, i < n → (P i).m ≤ 1048576) (hL : ∀ i, i < n → ∀ j, j < (P i).m → ((P i).S j).size ≤ maxLen) (hsort : SortOk P A C) :
  Calls Tryz.prog 26 #[.string root, .slice a n cap] w fun e w' => Below w.heap.size w w' ∧ ((enB root n P = false ∧ e = .panicked (failC 1)) ∨ (enB root n P = true ∧ ∃ (g cc : Nat) (L : List Nat), e = .returned (.slice (some ⟨g, 0, none⟩) (enK root n P).toNat cc) ∧ L.Perm (gsel root P n) ∧ (∀ x y, x < y → y < L.length → (P (L.getD x 0)).i ≤ (P (L.getD y 0)).i) ∧ (enK root n P).toNat ≤ cc ∧ OwnC w' w.heap.size (some ⟨g, 0, none⟩) L.length cc (fun j => celp P A C (L.getD j 0)))) := by
 by_cases h64 : 64 < n
 ·have KN : Hid (Calls Tryz.prog 30 #[.bool false, .int .i64 1] w fun e w' => e = .panicked (failC 1) ∧ w' = w) := need_no 1 w
  have hle : ¬ ((n : Int) ≤ 64) := by omega
  clear h hL hsort
  go_enter Tryz.func26, Tryz.ntmps26
  go_wp2_with fail
  refine Calls.mono KN.out ?_
  rintro e w' ⟨rfl, rfl⟩
  go_wp2
  have hf : enB root n P = false := by unfold enB; simp; omega
  simp [bodyPost, hf]
  exact Below.refl _ _
 obtain ⟨i0, hi0, hz0, hz1, hz2⟩ := info_parts Tryz.infoPc3
 have hle : (n : Int) ≤ 64 := by omega
 have KH : Hid (PiA w a n A C P) := h
 have HM : Hid (∀ i, i < n → (P i).m ≤ 1048576) := hm
 have HLn : Hid (∀ i, i < n → ∀ j, j < (P i).m → ((P i).S j).size ≤ maxLen) := hL
 have K0 : Hid (OwnC (w.alloc (.cells #[] 30)) w.heap.size (some ⟨w.heap.size, 0, none⟩) 0 0 (fun j => celp P A C (([] : List Nat).getD j 0)) ∧ Below w.heap.size w (w.alloc (.cells #[] 30))) := ⟨World.ownsRow_lit w #[] 0 (Nat.le_refl _) (by unfold maxLen; omega) rfl, (Below.refl _ _).alloc (Nat.le_refl _) _⟩
 have HSO : Hid (SortOk P A C) := hsort
 clear h hm hL hsort
 go_enter Tryz.func26, Tryz.ntmps26
 go_wp2_with fail
 refine Calls.mono (need_ok 1 w) ?_
 rintro e w' ⟨rfl, hw⟩
 obtain rfl := hw.symm
 clear hw
 go_wp2
 go_loopw [5, 15] (fun v vi wr => ∃ c g cc : Nat, c ≤ n ∧ vi = .int .i64 (c : Int) ∧ v = .slice (some ⟨g, 0, none⟩) (gsel root P c).length cc ∧ OwnC wr w.heap.size (some ⟨g, 0, none⟩) (gsel root P c).length cc (fun j => celp P A C ((gsel root P c).getD j 0)) ∧ Below w.heap.size w wr) (fun _ vi _ => n - (intOf vi).toNat)
 case atStart => exact ⟨0, w.heap.size, 0, Nat.zero_le _, rfl, rfl, K0.out.1, K0.out.2⟩
 case round =>
  obtain ⟨c, g, cc, hcn, rfl, rfl, ho, hbel⟩ := hrel
  clear K0
  have KO : Hid (OwnC wr w.heap.size (some ⟨g, 0, none⟩) (gsel root P c).length cc (fun j => celp P A C ((gsel root P c).getD j 0)) ∧ Below w.heap.size w wr) := ⟨ho, hbel⟩
  clear ho hbel
  by_cases hlt : c < n
  ·have hci : (c : Int) < (n : Int) := by omega
   have hsl := gsel_len root P c
   obtain ⟨⟨b1, f1, rfl, hx⟩, ht⟩ := (KH.out.below KO.out.2) c hlt
   have lg := World.ownsRow.lt KO.out.1 g rfl
   have hsz := KO.out.2.size
   have HY : Hid (((P c).r = root ∧ gwB (P c).k (P c).n (P c).i (gsel root P c).length (fun j => P ((gsel root P c).getD j 0)) = true ∧ pok P c = true → gsel root P (c + 1) = gsel root P c ++ [c]) ∧ (¬ ((P c).r = root ∧ gwB (P c).k (P c).n (P c).i (gsel root P c).length (fun j => P ((gsel root P c).getD j 0)) = true ∧ pok P c = true) → gsel root P (c + 1) = gsel root P c)) := ⟨gsel_yes, gsel_no⟩
   generalize HLd : gsel root P c = L at KO hsl HY ⊢
   have HG : Hid (∀ W, Below wr.heap.size wr W → ∀ (v : Value), Calls Tryz.prog 55 #[pcV (P c).r (P c).k (P c).n (P c).i (P c).b v, .slice (some ⟨g, 0, none⟩) L.length cc] W fun e w' => e = .returned (.bool (gwB (P c).k (P c).n (P c).i L.length (fun j => P (L.getD j 0)))) ∧ Below W.heap.size W w') := fun W hW v => goesWith_any (P c).r (P c).k (P c).n (P c).i (P c).b v g L.length cc (fun j => P (L.getD j 0)) (fun j => A (L.getD j 0)) (fun j => C (L.getD j 0)) W (fun j q hj hq => (KO.out.1.below hW).cell hj hq) (by omega)
   have HK : Hid (∀ W, Below wr.heap.size wr W → Calls Tryz.prog 56 #[pcV (P c).r (P c).k (P c).n (P c).i (P c).b (.slice (A c) (P c).m (C c))] W fun e w' => e = .returned (.bool (pok P c)) ∧ Below W.heap.size W w') := fun W hW => pieceOk_any (P c).r (P c).k (P c).n (P c).i (P c).b (A c) (P c).m (C c) (P c).S W (ht.below hW) (HM.out c hlt) (HLn.out c hlt)
   have HSN : Hid (∀ (w3 : World) (g3 cap3 : Nat), w3.ownsRow w.heap.size 30 6 (.slice (some ⟨g3, 0, none⟩) (L.length + 1) cap3) (L.length + 1) (gL (fun j => celp P A C (L.getD j 0)) L.length ++ [.string (P c).r, .int .i64 (P c).k, .int .i64 (P c).n, .int .i64 (P c).i, .string (P c).b, .slice (A c) (P c).m (C c)]) → OwnC w3 w.heap.size (some ⟨g3, 0, none⟩) (L ++ [c]).length cap3 (fun j => celp P A C ((L ++ [c]).getD j 0))) := fun w3 g3 cap3 h => OwnC.snoc h
   clear HLd
   generalize gwB (P c).k (P c).n (P c).i L.length (fun j => P (L.getD j 0)) = gwb at HG HY
   generalize pok P c = okb at HK HY
   have x0 := hx 0 (by omega)
   have x1 := hx 1 (by omega)
   have x2 := hx 2 (by omega)
   have x3 := hx 3 (by omega)
   have x4 := hx 4 (by omega)
   have x5 := hx 5 (by omega)
   simp only [cel, Nat.add_zero, ← Nat.add_assoc] at x0 x1 x2 x3 x4 x5
   clear hx ht
   generalize (P c).r = rc at *
   generalize (P c).k = kc at *
   generalize (P c).n = nc at *
   generalize (P c).i = ic at *
   generalize (P c).b = bc at *
   generalize (P c).m = mc at *
   generalize A c = ac at *
   generalize C c = cc' at *
   obtain ⟨D, HD⟩ : ∃ x, Hid (x = wr.heap.size) := ⟨_, rfl⟩
   obtain ⟨w1, HW1⟩ : ∃ x, Hid (x = wr.alloc (.cells (pcC rc kc nc ic bc (.slice ac mc cc')) 30)) := ⟨_, rfl⟩
   have HR1 : Hid (Row w1 D 30 (pcC rc kc nc ic bc (.slice ac mc cc'))) := by show Row _ _ _ _; rw [HW1.out, HD.out]; exact Row.new wr _ _
   have B1 : Hid (Below wr.heap.size wr w1) := by show Below _ _ _; rw [HW1.out]; exact (Below.refl _ _).alloc (Nat.le_refl _) _
   have lD1 := HR1.out.lt
   have HB1 : Hid (Below w.heap.size w w1) := below2 KO.out.2 B1.out
   have q0 := HR1.out.cell 0
   have q1 := HR1.out.cell 1
   have q2 := HR1.out.cell 2
   have q3 := HR1.out.cell 3
   have q4 := HR1.out.cell 4
   have q5 := HR1.out.cell 5
   simp at q0 q1 q2 q3 q4 q5
   by_cases hr : rc = root
   case neg =>
    have nr : (rc.toList == root.toList) = false := ba_ne hr
    have HE : Hid (gsel root P (c + 1) = L) := HY.out.2 (fun h => hr h.1)
    have HO : Hid (OwnC w1 w.heap.size (some ⟨g, 0, none⟩) L.length cc (fun j => celp P A C (L.getD j 0))) := KO.out.1.below B1.out
    clear q0 q1 q2 q3 q4 q5
    go_wp2
    go_roundw
    case rel => exact ⟨c + 1, g, cc, by omega, by go_num, by rw [HE.out], by rw [HE.out, ← HW1.out]; exact HO.out, by rw [← HW1.out]; exact HB1.out⟩
    case measure => simp [intOf]; omega
   subst hr
   have nr := ba_beq rc
   go_wp2_with fail
   rw [← HW1.out, ← HD.out]
   clear x0 x1 x2 x3 x4 x5
   refine Calls.mono (HG.out _ B1.out _) ?_
   rintro e w2 ⟨rfl, b2⟩
   have HR2 : Hid (Row w2 D 30 (pcC rc kc nc ic bc (.slice ac mc cc'))) := HR1.out.below b2 lD1
   have HB2 : Hid (Below w.heap.size w w2) := below2 HB1.out b2
   have B2 : Hid (Below wr.heap.size wr w2) := below2 B1.out b2
   have y0 := HR2.out.cell 0
   have y1 := HR2.out.cell 1
   have y2 := HR2.out.cell 2
   have y3 := HR2.out.cell 3
   have y4 := HR2.out.cell 4
   have y5 := HR2.out.cell 5
   simp at y0 y1 y2 y3 y4 y5
   clear b2 q0 q1 q2 q3 q4 q5 HG
   cases gwb with
   | false =>
    have HE : Hid (gsel rc P (c + 1) = L) := HY.out.2 (fun h => by cases h.2.1)
    have HO : Hid (OwnC w2 w.heap.size (some ⟨g, 0, none⟩) L.length cc (fun j => celp P A C (L.getD j 0))) := KO.out.1.below B2.out
    clear y0 y1 y2 y3 y4 y5
    go_wp2
    go_roundw
    case rel => exact ⟨c + 1, g, cc, by omega, by go_num, by rw [HE.out], by rw [HE.out]; exact HO.out, HB2.out⟩
    case measure => simp [intOf]; omega
   | true =>
    go_wp2_with fail
    refine Calls.mono (HK.out _ B2.out) ?_
    rintro e w3 ⟨rfl, b3⟩
    have HR3 : Hid (Row w3 D 30 (pcC rc kc nc ic bc (.slice ac mc cc'))) := HR2.out.below b3 HR2.out.lt
    have HB3 : Hid (Below w.heap.size w w3) := below2 HB2.out b3
    have HO : Hid (OwnC w3 w.heap.size (some ⟨g, 0, none⟩) L.length cc (fun j => celp P A C (L.getD j 0))) := KO.out.1.below (below2 B2.out b3)
    have z0 := HR3.out.cell 0
    have z1 := HR3.out.cell 1
    have z2 := HR3.out.cell 2
    have z3 := HR3.out.cell 3
    have z4 := HR3.out.cell 4
    have z5 := HR3.out.cell 5
    simp at z0 z1 z2 z3 z4 z5
    have hs3 := HB3.out.size
    clear b3 y0 y1 y2 y3 y4 y5 HK
    cases okb with
    | false =>
     have HE : Hid (gsel rc P (c + 1) = L) := HY.out.2 (fun h => by cases h.2.2)
     clear z0 z1 z2 z3 z4 z5
     go_wp2
     go_roundw
     case rel => exact ⟨c + 1, g, cc, by omega, by go_num, by rw [HE.out], by rw [HE.out]; exact HO.out, HB3.out⟩
     case measure => simp [intOf]; omega
    | true =>
     have HE : Hid (gsel rc P (c + 1) = L ++ [c]) := HY.out.1 (by simp)
     have hll : (L ++ [c]).length = L.length + 1 := by simp
     go_wp2_with (at_builtin; refine wpList_append_all _ (by rfl) _ _ 24 (by rfl) w.heap.size 30 i0 (.agg #[.string ByteArray.empty, .int .i64 0, .int .i64 0, .int .i64 0, .string ByteArray.empty, .slice none 0 0]) 6 80 Tryz.underlying24 hi0 hz0 hz1 hz2 rfl (by decide) g L.length cc _ (by rfl) (World.ownsRow.alloc HO.out _) ⟨w3.heap.size, 0, none⟩ 1 1 [.string rc, .int .i64 kc, .int .i64 nc, .int .i64 ic, .string bc, .slice ac mc cc'] (by rfl) (by rfl) (World.news_of_block (cs := #[.string rc, .int .i64 kc, .int .i64 nc, .int .i64 ic, .string bc, .slice ac mc cc']) (t := 30) (fr := (0, 0)) (heap_alloc_new w3 _)) (by simp [Value.oneCell']) (by unfold maxLen; omega) (by omega) (by simp; omega) ?_; intro g3 cap3 w7 hown3 hgrow3)
     have HN : Hid (OwnC w7 w.heap.size (some ⟨g3, 0, none⟩) (L ++ [c]).length cap3 (fun j => celp P A C ((L ++ [c]).getD j 0)) ∧ Below w.heap.size w w7) := ⟨HSN.out _ _ _ hown3, (HB3.out.alloc hs3 _).grown (show World.grownBy _ w7 (some g) from hgrow3) (by simp; omega) (fun j hj => by cases hj; exact lg.1)⟩
     clear hown3 hgrow3 HO z0 z1 z2 z3 z4 z5
     go_roundw
     case rel => exact ⟨c + 1, g3, cap3, by omega, by go_num, by rw [HE.out, hll], by rw [HE.out]; exact HN.out.1, HN.out.2⟩
     case measure => simp [intOf]; omega
  ·obtain rfl : c = n := by omega
   have hsl := gsel_len root P c
   have HLs : Hid (∀ x ∈ gsel root P c, x < c ∧ (P x).r = root ∧ pok P x = true) := fun x hx => gsel_mem hx
   generalize HLd : gsel root P c = L at KO hsl HLs ⊢
   have HLD : Hid (gsel root P c = L) := HLd
   clear HLd hi0 hz0 hz1 hz2
   cases L with
   | nil =>
    go_wp2_with fail
    refine Calls.mono (need_no 1 _) ?_
    rintro e w' ⟨rfl, hw⟩
    obtain rfl := hw.symm
    have hf : enB root c P = false := by unfold enB; rw [HLD.out]; simp
    have hb := KO.out.2
    clear hw KO
    go_wp2
    simp [bodyPost, hf]
    exact hb
   | cons x0 L' =>
    have hlen : (x0 :: L').length = L'.length + 1 := rfl
    have hc1 := KO.out.1.cell (i := 0) (q := 1) (by rw [hlen]; omega) (by omega)
    simp [cel] at hc1
    have HX0 : Hid (enK root c P = (P x0).k) := by show _ = _; unfold enK; rw [HLD.out]; rfl
    have HLE : Hid ((gsel root P c).length = L'.length + 1) := by rw [HLD.out]; exact hlen
    have HNE : Hid (gsel root P c ≠ []) := fun e => by rw [HLD.out] at e; cases e
    have HK1 : Hid (1 ≤ (P x0).k) := by
     have := (HLs.out x0 (by simp)).2.2
     by_cases hk : kOk (P x0).k (P x0).n (P x0).b
     ·exact hk.1
     ·unfold pok at this; rw [okP_no hk] at this; cases this
    have HII : Hid (∀ x ∈ x0 :: L', 0 ≤ (P x).i ∧ (P x).i ≤ 16) := fun x hx => by
     have := (HLs.out x hx).2.2
     unfold pok at this
     by_cases hk : kOk (P x).k (P x).n (P x).b
     ·rw [okP_yes hk] at this
      have h2 := pvB_parts this
      have h3 := hk.2.2.1
      omega
     ·rw [okP_no hk] at this; cases this
    have HSK : Hid (∀ x ∈ x0 :: L', (P x).k = (P x0).k) := fun x hx => by
     have := gsel_same (root := root) (P := P) (n := c)
     rw [HLD.out] at this
     exact this x hx
    have HSC : Hid (Calls Tryz.prog 57 #[.slice (some ⟨g, 0, none⟩) (x0 :: L').length cc, .func (.func 58) #[] #[]] wr fun e w' => e = .returned (.tuple #[]) ∧ Below w.heap.size wr w' ∧ ∃ M : List Nat, M.Perm (x0 :: L') ∧ (∀ x y, x < y → y < M.length → (P (M.getD x 0)).i ≤ (P (M.getD y 0)).i) ∧ OwnC w' w.heap.size (some ⟨g, 0, none⟩) M.length cc (fun j => celp P A C (M.getD j 0))) := HSO.out w.heap.size g cc (x0 :: L') wr KO.out.1 KO.out.2.size (by rw [hlen] at hsl ⊢; omega) HII.out
    have HKO : Hid (OwnC wr w.heap.size (some ⟨g, 0, none⟩) (x0 :: L').length cc (fun j => celp P A C ((x0 :: L').getD j 0)) ∧ Below w.heap.size w wr) := KO.out
    clear KO
    rw [hlen] at hsl HSC ⊢
    obtain ⟨l, hl⟩ : ∃ l, L'.length + 1 = l := ⟨_, rfl⟩
    rw [hl] at hsl HSC HLE ⊢
    have l0 : (0 : Int) < (l : Int) := by omega
    obtain ⟨K, HKd⟩ : ∃ K, Hid ((P x0).k = K) := ⟨_, rfl⟩
    rw [HKd.out] at hc1
    by_cases hK : K ≤ (l : Int)
    ·go_wp2_with fail
     refine Calls.mono (need_ok 1 _) ?_
     rintro e w' ⟨rfl, hw⟩
     obtain rfl := hw.symm
     clear hw
     have hbw := HKO.out.2
     have hyes : Hid (enB root c P = true) := by show _ = _; unfold enB; rw [HX0.out, HLE.out, HKd.out]; simp [HNE.out, hK]; omega
     clear hc1
     go_wp2_with fail
     refine Calls.mono HSC.out ?_
     rintro e w2 ⟨rfl, b2, M, hM, hMs, hMo⟩
     have hMl : M.length = l := by rw [hM.length_eq, hlen, hl]
     obtain ⟨kn, HKN⟩ : ∃ kn : Nat, Hid (K = (kn : Int)) := ⟨K.toNat, by have := HK1.out; rw [HKd.out] at this; show _ = _; omega⟩
     have hk1 : 1 ≤ kn ∧ kn ≤ l := by have := HK1.out; rw [HKd.out, HKN.out] at this; rw [HKN.out] at hK; omega
     have hall : ∀ x ∈ M, (P x).k = K := fun x hx => by rw [← HKd.out]; exact HSK.out x (hM.mem_iff.1 hx)
     have hMc := hMo.cell (i := 0) (q := 1) (by rw [hMl]; omega) (by omega)
     have hM0 : (P (M.getD 0 0)).k = (kn : Int) := by
      rw [← HKN.out]
      apply hall
      cases M with
      | nil => simp at hMl; omega
      | cons y ys => simp
     have hc2 : w2.cell? ⟨g, 1, none⟩ = some (.int .i64 (kn : Int)) := by rw [← hM0]; exact hMc
     have hcap : l ≤ cc := by
      rcases hMo.2 with ⟨e, _⟩ | ⟨g', c', cu, e, _, _, hn', _⟩
      ·cases e
      ·cases e; rw [← hMl]; exact hn'
     have HF : Hid (Below w.heap.size w w2 ∧ (enK root c P).toNat = kn ∧ M.Perm (gsel root P c) ∧ (∀ x y, x < y → y < M.length → (P (M.getD x 0)).i ≤ (P (M.getD y 0)).i) ∧ OwnC w2 w.heap.size (some ⟨g, 0, none⟩) M.length cc (fun j => celp P A C (M.getD j 0))) := ⟨hbw.trans b2, by rw [HX0.out, HKd.out, HKN.out]; simp, by rw [HLD.out]; exact hM, hMs, hMo⟩
     have hki : (kn : Int) ≤ (l : Int) := by omega
     have hkc : (kn : Int) ≤ (cc : Int) := by omega
     have hk0 : (0 : Int) ≤ (kn : Int) := by omega
     clear b2 hM hMs hMo hMc hM0 hall hbw HSC
     go_wp2
     go_ret
     exact ⟨HF.out.1, .inr ⟨hyes.out, g, cc, M, by rw [HF.out.2.1]; rfl, HF.out.2.2.1, HF.out.2.2.2.1, by rw [HF.out.2.1]; omega, HF.out.2.2.2.2⟩⟩
    ·go_wp2_with fail
     refine Calls.mono (need_no 1 _) ?_
     rintro e w' ⟨rfl, hw⟩
     obtain rfl := hw.symm
     have hf : enB root c P = false := by unfold enB; rw [HX0.out, HLE.out, HKd.out]; simp [hK]
     have hb := HKO.out.2
     clear hw
     go_wp2
     simp [bodyPost, hf]
     exact hb
theorem Tryz.infoI3 : (Tryz.prog.info? 3).map (fun i => (i.zero, i.size, i.bytes)) = some (some (.int .i64 0), 1, 8) := by kernel_rfl
theorem makeI (c : Nat) (hc : c ≤ 64) (W : World) : (Instr.makeSlice 25 (.int .i64 (c : Int)) (.int .i64 (c : Int))).run Tryz.prog W = .ok (.slice (some ⟨W.heap.size, 0, none⟩) c c) (W.alloc (.cells (madeCells #[.int .i64 0] (c * 1)) 3)) := by
 obtain ⟨i0, hi, hz0, hz1, hz2⟩ := info_parts Tryz.infoI3
 have hr := run_make (P := Tryz.prog) W 25 3 i0 (.int .i64 0) Tryz.underlying25 hi hz0 .i64 .i64 c c (by omega) (Int.le_refl _) (by rw [hz2]; omega) (by omega)
 simp only [Int.toNat_natCast, hz1] at hr
 exact hr
theorem makeS (c : Nat) (hc : c ≤ 64) (W : World) : (Instr.makeSlice 28 (.int .i64 (c : Int)) (.int .i64 (c : Int))).run Tryz.prog W = .ok (.slice (some ⟨W.heap.size, 0, none⟩) c c) (W.alloc (.cells (madeCells #[.string ByteArray.empty] (c * 1)) 9)) := by
 obtain ⟨i0, hi, hz0, hz1, hz2⟩ := info_parts Tryz.infoStr
 have hr := run_make (P := Tryz.prog) W 28 9 i0 (.string ByteArray.empty) Tryz.underlying28 hi hz0 .i64 .i64 c c (by omega) (Int.le_refl _) (by rw [hz2]; omega) (by omega)
 simp only [Int.toNat_natCast, hz1] at hr
 exact hr
def zL (f : Nat → Int) (n : Nat) : List Value := (List.range n).map fun i => Value.int .i64 (f i)
theorem zL_len (f : Nat → Int) (n : Nat) : (zL f n).length = n := by simp [zL]
theorem zL_get (f : Nat → Int) (n i : Nat) (h : i < n) : (zL f n)[i]? = some (Value.int .i64 (f i)) := by simp [zL, h]
theorem zL_congr {f f' : Nat → Int} {n : Nat} (h : ∀ i, i < n → f i = f' i) : zL f n = zL f' n := by
 unfold zL
 refine List.map_congr_left fun i hi => ?_
 rw [h i (by simpa using hi)]
theorem zL_set (f : Nat → Int) (n k : Nat) (x : Int) (h : k < n) : (zL f n).set k (.int .i64 x) = zL (fun i => if i = k then x else f i) n := by
 apply List.ext_getElem?
 intro j
 rw [List.getElem?_set]
 by_cases hj : j < n
 ·by_cases e : k = j
  ·subst e
   rw [if_pos rfl, if_pos (by rw [zL_len]; exact h), zL_get _ _ _ h]
   simp
  ·rw [if_neg e, zL_get _ _ _ hj, zL_get _ _ _ hj, if_neg (Ne.symm e)]
 ·rw [List.getElem?_eq_none (l := zL _ n) (by rw [zL_len]; omega)]
  rw [List.getElem?_eq_none (l := zL (fun i => if i = k then x else f i) n) (by rw [zL_len]; omega)]
  repeat' split
  all_goals first | rfl | (exfalso; simp only [zL_len] at *; omega)
def LoI (w : World) (B g1 g2 c j : Nat) (Q : Nat → Pc) : Prop := w.ownsRow B 3 1 (.slice (some ⟨g1, 0, none⟩) c c) c (zL (fun x => if x < j then (Q x).i else 0) c) ∧ OwnT w B (some ⟨g2, 0, none⟩) c c (fun x => if x < j then (Q x).b else ByteArray.empty) ∧ g1 ≠ g2
theorem zeroI (Q : Nat → Pc) (c : Nat) : (madeCells #[.int .i64 0] c).toList = zL (fun x => if x < 0 then (Q x).i else 0) c := by
 rw [toList_madeCells_one]
 apply List.ext_getElem?
 intro j
 by_cases hj : j < c
 ·rw [zL_get _ _ _ hj]; simp [hj]
 ·rw [List.getElem?_eq_none (by simp; omega), List.getElem?_eq_none (by rw [zL_len]; omega)]
theorem zeroS (Q : Nat → Pc) (c : Nat) : (madeCells #[.string ByteArray.empty] c).toList = sL (fun x => if x < 0 then (Q x).b else ByteArray.empty) c := by
 rw [toList_madeCells_one, ← sL_empty]
 exact sL_congr fun i _ => by simp
theorem LoI.first (w : World) (c : Nat) (Q : Nat → Pc) (hc : c ≤ 64) : LoI ((w.alloc (.cells (madeCells #[.int .i64 0] c) 3)).alloc (.cells (madeCells #[.string ByteArray.empty] c) 9)) w.heap.size w.heap.size (w.heap.size + 1) c 0 Q := by
 refine ⟨?_, ?_, by omega⟩
 ·have := World.ownsRow_lit (e := 3) (size := 1) w (madeCells #[.int .i64 0] c) c (Nat.le_refl _) (by unfold maxLen; omega) (by rw [size_madeCells]; omega)
  rw [zeroI Q] at this
  exact World.ownsRow.alloc this _
 ·have := World.ownsRow_lit (e := 9) (size := 1) (base := w.heap.size) (w.alloc (.cells (madeCells #[.int .i64 0] c) 3)) (madeCells #[.string ByteArray.empty] c) c (by simp) (by unfold maxLen; omega) (by rw [size_madeCells]; omega)
  rw [zeroS Q] at this
  unfold OwnT
  simpa using this
theorem LoI.second (w : World) (c : Nat) (Q : Nat → Pc) (hc : c ≤ 64) : LoI ((w.alloc (.cells (madeCells #[.string ByteArray.empty] c) 9)).alloc (.cells (madeCells #[.int .i64 0] c) 3)) w.heap.size (w.heap.size + 1) w.heap.size c 0 Q := by
 refine ⟨?_, ?_, by omega⟩
 ·have := World.ownsRow_lit (e := 3) (size := 1) (base := w.heap.size) (w.alloc (.cells (madeCells #[.string ByteArray.empty] c) 9)) (madeCells #[.int .i64 0] c) c (by simp) (by unfold maxLen; omega) (by rw [size_madeCells]; omega)
  rw [zeroI Q] at this
  simpa using this
 ·have := World.ownsRow_lit (e := 9) (size := 1) w (madeCells #[.string ByteArray.empty] c) c (Nat.le_refl _) (by unfold maxLen; omega) (by rw [size_madeCells]; omega)
  rw [zeroS Q] at this
  exact World.ownsRow.alloc this _
theorem LoI.lt {w : World} {B g1 g2 c j : Nat} {Q : Nat → Pc} (h : LoI w B g1 g2 c j Q) : (B ≤ g1 ∧ g1 < w.heap.size) ∧ (B ≤ g2 ∧ g2 < w.heap.size) := ⟨World.ownsRow.lt h.1 _ rfl, World.ownsRow.lt h.2.1 _ rfl⟩
theorem LoI.alloc {w : World} {B g1 g2 c j : Nat} {Q : Nat → Pc} (h : LoI w B g1 g2 c j Q) (o : Obj) : LoI (w.alloc o) B g1 g2 c j Q := ⟨World.ownsRow.alloc h.1 o, World.ownsRow.alloc h.2.1 o, h.2.2⟩
theorem LoI.cell1 {w : World} {B g1 g2 c j : Nat} {Q : Nat → Pc} (h : LoI w B g1 g2 c j Q) {x : Nat} (hx : x < c) : w.cell? ⟨g1, x, none⟩ = some (.int .i64 (if x < j then (Q x).i else 0)) := by
 rw [World.ownsRow.cellAt h.1 x (by omega), zL_get _ _ _ hx]
theorem LoI.cell2 {w : World} {B g1 g2 c j : Nat} {Q : Nat → Pc} (h : LoI w B g1 g2 c j Q) {x : Nat} (hx : x < c) : w.cell? ⟨g2, x, none⟩ = some (.string (if x < j then (Q x).b else ByteArray.empty)) := by
 rw [World.ownsRow.cellAt h.2.1 x (by omega), sL_get _ _ _ hx]
theorem LoI.set12 {w : World} {B g1 g2 c j : Nat} {Q : Nat → Pc} (h : LoI w B g1 g2 c j Q) (hj : j < c) : LoI ((w.setCell ⟨g1, j, none⟩ (.int .i64 (Q j).i)).setCell ⟨g2, j, none⟩ (.string (Q j).b)) B g1 g2 c (j + 1) Q := by
 have s1 := World.ownsRow.stored h.1 j (.int .i64 (Q j).i)
 have k2 := World.ownsRow.kept h.2.1 s1.2 (.inr (by intro e; exact h.2.2 (by simpa [Value.ownBlock] using e.symm)))
 have s2 := World.ownsRow.stored k2 j (.string (Q j).b)
 have k1 := World.ownsRow.kept s1.1 s2.2 (.inr (by intro e; exact h.2.2 (by simpa [Value.ownBlock] using e)))
 refine ⟨?_, ?_, h.2.2⟩
 ·rw [zL_set _ _ _ _ hj] at k1
  rw [zL_congr (f' := fun x => if x < j + 1 then (Q x).i else 0) (fun i _ => by
   by_cases e : i = j
   ·simp [e]
   ·by_cases e2 : i < j
    ·simp [e, e2, show i < j + 1 by omega]
    ·simp [e, e2, show ¬ i < j + 1 by omega])] at k1
  exact k1
 ·have k3 := s2.1
  rw [sL_set _ _ _ _ hj] at k3
  exact OwnT.congr k3 (fun i _ => by
   by_cases e : i = j
   ·simp [e]
   ·by_cases e2 : i < j
    ·simp [e, e2, show i < j + 1 by omega]
    ·simp [e, e2, show ¬ i < j + 1 by omega])
theorem LoI.set21 {w : World} {B g1 g2 c j : Nat} {Q : Nat → Pc} (h : LoI w B g1 g2 c j Q) (hj : j < c) : LoI ((w.setCell ⟨g2, j, none⟩ (.string (Q j).b)).setCell ⟨g1, j, none⟩ (.int .i64 (Q j).i)) B g1 g2 c (j + 1) Q := by
 have s2 := World.ownsRow.stored h.2.1 j (.string (Q j).b)
 have k1 := World.ownsRow.kept h.1 s2.2 (.inr (by intro e; exact h.2.2 (by simpa [Value.ownBlock] using e)))
 have s1 := World.ownsRow.stored k1 j (.int .i64 (Q j).i)
 have k2 := World.ownsRow.kept s2.1 s1.2 (.inr (by intro e; exact h.2.2 (by simpa [Value.ownBlock] using e.symm)))
 refine ⟨?_, ?_, h.2.2⟩
 ·have k3 := s1.1
  rw [zL_set _ _ _ _ hj] at k3
  rw [zL_congr (f' := fun x => if x < j + 1 then (Q x).i else 0) (fun i _ => by
   by_cases e : i = j
   ·simp [e]
   ·by_cases e2 : i < j
    ·simp [e, e2, show i < j + 1 by omega]
    ·simp [e, e2, show ¬ i < j + 1 by omega])] at k3
  exact k3
 ·rw [sL_set _ _ _ _ hj] at k2
  exact OwnT.congr k2 (fun i _ => by
   by_cases e : i = j
   ·simp [e]
   ·by_cases e2 : i < j
    ·simp [e, e2, show i < j + 1 by omega]
    ·simp [e, e2, show ¬ i < j + 1 by omega])
theorem LoI.ints {w : World} {B g1 g2 c : Nat} {Q : Nat → Pc} (h : LoI w B g1 g2 c c Q) : IntsAt w (some ⟨g1, 0, none⟩) c ((List.range c).map fun j => (Q j).i) := by
 refine ⟨by simp, fun i hi => ⟨g1, 0, rfl, ?_⟩⟩
 rw [Nat.zero_add, h.cell1 hi]
 simp [hi]
theorem LoI.txts {w : World} {B g1 g2 c : Nat} {Q : Nat → Pc} (h : LoI w B g1 g2 c c Q) : TxtAt w (some ⟨g2, 0, none⟩) c (fun j => (Q j).b) := fun i hi => ⟨g2, 0, rfl, by
 rw [Nat.zero_add, h.cell2 hi]
 simp [hi]⟩
theorem lo_facts {w : World} {B g1 g2 c j : Nat} {Q : Nat → Pc} (h : LoI w B g1 g2 c j Q) (hj : j < c) : (∃ v, w.cell? ⟨g1, j, none⟩ = some v) ∧ w.frozen? ⟨g1, j, none⟩ = false ∧ (∃ v, w.cell? ⟨g2, j, none⟩ = some v) ∧ w.frozen? ⟨g2, j, none⟩ = false ∧
  (∃ v, (w.setCell ⟨g1, j, none⟩ (.int .i64 (Q j).i)).cell? ⟨g2, j, none⟩ = some v) ∧ (w.setCell ⟨g1, j, none⟩ (.int .i64 (Q j).i)).frozen? ⟨g2, j, none⟩ = false ∧
  (∃ v, (w.setCell ⟨g2, j, none⟩ (.string (Q j).b)).cell? ⟨g1, j, none⟩ = some v) ∧ (w.setCell ⟨g2, j, none⟩ (.string (Q j).b)).frozen? ⟨g1, j, none⟩ = false := by
 have s1 := World.ownsRow.stored h.1 j (.int .i64 (Q j).i)
 have k2 := World.ownsRow.kept h.2.1 s1.2 (.inr (by intro e; exact h.2.2 (by simpa [Value.ownBlock] using e.symm)))
 have s2 := World.ownsRow.stored h.2.1 j (.string (Q j).b)
 have k1 := World.ownsRow.kept h.1 s2.2 (.inr (by intro e; exact h.2.2 (by simpa [Value.ownBlock] using e)))
 exact ⟨⟨_, h.cell1 hj⟩, World.ownsRow.frozenAt h.1 j, ⟨_, h.cell2 hj⟩, World.ownsRow.frozenAt h.2.1 j,
  ⟨_, (World.ownsRow.cellAt k2 j (by omega)).trans (sL_get _ _ _ hj)⟩, World.ownsRow.frozenAt k2 j, ⟨_, (World.ownsRow.cellAt k1 j (by omega)).trans (zL_get _ _ _ hj)⟩, World.ownsRow.frozenAt k1 j⟩
theorem laidOut_any (g c cc : Nat) (Q : Nat → Pc) (A : Nat → Option Addr) (C : Nat → Nat) (w : World) (hcell : ∀ j q, j < c → q < 6 → w.cell? ⟨g, j * 6 + q, none⟩ = some (cel (Q j) (.slice (A j) (Q j).m (C j)) q)) (hc : c ≤ 64) :
  Calls Tryz.prog 28 #[.slice (some ⟨g, 0, none⟩) c cc] w fun e w' => ∃ g1 g2, e = .returned (.tuple #[.slice (some ⟨g1, 0, none⟩) c c, .slice (some ⟨g2, 0, none⟩) c c]) ∧ IntsAt w' (some ⟨g1, 0, none⟩) c ((List.range c).map fun j => (Q j).i) ∧ TxtAt w' (some ⟨g2, 0, none⟩) c (fun j => (Q j).b) ∧ Below w.heap.size w w' := by
 have mI := makeI c hc
 have mS := makeS c hc
 go_enter Tryz.func28, Tryz.ntmps28
 have K1 := LoI.first w c Q hc
 have K2 := LoI.second w c Q hc
 have B1 : Below w.heap.size w ((w.alloc (.cells (madeCells #[.int .i64 0] c) 3)).alloc (.cells (madeCells #[.string ByteArray.empty] c) 9)) := ((Below.refl _ _).alloc (Nat.le_refl _) _).alloc (by simp) _
 have B2 : Below w.heap.size w ((w.alloc (.cells (madeCells #[.string ByteArray.empty] c) 9)).alloc (.cells (madeCells #[.int .i64 0] c) 3)) := ((Below.refl _ _).alloc (Nat.le_refl _) _).alloc (by simp) _
 have HK : Hid (LoI ((w.alloc (.cells (madeCells #[.int .i64 0] c) 3)).alloc (.cells (madeCells #[.string ByteArray.empty] c) 9)) w.heap.size w.heap.size (w.heap.size + 1) c 0 Q ∧ LoI ((w.alloc (.cells (madeCells #[.string ByteArray.empty] c) 9)).alloc (.cells (madeCells #[.int .i64 0] c) 3)) w.heap.size (w.heap.size + 1) w.heap.size c 0 Q ∧ Below w.heap.size w ((w.alloc (.cells (madeCells #[.int .i64 0] c) 3)).alloc (.cells (madeCells #[.string ByteArray.empty] c) 9)) ∧ Below w.heap.size w ((w.alloc (.cells (madeCells #[.string ByteArray.empty] c) 9)).alloc (.cells (madeCells #[.int .i64 0] c) 3))) := ⟨K1, K2, B1, B2⟩
 have HCe : Hid (∀ j q, j < c → q < 6 → w.cell? ⟨g, j * 6 + q, none⟩ = some (cel (Q j) (.slice (A j) (Q j).m (C j)) q)) := hcell
 clear K1 K2 B1 B2 hcell
 go_wp2
 go_cut [4, 5] from 8 to 13 (fun v4 v5 wx => ∃ g1 g2, v4 = .slice (some ⟨g1, 0, none⟩) c c ∧ v5 = .slice (some ⟨g2, 0, none⟩) c c ∧ LoI wx w.heap.size g1 g2 c 0 Q ∧ Below w.heap.size w wx)
 case first =>
  go_region
  all_goals
   go_wp2_with fail
   go_meet
  ·exact ⟨_, _, rfl, rfl, HK.out.1, HK.out.2.2.1.drew⟩
  ·exact ⟨_, _, rfl, rfl, HK.out.2.1, HK.out.2.2.2.drew⟩
 case rest =>
  obtain ⟨g1, g2, rfl, rfl, hlo, hb⟩ := hcut
  have KL : Hid (LoI wc w.heap.size g1 g2 c 0 Q ∧ Below w.heap.size w wc) := ⟨hlo, hb⟩
  clear hlo hb HK mI mS
  go_wp2
  go_loopw [16] (fun vi wr => ∃ j : Nat, j ≤ c ∧ vi = .int .i64 (j : Int) ∧ LoI wr w.heap.size g1 g2 c j Q ∧ Below w.heap.size w wr) (fun vi _ => c - (intOf vi).toNat)
  case atStart => exact ⟨0, Nat.zero_le _, rfl, KL.out.1, KL.out.2⟩
  case round =>
   obtain ⟨j, hjc, rfl, hl, hbel⟩ := hrel
   clear KL
   by_cases hlt : j < c
   ·have hji : (j : Int) < (c : Int) := by omega
    have hx := fun q (hq : q < 6) => (hbel.cell (p := ⟨g, j * 6 + q, none⟩) (block_lt_of_cell (HCe.out j q hlt hq))).trans (HCe.out j q hlt hq)
    have lg := hl.lt
    obtain ⟨⟨o1, f1⟩, f2, ⟨o2, f3⟩, f4, ⟨o3, f5⟩, f6, ⟨o4, f7⟩, f8⟩ := lo_facts hl hlt
    have HN : Hid (LoI _ w.heap.size g1 g2 c (j + 1) Q ∧ LoI _ w.heap.size g1 g2 c (j + 1) Q) := ⟨(hl.set12 hlt).alloc (.cells (pcC (Q j).r (Q j).k (Q j).n (Q j).i (Q j).b (.slice (A j) (Q j).m (C j))) 30), (hl.set21 hlt).alloc (.cells (pcC (Q j).r (Q j).k (Q j).n (Q j).i (Q j).b (.slice (A j) (Q j).m (C j))) 30)⟩
    have b12 := (hbel.setCell (p := ⟨g1, j, none⟩) lg.1.1 (.int .i64 (Q j).i)).setCell (p := ⟨g2, j, none⟩) lg.2.1 (.string (Q j).b)
    have b21 := (hbel.setCell (p := ⟨g2, j, none⟩) lg.2.1 (.string (Q j).b)).setCell (p := ⟨g1, j, none⟩) lg.1.1 (.int .i64 (Q j).i)
    have HB : Hid (Below w.heap.size w _ ∧ Below w.heap.size w _) := ⟨(b12.alloc b12.size (.cells (pcC (Q j).r (Q j).k (Q j).n (Q j).i (Q j).b (.slice (A j) (Q j).m (C j))) 30)).drew, (b21.alloc b21.size (.cells (pcC (Q j).r (Q j).k (Q j).n (Q j).i (Q j).b (.slice (A j) (Q j).m (C j))) 30)).drew⟩
    have x0 := hx 0 (by omega)
    have x1 := hx 1 (by omega)
    have x2 := hx 2 (by omega)
    have x3 := hx 3 (by omega)
    have x4 := hx 4 (by omega)
    have x5 := hx 5 (by omega)
    simp only [cel, Nat.add_zero] at x0 x1 x2 x3 x4 x5
    clear hx hl hbel b12 b21
    go_wp2
    go_region
    go_wp2
    go_roundw
    case rel => exact ⟨j + 1, by omega, by go_num, HN.out.1, HB.out.1⟩
    case measure => simp [intOf]; omega
   ·obtain rfl : j = c := by omega
    have HL : Hid (LoI wr w.heap.size g1 g2 j j Q) := hl
    clear hl
    go_wp2
    go_ret2
    exact ⟨g1, g2, rfl, HL.out.ints, HL.out.txts, hbel⟩
end Go.Proofs.YtodnodekheaacaaGreatDoor
namespace Go.Proofs.YtodnodekheaacaaGreatDoor
open Go.Shelf Go.Lib Go.Sort
noncomputable def clp (P : Nat → Pc) (x : Nat) : Pc := @ite _ (0 ≤ (P x).i ∧ (P x).i ≤ 16) (Classical.propDecidable _) (P x) { P x with i := 0 }
theorem clp_is {P : Nat → Pc} {x : Nat} (h : 0 ≤ (P x).i ∧ (P x).i ≤ 16) : clp P x = P x := if_pos h
theorem clp_in (P : Nat → Pc) (x : Nat) : 0 ≤ (clp P x).i ∧ (clp P x).i ≤ 16 := by
 by_cases h : 0 ≤ (P x).i ∧ (P x).i ≤ 16
 ·rw [clp_is h]; exact h
 ·unfold clp; rw [if_neg h]; exact ⟨Int.le_refl _, show (0 : Int) ≤ 16 by decide⟩
noncomputable def encP (P : Nat → Pc) (A : Nat → Option Addr) (C : Nat → Nat) (x : Nat) : List Value := [.string (clp P x).r, .int .i64 (clp P x).k, .int .i64 (clp P x).n, .int .i64 (clp P x).i, .string (clp P x).b, .slice (A x) (clp P x).m (C x)]
theorem encP_get {P : Nat → Pc} {A : Nat → Option Addr} {C : Nat → Nat} {x : Nat} (h : 0 ≤ (P x).i ∧ (P x).i ≤ 16) {q : Nat} (hq : q < 6) : (encP P A C x)[q]! = celp P A C x q := by
 unfold encP
 rw [clp_is h]
 match q, hq with
 | 0, _ => rfl
 | 1, _ => rfl
 | 2, _ => rfl
 | 3, _ => rfl
 | 4, _ => rfl
 | 5, _ => rfl
noncomputable def cfP (P : Nat → Pc) (x y : Nat) : Int := (clp P x).i - (clp P y).i
theorem swoP (P : Nat → Pc) : SWO (ltOf (cfP P)) where
 irrefl x := by unfold ltOf cfP; simp
 trans x y z h1 h2 := by unfold ltOf cfP at *; simp at *; omega
 ntrans x y z h1 h2 := by unfold ltOf cfP at *; simp at *; omega
theorem closureP (P : Nat → Pc) (A : Nat → Option Addr) (C : Nat → Nat) (x y : Nat) (W : World) : Calls Tryz.prog 58 #[.agg (encP P A C x).toArray, .agg (encP P A C y).toArray] W fun e w' => e = .returned (.int .i64 (cfP P x y)) ∧ ∃ q os', w' = grow (W.drewN q) os' := by
 have hx := clp_in P x
 have hy := clp_in P y
 unfold encP cfP
 generalize clp P x = p at hx ⊢
 generalize clp P y = p' at hy ⊢
 obtain ⟨r, k, n, i, b, m, S⟩ := p
 obtain ⟨r', k', n', i', b', m', S'⟩ := p'
 simp only at hx hy
 have hw : IntKind.i64.wrap (i - i') = i - i' := by rw [IntKind.wrap_i64]; omega
 go_enter Tryz.func58, Tryz.ntmps58
 go_wp2
 go_ret
 exact ⟨rfl, 0, _, by rw [alloc_eq_grow, alloc_eq_grow, grow_grow]; rfl⟩
theorem sort_ok (P : Nat → Pc) (A : Nat → Option Addr) (C : Nat → Nat) : SortOk P A C := by
 intro B g cc L W ho hB hl hi
 have eg : ∀ args w, (callFunc 58 args).run Tryz.prog w = .ok (.enter 58 args) w := enters_of Tryz.func58 (by kernel_rfl) rfl
 have hinL : ∀ t, t < L.length → 0 ≤ (P (L.getD t 0)).i ∧ (P (L.getD t 0)).i ≤ 16 := fun t ht => hi _ (by simp [ht])
 have hH : HoldsK (encP P A C) 6 W g 0 L.toArray := by
  intro j hj
  have hj' : j < L.length * 6 := by simpa using hj
  rw [get_flatK _ _ _ _ (by simpa using hj)]
  have h1 : j / 6 < L.length := by omega
  have hc := ho.cell (i := j / 6) (q := j % 6) h1 (by omega)
  rw [show j / 6 * 6 + j % 6 = j by omega] at hc
  refine ⟨?_, by rw [Nat.zero_add]; exact World.ownsRow.frozenAt ho _⟩
  rw [Nat.zero_add, hc]
  have e : (L.toArray)[j / 6]! = L.getD (j / 6) 0 := by simp [h1]
  rw [e, encP_get (hinL _ h1) (by omega)]
  rfl
 have lg := World.ownsRow.lt ho g rfl
 have hcon := AnyQ.slices_SortFunc Tryz.sortP 6 Tryz.isAgg30 Tryz.sizeOf30 (encP P A C) (fun _ => rfl) (fun x v hv => by simp [encP] at hv; rcases hv with rfl | rfl | rfl | rfl | rfl | rfl <;> rfl) (cfP P) (swoP P) 58 #[] g 0 cc L.toArray W eg (fun _ _ _ _ x y => closureP P A C x y _) hH lg.2 (by simp; omega)
 have hcon' : Calls Tryz.prog 57 #[.slice (some ⟨g, 0, none⟩) L.length cc, .func (.func 58) #[] #[]] W fun e w' => e = .returned (.tuple #[]) ∧ ∃ d' n os, PermIn 0 L.toArray.size L.toArray d' ∧ SortedIn (ltOf (cfP P)) 0 L.toArray.size d' ∧ w' = sortWorldK (encP P A C) 6 W g 0 n d' os := hcon
 refine hcon'.mono ?_
 rintro e w' ⟨rfl, d', m, os, hp, hs, rfl⟩
 have hsz : d'.size = L.length := by simpa using hp.1
 have hperm : d'.toList.Perm L := by
  have h3 := hp.2.2
  have e1 : d'.extract 0 L.toArray.size = d' := by rw [show L.toArray.size = d'.size by rw [hsz]; simp]; simp
  have e2 : L.toArray.extract 0 L.toArray.size = L.toArray := by simp
  rw [e1, e2] at h3
  simpa using h3
 have hin' : ∀ t, t < d'.size → 0 ≤ (P (d'.toList.getD t 0)).i ∧ (P (d'.toList.getD t 0)).i ≤ 16 := fun t ht => hi _ (hperm.mem_iff.1 (by simp [ht]))
 have hget : ∀ t, t < d'.size → d'[t]! = d'.toList.getD t 0 := fun t ht => by simp [ht]
 refine ⟨rfl, ?_, d'.toList, hperm, ?_, ?_⟩
 ·refine ⟨rfl, rfl, rfl, size_sortWorldK_c _ _ _ _ _ _ _ _, fun j hj => ?_⟩
  show ((Array.modify W.heap g _) ++ os)[j]? = _
  rw [Array.getElem?_append_left (by simp; omega), Array.getElem?_modify, if_neg (by omega)]
 ·intro x y hxy hy
  have hy' : y < d'.size := by simpa using hy
  have h := hs x y (Nat.zero_le _) hxy (by rw [← hp.1]; exact hy')
  rw [hget x (by omega), hget y hy'] at h
  have h1 := hin' x (by omega)
  have h2 := hin' y hy'
  unfold ltOf cfP at h
  rw [clp_is h1, clp_is h2] at h
  simp at h
  simp
  omega
 ·rcases ho.2 with ⟨e, _⟩ | ⟨g', cap', cur, e, hBg, hg, hn, hm, hcs, htk⟩
  ·cases e
  cases e
  have hll : d'.toList.length = L.length := by rw [← hsz]; simp
  refine ⟨gL_len _ _, .inr ⟨g, cc, putCells id 0 (flatK (encP P A C) 6 d') cur, by rw [hll], hBg, ?_, by rw [hll]; exact hn, hm, by simp [putCells, hcs], ?_⟩⟩
  ·show ((Array.modify W.heap g _) ++ os)[g]? = _
   rw [Array.getElem?_append_left (by simp; exact lg.2), Array.getElem?_modify, if_pos rfl, hg]
   rfl
  ·apply List.ext_getElem?
   intro t
   by_cases ht : t < d'.toList.length * 6
   ·have ht' : t < L.length * 6 := by rw [hll] at ht; exact ht
    have htc : t < cur.size := by rw [hcs]; omega
    rw [List.getElem?_take, if_pos ht]
    have h2 := gL_get (fun j => celp P A C (d'.toList.getD j 0)) d'.toList.length (t / 6) (t % 6) (by omega) (by omega)
    rw [show t / 6 * 6 + t % 6 = t by omega] at h2
    rw [h2]
    have h6 : t / 6 < d'.size := by rw [hsz]; omega
    simp only [putCells, Array.getElem?_toList, Array.getElem?_mapIdx]
    rw [Array.getElem?_eq_getElem htc]
    simp only [Option.map_some, Nat.zero_le, Nat.zero_add, Nat.sub_zero, true_and, size_flatK]
    rw [if_pos (by rw [hsz]; exact ht'), get_flatK _ _ _ _ (by rw [hsz]; exact ht'), hget _ h6, id, encP_get (hin' _ h6) (by omega)]
   ·rw [List.getElem?_eq_none (by rw [List.length_take]; omega), List.getElem?_eq_none (by rw [gL_len]; omega)]
end Go.Proofs.YtodnodekheaacaaGreatDoor
namespace Go.Proofs.YtodnodekheaacaaGreatDoor
def zsQ (c : Nat) (Q : Nat → Pc) : List Int := (List.range c).map fun j => (Q j).i
def sQ (Q : Nat → Pc) (j : Nat) : ByteArray := (Q j).b
noncomputable def alQ (c : Nat) (Q : Nat → Pc) : Nat → ByteArray := bdS (Q 0).k (Q 0).n (zsQ c Q) (sQ Q)
noncomputable def rtQ (c : Nat) (Q : Nat → Pc) : ByteArray := rtS (Q 0).n.toNat (lvs (Q 0).k (Q 0).n.toNat (alQ c Q))
def Cm (root : ByteArray) (c : Nat) (Q : Nat → Pc) : Prop := Rgt (Q 0).k (Q 0).n (zsQ c Q) c (sQ Q) ∧ rtQ c Q = root
theorem completed_any (root : ByteArray) (g c cc : Nat) (Q : Nat → Pc) (A : Nat → Option Addr) (C : Nat → Nat) (w : World) (hcell : ∀ j q, j < c → q < 6 → w.cell? ⟨g, j * 6 + q, none⟩ = some (cel (Q j) (.slice (A j) (Q j).m (C j)) q)) (hc0 : 0 < c) (hc : c ≤ 64) (hS : (Q 0).b.size ≤ 1048576) :
  Calls Tryz.prog 27 #[.string root, .slice (some ⟨g, 0, none⟩) c cc] w fun e w' => Below w.heap.size w w' ∧ ((¬ Cm root c Q ∧ e = .panicked (failC 2)) ∨ (Cm root c Q ∧ ∃ (a2 : Option Addr) (cap2 G : Nat), e = .returned (.agg #[.int .i64 (Q 0).k, .slice a2 (Q 0).n.toNat cap2, .slice (some ⟨G, 0, none⟩) (Q 0).n.toNat (Q 0).n.toNat, .string root]) ∧
   OwnT w' w.heap.size a2 (Q 0).n.toNat cap2 (alQ c Q) ∧ OwnT w' w.heap.size (some ⟨G, 0, none⟩) (Q 0).n.toNat (Q 0).n.toNat (lvs (Q 0).k (Q 0).n.toNat (alQ c Q)))) := by
 obtain ⟨B, HB⟩ : ∃ x, Hid (x = w.heap.size) := ⟨_, rfl⟩
 obtain ⟨w0, HW0⟩ : ∃ x, Hid (x = w.alloc (.cells #[.int .i64 0, .slice none 0 0, .slice none 0 0, .string ⟨#[]⟩] 53)) := ⟨_, rfl⟩
 have HR0 : Hid (Row w0 B 53 #[.int .i64 0, .slice none 0 0, .slice none 0 0, .string ⟨#[]⟩]) := by show Row _ _ _ _; rw [HW0.out, HB.out]; exact Row.new w _ _
 have hb0 : Below w.heap.size w w0 := by rw [HW0.out]; exact (Below.refl _ _).alloc (Nat.le_refl _) _
 have hlt0 : B < w0.heap.size := HR0.out.lt
 have hBw : w.heap.size ≤ B := by rw [HB.out]; exact Nat.le_refl _
 have hs0 := hb0.size
 have HC0 : Hid (∀ j q, j < c → q < 6 → w0.cell? ⟨g, j * 6 + q, none⟩ = some (cel (Q j) (.slice (A j) (Q j).m (C j)) q)) := fun j q h1 h2 => (hb0.cell (p := ⟨g, j * 6 + q, none⟩) (block_lt_of_cell (hcell j q h1 h2))).trans (hcell j q h1 h2)
 have KB0 : Hid (Below w.heap.size w w0) := hb0
 have KLO : Hid _ := laidOut_any g c cc Q A C w0 HC0.out hc
 have HS : Hid ((Q 0).b.size ≤ 1048576) := hS
 have hci : (0 : Int) < (c : Int) := by omega
 clear hb0 hcell hS
 go_enter Tryz.func27, Tryz.ntmps27
 go_wp2_with fail
 rw [← HW0.out, ← HB.out]
 refine Calls.mono KLO.out ?_
 rintro e w1 ⟨g1, g2, rfl, hI1, hT1, hb1⟩
 have x1 := (hb1.cell (p := ⟨g, 0 * 6 + 1, none⟩) (block_lt_of_cell (HC0.out 0 1 hc0 (by omega)))).trans (HC0.out 0 1 hc0 (by omega))
 have x2 := (hb1.cell (p := ⟨g, 0 * 6 + 2, none⟩) (block_lt_of_cell (HC0.out 0 2 hc0 (by omega)))).trans (HC0.out 0 2 hc0 (by omega))
 simp only [cel, Nat.zero_mul, Nat.zero_add] at x1 x2
 have KBD : Hid (∀ W, Below w1.heap.size w1 W → Calls Tryz.prog 59 #[.int .i64 (Q 0).k, .int .i64 (Q 0).n, .slice (some ⟨g1, 0, none⟩) c c, .slice (some ⟨g2, 0, none⟩) c c] W fun e w' => ∃ v, e = .returned (.tuple #[v, .bool (rgt (Q 0).k (Q 0).n (zsQ c Q) c (sQ Q))]) ∧ ResT W w' v (bdR (Q 0).k (Q 0).n (zsQ c Q) c (sQ Q)) (alQ c Q) ∧ Below W.heap.size W w') := fun W hW => bodies_any (Q 0).k (Q 0).n (some ⟨g1, 0, none⟩) c c (zsQ c Q) (some ⟨g2, 0, none⟩) c c (sQ Q) W (hI1.below hW) (hT1.below hW) (by omega) (by omega) (fun _ => HS.out)
 have HR1 : Hid (Row w1 B 53 #[.int .i64 0, .slice none 0 0, .slice none 0 0, .string ⟨#[]⟩]) := HR0.out.below hb1 hlt0
 have KB1 : Hid (Below w.heap.size w w1) := below2 KB0.out hb1
 have lB1 : B < w1.heap.size := HR1.out.lt
 clear hI1 hT1 hb1 KLO HR0 KB0
 go_wp2_with fail
 go_cut [7, 8] from 15 to 28 (fun v7 v8 wx => Hid (Below w1.heap.size w1 wx ∧ ∃ a2 cap2, v8 = .bool (rgt (Q 0).k (Q 0).n (zsQ c Q) c (sQ Q)) ∧ v7 = .slice a2 (bdR (Q 0).k (Q 0).n (zsQ c Q) c (sQ Q)) cap2 ∧ OwnT wx w1.heap.size a2 (bdR (Q 0).k (Q 0).n (zsQ c Q) c (sQ Q)) cap2 (alQ c Q)))
 case first =>
  go_region_with ((go_at_call 59; refine Calls.mono (KBD.out _ ⟨rfl, rfl, rfl, Nat.le_refl _, fun _ _ => rfl⟩) ?_; rintro e w2 ⟨v2, rfl, hR2, hb2⟩; obtain ⟨a2, cap2, rfl, hO2⟩ := hR2; have HF : Hid (Below w1.heap.size w1 w2 ∧ OwnT w2 w1.heap.size a2 (bdR (Q 0).k (Q 0).n (zsQ c Q) c (sQ Q)) cap2 (alQ c Q)) := ⟨below_of_drew hb2, hO2⟩; have z1 := (HF.out.1.cell (p := ⟨g, 1, none⟩) (block_lt_of_cell x1)).trans x1; have z2 := (HF.out.1.cell (p := ⟨g, 2, none⟩) (block_lt_of_cell x2)).trans x2; clear hb2 hO2))
  all_goals
   go_wp2_with fail
   go_meet
   exact ⟨HF.out.1, a2, cap2, rfl, rfl, HF.out.2⟩
 obtain ⟨hb12, a2, cap2, rfl, rfl, hO2⟩ := hcut.out
 clear hcut
 have HR2 : Hid (Row wc B 53 #[.int .i64 0, .slice none 0 0, .slice none 0 0, .string ⟨#[]⟩]) := HR1.out.below hb12 HR1.out.lt
 have y1 := (hb12.cell (p := ⟨g, 1, none⟩) (block_lt_of_cell x1)).trans x1
 have KB2 : Hid (Below w.heap.size w wc) := below2 KB1.out hb12
 have HO2 : Hid (OwnT wc w.heap.size a2 (bdR (Q 0).k (Q 0).n (zsQ c Q) c (sQ Q)) cap2 (alQ c Q)) := OwnT.base hO2 KB1.out.size
 have HO2b : Hid (OwnT wc w1.heap.size a2 (bdR (Q 0).k (Q 0).n (zsQ c Q) c (sQ Q)) cap2 (alQ c Q)) := hO2
 clear hb12 hO2 x1 x2 KBD HR1
 by_cases hr : Rgt (Q 0).k (Q 0).n (zsQ c Q) c (sQ Q)
 case neg =>
  rw [rgt_no hr]
  have KN : Hid _ := need_no 2 wc
  have hno : ¬ Cm root c Q := fun h => hr h.1
  clear y1 HR2
  go_wp2_with fail
  refine Calls.mono KN.out ?_
  rintro e w' ⟨rfl, rfl⟩
  go_wp2
  simp [bodyPost, hno]
  exact KB2.out
 rw [rgt_yes hr]
 have hpar := sprOk_parts hr.1
 have hR : bdR (Q 0).k (Q 0).n (zsQ c Q) c (sQ Q) = (Q 0).n.toNat := by unfold bdR; rw [rgt_yes hr, if_pos rfl]
 rw [hR] at HO2 HO2b ⊢
 have KN : Hid _ := need_ok 2 wc
 have HNL : Hid ((Q 0).n.toNat ≤ 64) := by show (Q 0).n.toNat ≤ 64; omega
 have KBI : Hid (Calls Tryz.prog 46 #[.int .i64 (Q 0).k, .slice a2 (Q 0).n.toNat cap2] wc fun e w' => ∃ G, e = .returned (.agg #[.int .i64 (Q 0).k, .slice a2 (Q 0).n.toNat cap2, .slice (some ⟨G, 0, none⟩) (Q 0).n.toNat (Q 0).n.toNat, .string (rtQ c Q)]) ∧ OwnT w' wc.heap.size (some ⟨G, 0, none⟩) (Q 0).n.toNat (Q 0).n.toNat (lvs (Q 0).k (Q 0).n.toNat (alQ c Q)) ∧ Below wc.heap.size wc w') := bind_any (Q 0).k a2 (Q 0).n.toNat cap2 (alQ c Q) wc (OwnT.at HO2.out) HNL.out (fun i _ => by unfold alQ bdS; rw [bod_size]; exact HS.out)
 have HCm : Hid (Cm root c Q ↔ rtQ c Q = root) := ⟨fun h => h.2, fun h => ⟨hr, h⟩⟩
 generalize rtQ c Q = rt at KBI HCm
 clear hr hR hpar HNL
 go_wp2_with fail
 refine Calls.mono KN.out ?_
 rintro e w' ⟨rfl, rfl⟩
 go_wp2_with fail
 refine Calls.mono KBI.out ?_
 rintro e w3 ⟨G, rfl, hO3, hb3⟩
 obtain ⟨D, HD⟩ : ∃ x, Hid (x = w3.heap.size) := ⟨_, rfl⟩
 obtain ⟨w4, HW4⟩ : ∃ x, Hid (x = w3.alloc (.cells #[.int .i64 (Q 0).k, .slice a2 (Q 0).n.toNat cap2, .slice (some ⟨G, 0, none⟩) (Q 0).n.toNat (Q 0).n.toNat, .string rt] 53)) := ⟨_, rfl⟩
 have HR4 : Hid (Row w4 D 53 #[.int .i64 (Q 0).k, .slice a2 (Q 0).n.toNat cap2, .slice (some ⟨G, 0, none⟩) (Q 0).n.toNat (Q 0).n.toNat, .string rt]) := by show Row _ _ _ _; rw [HW4.out, HD.out]; exact Row.new w3 _ _
 have b34 : Below w3.heap.size w3 w4 := by rw [HW4.out]; exact (Below.refl _ _).alloc (Nat.le_refl _) _
 have b24 := below2 hb3 b34
 have lB := HR2.out.lt
 have HRB : Hid (Row w4 B 53 #[.int .i64 0, .slice none 0 0, .slice none 0 0, .string ⟨#[]⟩]) := HR2.out.below b24 lB
 have KB4 : Hid (Below w.heap.size w w4) := below2 KB2.out b24
 have hGl := World.ownsRow.lt hO3 G rfl
 have hGB : G ≠ B := by omega
 have hA2 : ∀ x, a2 = some x → x.block ≠ B := fun x e => by
  subst e
  have h1 := (World.ownsRow.lt HO2b.out x.block rfl).1
  omega
 have HO4 : Hid (OwnT w4 w.heap.size a2 (Q 0).n.toNat cap2 (alQ c Q)) := HO2.out.below b24
 have HO5 : Hid (OwnT w4 w.heap.size (some ⟨G, 0, none⟩) (Q 0).n.toNat (Q 0).n.toNat (lvs (Q 0).k (Q 0).n.toNat (alQ c Q))) := OwnT.base (hO3.below b34) KB2.out.size
 have q0 := HRB.out.cell 0
 have q1 := HRB.out.cell 1
 have q2 := HRB.out.cell 2
 have q3 := HRB.out.cell 3
 have f0 := HRB.out.free 0
 have f1 := HRB.out.free 1
 have f2 := HRB.out.free 2
 have f3 := HRB.out.free 3
 have r0 := HR4.out.cell 0
 have r1 := HR4.out.cell 1
 have r2 := HR4.out.cell 2
 have r3 := HR4.out.cell 3
 simp at q0 q1 q2 q3 r0 r1 r2 r3
 clear hO3 hb3 b34 b24 y1 KBI KN
 by_cases he : rt = root
 case neg =>
  have nr : (rt.toList == root.toList) = false := ba_ne he
  have hno : ¬ Cm root c Q := fun h => he (HCm.out.1 h)
  have KN : Hid _ := need_no 2 w4
  go_wp2_with fail
  rw [← HW4.out]
  refine Calls.mono KN.out ?_
  rintro e w' ⟨rfl, rfl⟩
  clear q0 q1 q2 q3 r0 r1 r2 r3
  go_wp2
  simp [bodyPost, hno]
  exact KB4.out
 subst he
 have nr := ba_beq rt
 have hyes : Cm rt c Q := HCm.out.2 rfl
 have KN : Hid _ := need_ok 2 w4
 go_wp2_with fail
 rw [← HW4.out, ← HD.out]
 refine Calls.mono KN.out ?_
 rintro e w' ⟨rfl, rfl⟩
 have ZR : Hid (Row ((((w'.setCell ⟨B, 0, none⟩ (.int .i64 (Q 0).k)).setCell ⟨B, 1, none⟩ (.slice a2 (Q 0).n.toNat cap2)).setCell ⟨B, 2, none⟩ (.slice (some ⟨G, 0, none⟩) (Q 0).n.toNat (Q 0).n.toNat)).setCell ⟨B, 3, none⟩ (.string rt)) B 53 #[.int .i64 (Q 0).k, .slice a2 (Q 0).n.toNat cap2, .slice (some ⟨G, 0, none⟩) (Q 0).n.toNat (Q 0).n.toNat, .string rt]) := (((HRB.out.set 0 _).set 1 _).set 2 _).set 3 _
 have set1 : ∀ (W : World) (o : Nat) (v : Value), OwnT W w.heap.size (some ⟨G, 0, none⟩) (Q 0).n.toNat (Q 0).n.toNat (lvs (Q 0).k (Q 0).n.toNat (alQ c Q)) → OwnT (W.setCell ⟨B, o, none⟩ v) w.heap.size (some ⟨G, 0, none⟩) (Q 0).n.toNat (Q 0).n.toNat (lvs (Q 0).k (Q 0).n.toNat (alQ c Q)) := fun W o v hW => own_kept hW (grown_set _ _ _ _) (fun x e => by cases e; exact hGB)
 have set2 : ∀ (W : World) (o : Nat) (v : Value), OwnT W w.heap.size a2 (Q 0).n.toNat cap2 (alQ c Q) → OwnT (W.setCell ⟨B, o, none⟩ v) w.heap.size a2 (Q 0).n.toNat cap2 (alQ c Q) := fun W o v hW => own_kept hW (grown_set _ _ _ _) hA2
 have ZO : Hid (OwnT ((((w'.setCell ⟨B, 0, none⟩ (.int .i64 (Q 0).k)).setCell ⟨B, 1, none⟩ (.slice a2 (Q 0).n.toNat cap2)).setCell ⟨B, 2, none⟩ (.slice (some ⟨G, 0, none⟩) (Q 0).n.toNat (Q 0).n.toNat)).setCell ⟨B, 3, none⟩ (.string rt)) w.heap.size (some ⟨G, 0, none⟩) (Q 0).n.toNat (Q 0).n.toNat (lvs (Q 0).k (Q 0).n.toNat (alQ c Q))) := set1 _ _ _ (set1 _ _ _ (set1 _ _ _ (set1 _ _ _ HO5.out)))
 have ZA : Hid (OwnT ((((w'.setCell ⟨B, 0, none⟩ (.int .i64 (Q 0).k)).setCell ⟨B, 1, none⟩ (.slice a2 (Q 0).n.toNat cap2)).setCell ⟨B, 2, none⟩ (.slice (some ⟨G, 0, none⟩) (Q 0).n.toNat (Q 0).n.toNat)).setCell ⟨B, 3, none⟩ (.string rt)) w.heap.size a2 (Q 0).n.toNat cap2 (alQ c Q)) := set2 _ _ _ (set2 _ _ _ (set2 _ _ _ (set2 _ _ _ HO4.out)))
 clear set1 set2
 go_wp2
 refine bodyPost_ret (v := .agg #[.int .i64 (Q 0).k, .slice a2 (Q 0).n.toNat cap2, .slice (some ⟨G, 0, none⟩) (Q 0).n.toNat (Q 0).n.toNat, .string rt]) (results_cell_row Tryz.results27 _ _ B 53 _ (0, 0) _ (by simp) ZR.out Tryz.underlying53 (by rfl) Tryz.infoCut) rfl ⟨?_, .inr ⟨hyes, a2, cap2, G, rfl, ZA.out, ZO.out⟩⟩
 exact Below.setCell (Below.setCell (Below.setCell (Below.setCell KB4.out hBw _) hBw _) hBw _) hBw _
def qL (P : Nat → Pc) (L : List Nat) (j : Nat) : Pc := P (L.getD j 0)
theorem getD_memL {L : List Nat} {j : Nat} (h : j < L.length) : L.getD j 0 ∈ L := by
 rw [List.getD_eq_getElem?_getD, List.getElem?_eq_getElem h]
 exact List.getElem_mem h
theorem pok_k {P : Nat → Pc} {x : Nat} (h : pok P x = true) : kOk (P x).k (P x).n (P x).b := Classical.byContradiction fun hno => by
 unfold pok at h
 rw [okP_no hno] at h
 cases h
def RgE (root : ByteArray) (K : Nat) (Q : Nat → Pc) (e : Ending) : Prop :=
 (¬ Cm root K Q ∧ e = .returned (.tuple #[.string ⟨#[]⟩, .int .i64 2])) ∨
 (Cm root K Q ∧ dcB (Q 0).k (Q 0).n (zsQ K Q) K (sQ Q) = false ∧ e = .returned (.tuple #[.string ⟨#[]⟩, .int .i64 2])) ∨
 (Cm root K Q ∧ dcB (Q 0).k (Q 0).n (zsQ K Q) K (sQ Q) = true ∧ e = .returned (.tuple #[.string (dcS (Q 0).k (Q 0).n (zsQ K Q) K (sQ Q)), .int .i64 0]))
theorem regain_any (root : ByteArray) (a : Option Addr) (n cap : Nat) (A : Nat → Option Addr) (C : Nat → Nat) (P : Nat → Pc) (w : World) (h : PiA w a n A C P) (hE : ErrT w) (hn : n ≤ 1048576) (hm : ∀ i, i < n → (P i).m ≤ 1048576) (hL : ∀ i, i < n → ∀ j, j < (P i).m → ((P i).S j).size ≤ maxLen) (hsort : SortOk P A C) :
  Calls Tryz.prog 7 #[.string root, .slice a n cap] w fun e w' => Below w.heap.size w w' ∧ ((enB root n P = false ∧ e = .returned (.tuple #[.string ⟨#[]⟩, .int .i64 1])) ∨ (enB root n P = true ∧ ∃ L : List Nat, L.Perm (gsel root P n) ∧ (∀ x y, x < y → y < L.length → (P (L.getD x 0)).i ≤ (P (L.getD y 0)).i) ∧ RgE root (enK root n P).toNat (qL P L) e)) := by
 have hmf : ∀ (fn : Fn) (first cap : Array Value) (w : World), (Instr.makeFunc fn first cap).run Tryz.prog w = .ok (.func fn first cap) w := fun _ _ _ _ => rfl
 obtain ⟨B, HB⟩ : ∃ x, Hid (x = w.heap.size) := ⟨_, rfl⟩
 obtain ⟨w0, HW0⟩ : ∃ x, Hid (x = w.alloc (.cells #[.int .i64 0] 3)) := ⟨_, rfl⟩
 have c0 : w0.cell? ⟨B, 0, none⟩ = some (.int .i64 0) := by rw [HW0.out, HB.out]; simp
 have f0 : w0.frozen? ⟨B, 0, none⟩ = false := by rw [HW0.out, HB.out]; simp
 have b0 : Below w.heap.size w w0 := by rw [HW0.out]; exact (Below.refl _ _).alloc (Nat.le_refl _) _
 have hBw : w.heap.size ≤ B := by rw [HB.out]; exact Nat.le_refl _
 have lB : B < w0.heap.size := block_lt_of_cell c0
 have KB0 : Hid (Below w.heap.size w w0) := b0
 have KE : Hid (ErrT w0) := hE.below b0
 have KC0 : Hid (w0.cell? ⟨B, 0, none⟩ = some (.int .i64 0) ∧ w0.frozen? ⟨B, 0, none⟩ = false) := ⟨c0, f0⟩
 have KEN : Hid _ := enough_any root a n cap A C P w0 (h.below b0) hn hm hL hsort
 have KD : Hid (∀ W, Below w0.heap.size w0 W → ErrT W ∧ W.cell? ⟨B, 0, none⟩ = some (.int .i64 0) ∧ W.frozen? ⟨B, 0, none⟩ = false ∧ Below w.heap.size w W) := fun W hW => ⟨KE.out.below hW, (hW.cell (p := ⟨B, 0, none⟩) lB).trans c0, (World.frozen?_of_block (a := ⟨B, 0, none⟩) (hW.block _ lB)).trans f0, below2 KB0.out hW⟩
 clear h hE hm hL hsort b0 c0 f0
 go_enter_defers Tryz.func7, Tryz.ntmps7
 go_wp2_with fail
 rw [← HW0.out, ← HB.out]
 refine Calls.mono KEN.out ?_
 rintro e w1 ⟨hb1, h1⟩
 rcases h1 with ⟨hen, rfl⟩ | ⟨hen, g, cc, L, rfl, hp, hso, hcc, hO⟩
 ·obtain ⟨d1, d2, d3, d4⟩ := KD.out w1 hb1
  go_wp2
  refine leaves_cons (f := 24) (args := #[.pointer (some ⟨B, 0, none⟩)]) (by simp) (by simp [go_sem]) ?_
  refine (catchR_panicking ⟨B, 0, none⟩ _ 1 [] _ d1 d2 d3).mono ?_
  rintro e u' w'' ⟨rfl, rfl, W, hW, rfl⟩
  have z := World.cell?_setCell_same W ⟨B, 0, none⟩ (.int .i64 1) ((hW.cell (p := ⟨B, 0, none⟩) (block_lt_of_cell d2)).trans d2)
  simp [Leaves, settle, results, Tryz.results7, go_sem, z, hen]
  exact (below2 d4 hW).setCell hBw _
 ·have hlen : L.length = (gsel root P n).length := hp.length_eq
  have hpart : n ≤ 64 ∧ gsel root P n ≠ [] ∧ enK root n P ≤ ((gsel root P n).length : Int) := by
   unfold enB at hen
   simp only [Bool.and_eq_true, decide_eq_true_eq] at hen
   exact ⟨hen.1.1, hen.1.2, hen.2⟩
  have hgl := gsel_len root P n
  have hg0 : 0 < (gsel root P n).length := List.length_pos_iff.2 hpart.2.1
  have hfst : (gsel root P n).getD 0 0 ∈ gsel root P n := getD_memL hg0
  have hk1 : 1 ≤ enK root n P := (pok_k (gsel_mem hfst).2.2).1
  have hL0 := (pok_k (gsel_mem (hp.mem_iff.1 (getD_memL (L := L) (j := 0) (by omega)))).2.2).2.2.2.2
  have HQb : Hid ((qL P L 0).b.size ≤ 1048576) := Nat.le_trans hL0 (by omega)
  obtain ⟨K, HK⟩ : ∃ x, Hid ((enK root n P).toNat = x) := ⟨_, rfl⟩
  have hK0 : 0 < K := by rw [← HK.out]; omega
  have hK64 : K ≤ 64 := by rw [← HK.out]; omega
  have hKL : K ≤ L.length := by rw [← HK.out]; omega
  rw [HK.out]
  obtain ⟨Q, HQ⟩ : ∃ x, Hid (qL P L = x) := ⟨_, rfl⟩
  have HCell : Hid (∀ W, Below w1.heap.size w1 W → ∀ j q, j < K → q < 6 → W.cell? ⟨g, j * 6 + q, none⟩ = some (cel (Q j) (.slice (A (L.getD j 0)) (Q j).m (C (L.getD j 0))) q)) := fun W hW j q hj hq => by
   rw [← HQ.out]
   exact OwnC.cell (OwnC.below hO hW) (by omega) hq
  have HQ0 : Hid ((Q 0).b.size ≤ 1048576) := by rw [← HQ.out]; exact HQb.out
  have HFin : Hid (∀ e, RgE root K Q e → (enB root n P = false ∧ e = .returned (.tuple #[.string ⟨#[]⟩, .int .i64 1])) ∨ (enB root n P = true ∧ ∃ L : List Nat, L.Perm (gsel root P n) ∧ (∀ x y, x < y → y < L.length → (P (L.getD x 0)).i ≤ (P (L.getD y 0)).i) ∧ RgE root (enK root n P).toNat (qL P L) e)) := fun e he => .inr ⟨hen, L, hp, hso, by rw [HK.out, HQ.out]; exact he⟩
  have KCm : Hid _ := completed_any root g K cc Q (fun j => A (L.getD j 0)) (fun j => C (L.getD j 0)) w1 (HCell.out w1 (Below.refl _ _)) hK0 hK64 HQ0.out
  have KB1 : Hid (Below w0.heap.size w0 w1) := hb1
  clear hO hp hso hcc hb1 hlen hpart hgl hg0 hfst hk1 hL0 HQb HQ HK hen KEN
  go_wp2_with fail
  refine Calls.mono KCm.out ?_
  rintro e w2 ⟨hb2, h2⟩
  have hb12 := hb2
  have hb02 := below2 KB1.out hb2
  obtain ⟨N, HN⟩ : ∃ x, Hid ((Q 0).n.toNat = x) := ⟨_, rfl⟩
  rw [HN.out] at h2
  rcases h2 with ⟨hcm, rfl⟩ | ⟨hcm, a2, cap2, G, rfl, hO1, hO2⟩
  ·obtain ⟨d1, d2, d3, d4⟩ := KD.out w2 hb02
   go_wp2
   refine leaves_cons (f := 24) (args := #[.pointer (some ⟨B, 0, none⟩)]) (by simp) (by simp [go_sem]) ?_
   refine (catchR_panicking ⟨B, 0, none⟩ _ 2 [] _ d1 d2 d3).mono ?_
   rintro e u' w'' ⟨rfl, rfl, W, hW, rfl⟩
   have z := World.cell?_setCell_same W ⟨B, 0, none⟩ (.int .i64 2) ((hW.cell (p := ⟨B, 0, none⟩) (block_lt_of_cell d2)).trans d2)
   have hf := HFin.out _ (.inl ⟨hcm, rfl⟩)
   simp [Leaves, settle, results, Tryz.results7, go_sem, z]
   exact ⟨(below2 d4 hW).setCell hBw _, by simpa using hf⟩
  ·have hsp := sprOk_parts hcm.1.1
   have hnn : (N : Int) = (Q 0).n := by rw [← HN.out]; exact Int.toNat_of_nonneg (by omega)
   obtain ⟨D, HD⟩ : ∃ x, Hid (x = w2.heap.size) := ⟨_, rfl⟩
   obtain ⟨w3, HW3⟩ : ∃ x, Hid (x = w2.alloc (.cells #[.int .i64 (Q 0).k, .slice a2 N cap2, .slice (some ⟨G, 0, none⟩) N N, .string root] 53)) := ⟨_, rfl⟩
   have HR3 : Hid (Row w3 D 53 #[.int .i64 (Q 0).k, .slice a2 N cap2, .slice (some ⟨G, 0, none⟩) N N, .string root]) := by show Row _ _ _ _; rw [HW3.out, HD.out]; exact Row.new w2 _ _
   have b23 : Below w2.heap.size w2 w3 := by rw [HW3.out]; exact (Below.refl _ _).alloc (Nat.le_refl _) _
   have KB3 : Hid (Below w0.heap.size w0 w3) := below2 hb02 b23
   have KLO : Hid _ := laidOut_any g K cc Q (fun j => A (L.getD j 0)) (fun j => C (L.getD j 0)) w3 (HCell.out w3 (below2 hb12 b23)) hK64
   have HCM : Hid (Cm root K Q) := hcm
   have lD := HR3.out.lt
   clear hO1 hO2 hb2 hb12 hb02 b23 HCell KCm hcm
   go_wp2_with fail
   rw [← HW3.out, ← HD.out]
   refine Calls.mono KLO.out ?_
   rintro e w4 ⟨g1, g2, rfl, hI, hT, hb4⟩
   have HR4 : Hid (Row w4 D 53 #[.int .i64 (Q 0).k, .slice a2 N cap2, .slice (some ⟨G, 0, none⟩) N N, .string root]) := HR3.out.below hb4 lD
   have r0 := HR4.out.cell 0
   have r1 := HR4.out.cell 1
   simp at r0 r1
   have KDC : Hid (Calls Tryz.prog 29 #[.int .i64 (Q 0).k, .int .i64 (N : Int), .slice (some ⟨g1, 0, none⟩) K K, .slice (some ⟨g2, 0, none⟩) K K] w4 fun e w' => e = .returned (.tuple #[.string (dcS (Q 0).k (Q 0).n (zsQ K Q) K (sQ Q)), .bool (dcB (Q 0).k (Q 0).n (zsQ K Q) K (sQ Q))]) ∧ Below w4.heap.size w4 w') := by
    show Calls _ _ _ _ _
    rw [hnn]
    exact decode_any (Q 0).k (Q 0).n (some ⟨g1, 0, none⟩) K K (zsQ K Q) (some ⟨g2, 0, none⟩) K K (sQ Q) w4 hI hT (by omega) (by omega) (fun _ => HQ0.out)
   have KB4 : Hid (Below w0.heap.size w0 w4) := below2 KB3.out hb4
   clear hI hT hb4 KLO HR3 hnn
   go_wp2_with fail
   refine Calls.mono KDC.out ?_
   rintro e w5 ⟨rfl, hb5⟩
   have hb05 := below2 KB4.out hb5
   obtain ⟨d1, d2, d3, d4⟩ := KD.out w5 hb05
   clear r0 r1 KDC
   obtain ⟨ok, HOK⟩ : ∃ x, Hid (dcB (Q 0).k (Q 0).n (zsQ K Q) K (sQ Q) = x) := ⟨_, rfl⟩
   rw [HOK.out]
   cases ok with
   | false =>
    have hf := HFin.out _ (.inr (.inl ⟨HCM.out, HOK.out, rfl⟩))
    go_wp2_with fail
    refine Calls.mono (need_no 2 w5) ?_
    rintro e w' ⟨rfl, rfl⟩
    go_wp2
    refine leaves_cons (f := 24) (args := #[.pointer (some ⟨B, 0, none⟩)]) (by simp) (by simp [go_sem]) ?_
    refine (catchR_panicking ⟨B, 0, none⟩ _ 2 [] _ d1 d2 d3).mono ?_
    rintro e u' w'' ⟨rfl, rfl, W, hW, rfl⟩
    have z := World.cell?_setCell_same W ⟨B, 0, none⟩ (.int .i64 2) ((hW.cell (p := ⟨B, 0, none⟩) (block_lt_of_cell d2)).trans d2)
    simp [Leaves, settle, results, Tryz.results7, go_sem, z]
    exact ⟨(below2 d4 hW).setCell hBw _, by simpa using hf⟩
   | true =>
    have hf := HFin.out _ (.inr (.inr ⟨HCM.out, HOK.out, rfl⟩))
    obtain ⟨tx, HTX⟩ : ∃ x, Hid (dcS (Q 0).k (Q 0).n (zsQ K Q) K (sQ Q) = x) := ⟨_, rfl⟩
    rw [HTX.out] at hf ⊢
    go_wp2_with fail
    refine Calls.mono (need_ok 2 w5) ?_
    rintro e w' ⟨rfl, rfl⟩
    go_wp2
    refine leaves_cons (f := 24) (args := #[.pointer (some ⟨B, 0, none⟩)]) (by simp) (by simp [go_sem]) ?_
    have z1 := World.cell?_setCell_same w' ⟨B, 0, none⟩ (.int .i64 0) d2
    have z2 : (w'.setCell ⟨B, 0, none⟩ (.int .i64 0)).frozen? ⟨B, 0, none⟩ = false := by simpa using d3
    refine (catchR_idle ⟨B, 0, none⟩ _ _ z1 z2).mono ?_
    rintro e u' w'' ⟨rfl, rfl, rfl⟩
    have z := World.cell?_setCell_same (w'.setCell ⟨B, 0, none⟩ (.int .i64 0)) ⟨B, 0, none⟩ (.int .i64 0) z1
    simp [Leaves, settle, results, Tryz.results7, go_sem, z]
    exact ⟨(d4.setCell hBw _).setCell hBw _, by simpa using hf⟩
theorem asc_pair {P : Nat → Pc} {L : List Nat} (h : ∀ x y, x < y → y < L.length → (P (L.getD x 0)).i ≤ (P (L.getD y 0)).i) : L.Pairwise fun a b => (P a).i ≤ (P b).i := by
 rw [List.pairwise_iff_getElem]
 intro i j hi hj hij
 have := h i j hij hj
 rw [List.getD_eq_getElem?_getD, List.getD_eq_getElem?_getD, List.getElem?_eq_getElem hi, List.getElem?_eq_getElem hj] at this
 exact this
def OneEach (P : Nat → Pc) (G : List Nat) : Prop := ∀ a ∈ G, ∀ b ∈ G, (P a).i = (P b).i → a = b
theorem asc_one {P : Nat → Pc} {G L L' : List Nat} (hG : OneEach P G) (hp : L.Perm G) (hp' : L'.Perm G) (h : ∀ x y, x < y → y < L.length → (P (L.getD x 0)).i ≤ (P (L.getD y 0)).i) (h' : ∀ x y, x < y → y < L'.length → (P (L'.getD x 0)).i ≤ (P (L'.getD y 0)).i) : L = L' := by
 refine List.Perm.eq_of_pairwise (le := fun a b => (P a).i ≤ (P b).i) ?_ (asc_pair h) (asc_pair h') (hp.trans hp'.symm)
 intro a b ha hb h1 h2
 exact hG a (hp.mem_iff.1 ha) b (hp'.mem_iff.1 hb) (by omega)
theorem gsel_one (root : ByteArray) (P : Nat → Pc) (n : Nat) : OneEach P (gsel root P n) := by
 induction n with
 | zero => intro a ha; cases ha
 | succ c ih =>
  by_cases hp : (P c).r = root ∧ gwB (P c).k (P c).n (P c).i (gsel root P c).length (fun j => P ((gsel root P c).getD j 0)) = true ∧ pok P c = true
  ·rw [gsel_yes hp]
   have hg : GwP (P c).k (P c).n (P c).i (gsel root P c).length (fun j => P ((gsel root P c).getD j 0)) := Classical.byContradiction fun hno => by rw [gwB_no hno] at hp; cases hp.2.1
   have key : ∀ a ∈ gsel root P c, (P a).i ≠ (P c).i := fun a ha => by
    obtain ⟨j, hj, e⟩ := List.getElem_of_mem ha
    have h2 := (hg j hj).2.2
    simp only [List.getD_eq_getElem?_getD, List.getElem?_eq_getElem hj, Option.getD_some, e] at h2
    exact fun e' => h2 e'.symm
   intro a ha b hb hab
   rw [List.mem_append] at ha hb
   rcases ha with ha | ha <;> rcases hb with hb | hb
   ·exact ih a ha b hb hab
   ·obtain rfl : b = c := by simpa using hb
    exact absurd hab (key a ha)
   ·obtain rfl : a = c := by simpa using ha
    exact absurd hab.symm (key b hb)
   ·rw [show a = c by simpa using ha, show b = c by simpa using hb]
  ·rw [gsel_no hp]; exact ih
end Go.Proofs.YtodnodekheaacaaGreatDoor
