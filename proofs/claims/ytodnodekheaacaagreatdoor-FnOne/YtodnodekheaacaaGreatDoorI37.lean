import Derived.Test.YtodnodekheaacaaGreatDoorI36
import Derived.Test.YtodnodekheaacaaGreatDoorI31
import Derived.Test.YtodnodekheaacaaGreatDoorI33
import Derived.Test.YtodnodekheaacaaGreatDoorI18
import Derived.Lib.QuietBelow
import Derived.BigQuiet
set_option maxHeartbeats 8000000
set_option maxRecDepth 2000
open Go.ChangeShapes Go.WideShapes Go.ChangeAt Go.RowKit
namespace Go.Proofs.YtodnodekheaacaaGreatDoor
theorem cut_rt {k N : Nat} {S S' : Nat → ByteArray} (h : KnP k N) (e : ∀ i, i < N → S i = S' i) : rtS N (lvs (k : Int) N S) = rtS N (lvs (k : Int) N S') := by
 unfold rtS
 rw [if_pos (all_lvB h), if_pos (all_lvB h)]
 exact Gt.rt_congr (by unfold KnP at h; omega) (fun i hi => by unfold lvs; rw [e i hi])
theorem cut_pc {k N : Nat} {S S' : Nat → ByteArray} (h : KnP k N) (e : ∀ i, i < N → S i = S' i) {i : Nat} (hi : i < N) : cutP (k : Int) N S i = cutP (k : Int) N S' i := by
 show (⟨rtS N (lvs (k : Int) N S), (k : Int), (N : Int), (i : Int), S i, pfR N (lvs (k : Int) N S) (i : Int), pfF N (lvs (k : Int) N S) (i : Int)⟩ : Pc) = ⟨rtS N (lvs (k : Int) N S'), (k : Int), (N : Int), (i : Int), S' i, pfR N (lvs (k : Int) N S') (i : Int), pfF N (lvs (k : Int) N S') (i : Int)⟩
 have e2 : pfR N (lvs (k : Int) N S) (i : Int) = pfR N (lvs (k : Int) N S') (i : Int) := by unfold pfR; rw [if_pos (all_pfB h hi), if_pos (all_pfB h hi)]
 have e3 : pfF N (lvs (k : Int) N S) (i : Int) = pfF N (lvs (k : Int) N S') (i : Int) := by
  funext j
  exact Gt.pf_congr (fun t ht => by unfold lvs; rw [e t ht]) _ _
 rw [cut_rt h e, e2, e3, e i hi]
structure Tkn (k N n1 : Nat) (za : List Int) : Prop where
 len : za.length = n1
 nd : za.Nodup
 inn : ∀ x ∈ za, 0 ≤ x ∧ x < (N : Int)
 k1 : k ≤ n1
theorem Tkn.at {k N n1 : Nat} {za : List Int} (h : Tkn k N n1 za) {i : Nat} (hi : i < n1) : 0 ≤ za.getD i 0 ∧ za.getD i 0 < (N : Int) := by
 have hl := h.len
 refine h.inn _ ?_
 rw [List.getD_eq_getElem?_getD, List.getElem?_eq_getElem (by omega)]
 exact List.getElem_mem _
theorem Tkn.ne {k N n1 : Nat} {za : List Int} (h : Tkn k N n1 za) {i j : Nat} (hi : i < n1) (hj : j < n1) (hij : i ≠ j) : za.getD i 0 ≠ za.getD j 0 := fun e => by
 have hl := h.len
 rw [List.getD_eq_getElem?_getD, List.getElem?_eq_getElem (by omega), List.getD_eq_getElem?_getD, List.getElem?_eq_getElem (by omega)] at e
 exact hij ((List.getElem_inj h.nd).1 e)
noncomputable def tkP (k N : Nat) (S : Nat → ByteArray) (za : List Int) (i : Nat) : Pc := cutP (k : Int) N S (za.getD i 0).toNat
noncomputable def tkR (k N : Nat) (S : Nat → ByteArray) : ByteArray := rtS N (lvs (k : Int) N S)
theorem range_getD {c j : Nat} (h : j < c) : (List.range c).getD j 0 = j := by simp [h]
theorem tk_gsel {k N n1 : Nat} {S : Nat → ByteArray} {za : List Int} (hA : AllP k N S) (hT : Tkn k N n1 za) : ∀ c, c ≤ n1 → gsel (tkR k N S) (tkP k N S za) c = List.range c := by
 intro c
 induction c with
 | zero => intro _; rfl
 | succ c ih =>
  intro hc
  have ih' := ih (by omega)
  have hz := hT.at (show c < n1 by omega)
  rw [gsel_yes (root := tkR k N S) (P := tkP k N S za) (c := c) ⟨rfl, ?_, all_ok hA (i := (za.getD c 0).toNat) (by omega)⟩, ih', List.range_succ]
  rw [ih', List.length_range]
  refine gwB_yes fun j hj => ⟨rfl, rfl, ?_⟩
  show (((za.getD c 0).toNat : Nat) : Int) ≠ (((za.getD ((List.range c).getD j 0) 0).toNat : Nat) : Int)
  rw [range_getD hj]
  have h2 := hT.at (show j < n1 by omega)
  have h3 := hT.ne (show c < n1 by omega) (show j < n1 by omega) (by omega)
  omega
theorem tk_en {k N n1 : Nat} {S : Nat → ByteArray} {za : List Int} (hA : AllP k N S) (hT : Tkn k N n1 za) (hn : n1 ≤ N) : enB (tkR k N S) n1 (tkP k N S za) = true ∧ (enK (tkR k N S) n1 (tkP k N S za)).toNat = k := by
 have hkn := hA.kn
 have hk1 := hT.k1
 have hg := tk_gsel hA hT n1 (Nat.le_refl _)
 have hK : enK (tkR k N S) n1 (tkP k N S za) = (k : Int) := rfl
 refine ⟨enB_of ⟨by unfold KnP at hkn; omega, ?_, ?_⟩, by rw [hK, Int.toNat_natCast]⟩
 ·rw [hg]
  intro e
  have := congrArg List.length e
  rw [List.length_range] at this
  unfold KnP at hkn
  have h0 : n1 = 0 := this
  omega
 ·rw [hK, hg, List.length_range]; omega
theorem tk_rg {k N n1 : Nat} {S : Nat → ByteArray} {za : List Int} {e : Ending} (hA : AllP k N S) (hT : Tkn k N n1 za) (hn : n1 ≤ N) (h : RgA (tkR k N S) n1 (tkP k N S za) e) : ∃ L : List Nat, L.Perm (List.range n1) ∧ RgE (tkR k N S) k (qL (tkP k N S za) L) e := by
 obtain ⟨h1, h2⟩ := tk_en hA hT hn
 rcases h with ⟨k1, _⟩ | ⟨_, L, hp, _, hr⟩
 ·rw [h1] at k1; cases k1
 ·rw [h2] at hr
  rw [tk_gsel hA hT n1 (Nat.le_refl _)] at hp
  exact ⟨L, hp, hr⟩
theorem tk_code {k N n1 : Nat} {S : Nat → ByteArray} {za : List Int} {s : ByteArray} {c : Int} (hA : AllP k N S) (hT : Tkn k N n1 za) (hn : n1 ≤ N) (h : RgA (tkR k N S) n1 (tkP k N S za) (.returned (.tuple #[.string s, .int .i64 c]))) : c ≠ 1 := by
 obtain ⟨L, _, hr⟩ := tk_rg hA hT hn h
 rcases hr with ⟨_, e⟩ | ⟨_, _, e⟩ | ⟨_, _, e⟩ <;> cases e <;> omega
theorem perm_at {n1 : Nat} {L : List Nat} (hp : L.Perm (List.range n1)) {j : Nat} (hj : j < n1) : L.getD j 0 < n1 := by
 have hl : L.length = n1 := by rw [hp.length_eq, List.length_range]
 exact List.mem_range.1 (hp.mem_iff.1 (getD_memL (by omega)))
theorem perm_ne {n1 : Nat} {L : List Nat} (hp : L.Perm (List.range n1)) {i j : Nat} (hi : i < n1) (hj : j < n1) (hij : i ≠ j) : L.getD i 0 ≠ L.getD j 0 := fun e => by
 have hl : L.length = n1 := by rw [hp.length_eq, List.length_range]
 have hnd : L.Nodup := hp.nodup_iff.2 List.nodup_range
 rw [List.getD_eq_getElem?_getD, List.getElem?_eq_getElem (by omega), List.getD_eq_getElem?_getD, List.getElem?_eq_getElem (by omega)] at e
 exact hij ((List.getElem_inj hnd).1 e)
theorem ag_S {k N : Nat} {S : Nat → ByteArray} (h : Agr (k : Int) (N : Int) N S) {i : Nat} (hi : i < N) : S i = txt (Gm.mp k (Gm.sprd k) (fun t p => tat (S t) p) i) (S 0).size := by
 have := h.2.2 i hi
 rw [Int.toNat_natCast] at this
 exact this.symm
theorem zsQ_at {K : Nat} {Q : Nat → Pc} {j : Nat} (h : j < K) : (zsQ K Q).getD j 0 = (Q j).i := by simp [zsQ, h]
theorem tk_rgt {k N n1 : Nat} {S : Nat → ByteArray} {za : List Int} {L : List Nat} (hA : AllP k N S) (hT : Tkn k N n1 za) (hG : Agr (k : Int) (N : Int) N S) (hp : L.Perm (List.range n1)) : Rgt (k : Int) (N : Int) (zsQ k (qL (tkP k N S za) L)) k (sQ (qL (tkP k N S za) L)) := by
 have hkn := hA.kn
 have hk1 := hT.k1
 have hS : ∀ j, j < k → (sQ (qL (tkP k N S za) L) j).size = (S 0).size ∧ (S 0).size ≠ 0 := fun j hj => by
  have h1 := hT.at (perm_at hp (show j < n1 by omega))
  have h2 := hG.2.1.2 (za.getD (L.getD j 0) 0).toNat (by omega)
  have h3 := hG.2.1.2 0 (by unfold KnP at hkn; omega)
  exact ⟨h2.2, h3.1⟩
 refine ⟨hG.1, by simp [zsQ], rfl, ?_, fun i hi => ⟨?_, ?_, fun j hj => ?_⟩⟩
 ·have := hS 0 (by unfold KnP at hkn; omega)
  rw [this.1]; exact this.2
 ·rw [zsQ_at hi]
  have h1 := hT.at (perm_at hp (show i < n1 by omega))
  show 0 ≤ (((za.getD (L.getD i 0) 0).toNat : Nat) : Int) ∧ (((za.getD (L.getD i 0) 0).toNat : Nat) : Int) < (N : Int)
  omega
 ·rw [(hS i hi).1, (hS 0 (by omega)).1]
 ·rw [zsQ_at hi, zsQ_at (show j < k by omega)]
  show (((za.getD (L.getD j 0) 0).toNat : Nat) : Int) ≠ (((za.getD (L.getD i 0) 0).toNat : Nat) : Int)
  have h1 := hT.at (perm_at hp (show i < n1 by omega))
  have h2 := hT.at (perm_at hp (show j < n1 by omega))
  have h3 := hT.ne (perm_at hp (show j < n1 by omega)) (perm_at hp (show i < n1 by omega)) (perm_ne hp (by omega) (by omega) (by omega))
  omega
theorem tk_all {k N n1 : Nat} {S : Nat → ByteArray} {za : List Int} {L : List Nat} (hA : AllP k N S) (hT : Tkn k N n1 za) (hG : Agr (k : Int) (N : Int) N S) (hp : L.Perm (List.range n1)) {i : Nat} (hi : i < N) : alQ k (qL (tkP k N S za) L) i = S i := by
 have hkn := hA.kn
 have hk1 := hT.k1
 have hr := tk_rgt hA hT hG hp
 show bdS (k : Int) (N : Int) (zsQ k (qL (tkP k N S za) L)) (sQ (qL (tkP k N S za) L)) i = S i
 have h0 : (sQ (qL (tkP k N S za) L) 0).size = (S 0).size := by
  have h1 := hT.at (perm_at hp (show 0 < n1 by unfold KnP at hkn; omega))
  exact (hG.2.1.2 (za.getD (L.getD 0 0) 0).toNat (by omega)).2
 rw [bdS_is, h0]
 rw [ag_S hG hi]
 refine txt_congr (fun p hp' => Gm.mp_congr (fun _ _ => rfl) (fun t ht => ?_))
 refine fsT_back (l := (S 0).size) hr.diff (by have := hr.2.1; omega) (by unfold KnP at hkn; omega) (by unfold KnP at hkn; omega) (by unfold KnP at hkn; omega) (T := fun t p => tat (S t) p) (fun _ _ => tat_lt _ _) (fun j hj => ?_) ht hp'
 rw [zsQ_at hj]
 have h1 := hT.at (perm_at hp (show j < n1 by omega))
 have := ag_S hG (i := (za.getD (L.getD j 0) 0).toNat) (by omega)
 show S (za.getD (L.getD j 0) 0).toNat = txt (Gm.mp k (Gm.sprd k) (fun t p => tat (S t) p) ((((za.getD (L.getD j 0) 0).toNat : Nat) : Int).toNat)) (S 0).size
 rw [Int.toNat_natCast]
 exact this
theorem tk_cm {k N n1 : Nat} {S : Nat → ByteArray} {za : List Int} {L : List Nat} (hA : AllP k N S) (hT : Tkn k N n1 za) (hG : Agr (k : Int) (N : Int) N S) (hp : L.Perm (List.range n1)) : Cm (tkR k N S) k (qL (tkP k N S za) L) := by
 refine ⟨tk_rgt hA hT hG hp, ?_⟩
 show rtS ((N : Int).toNat) (lvs (k : Int) ((N : Int).toNat) (alQ k (qL (tkP k N S za) L))) = _
 rw [Int.toNat_natCast]
 exact cut_rt hA.kn (fun i hi => tk_all hA hT hG hp hi)
theorem tk_dc {k N n1 : Nat} {S : Nat → ByteArray} {za : List Int} {L : List Nat} (hA : AllP k N S) (hT : Tkn k N n1 za) (hG : Agr (k : Int) (N : Int) N S) (hp : L.Perm (List.range n1)) :
  dcB (k : Int) (N : Int) (zsQ k (qL (tkP k N S za) L)) k (sQ (qL (tkP k N S za) L)) = dcB (k : Int) (N : Int) (eI (fun i => i) k) k S ∧ dcS (k : Int) (N : Int) (zsQ k (qL (tkP k N S za) L)) k (sQ (qL (tkP k N S za) L)) = dcS (k : Int) (N : Int) (eI (fun i => i) k) k S := by
 have hkn := hA.kn
 have h1 := dc_again (tk_rgt hA hT hG hp)
 have h2 := dc_congr (k := (k : Int)) (n := (N : Int)) (zs := eI (fun i => i) k) (nb := k) (S := alQ k (qL (tkP k N S za) L)) (S' := S) (fun i hi => tk_all hA hT hG hp (by unfold KnP at hkn; omega))
 exact ⟨h1.1.symm.trans h2.1, h1.2.symm.trans h2.2⟩
theorem tk_one {k N n1 n2 : Nat} {S : Nat → ByteArray} {za zb : List Int} {e e' : Ending} (hA : AllP k N S) (hG : Agr (k : Int) (N : Int) N S) (hT : Tkn k N n1 za) (hn : n1 ≤ N) (hT' : Tkn k N n2 zb) (hn' : n2 ≤ N) (h : RgA (tkR k N S) n1 (tkP k N S za) e) (h' : RgA (tkR k N S) n2 (tkP k N S zb) e') : e' = e := by
 obtain ⟨L, hp, hr⟩ := tk_rg hA hT hn h
 obtain ⟨L', hp', hr'⟩ := tk_rg hA hT' hn' h'
 have c1 := tk_cm hA hT hG hp
 have c2 := tk_cm hA hT' hG hp'
 obtain ⟨d1, d2⟩ := tk_dc hA hT hG hp
 obtain ⟨d1', d2'⟩ := tk_dc hA hT' hG hp'
 have hr2 : RgE (tkR k N S) k (qL (tkP k N S za) L) e' := by
  rcases hr' with ⟨a, _⟩ | ⟨a, b, c⟩ | ⟨a, b, c⟩
  ·exact absurd c2 a
  ·refine .inr (.inl ⟨c1, ?_, c⟩)
   show dcB (k : Int) (N : Int) _ k _ = false
   have b' : dcB (k : Int) (N : Int) (zsQ k (qL (tkP k N S zb) L')) k (sQ (qL (tkP k N S zb) L')) = false := b
   rw [d1, ← d1']; exact b'
  ·refine .inr (.inr ⟨c1, ?_, ?_⟩)
   ·show dcB (k : Int) (N : Int) _ k _ = true
    have b' : dcB (k : Int) (N : Int) (zsQ k (qL (tkP k N S zb) L')) k (sQ (qL (tkP k N S zb) L')) = true := b
    rw [d1, ← d1']; exact b'
   ·show e' = .returned (.tuple #[.string (dcS (k : Int) (N : Int) (zsQ k (qL (tkP k N S za) L)) k (sQ (qL (tkP k N S za) L))), .int .i64 0])
    have c' : e' = .returned (.tuple #[.string (dcS (k : Int) (N : Int) (zsQ k (qL (tkP k N S zb) L')) k (sQ (qL (tkP k N S zb) L'))), .int .i64 0]) := c
    rw [d2, ← d2']; exact c'
 exact rgE_one hr2 hr
theorem tk_rm {k N n1 : Nat} {S : Nat → ByteArray} {za : List Int} {p : Pc} {c : Int} {q : Nat} (hA : AllP k N S) (hG : Agr (k : Int) (N : Int) N S) (hT : Tkn k N n1 za) (hn : n1 ≤ N) (hq : q < N) (h : IsRm (tkR k N S) n1 (tkP k N S za) (q : Int) p c) : p = cutP (k : Int) N S q ∧ c = 0 := by
 obtain ⟨h1, h2⟩ := tk_en hA hT hn
 rcases h with ⟨k1, _⟩ | ⟨_, L, hp, _, hr⟩
 ·rw [h1] at k1; cases k1
 ·rw [h2] at hr
  rw [tk_gsel hA hT n1 (Nat.le_refl _)] at hp
  have c1 := tk_cm hA hT hG hp
  have hlt : (q : Int) < (qL (tkP k N S za) L 0).n := by show (q : Int) < (N : Int); omega
  rcases hr with ⟨a, _⟩ | ⟨_, _, _, a, b⟩
  ·exact absurd ⟨c1, by omega, hlt⟩ a
  ·refine ⟨?_, b⟩
   rw [a]
   have e := cut_pc hA.kn (S := alQ k (qL (tkP k N S za) L)) (S' := S) (fun i hi => tk_all hA hT hG hp hi) hq
   rw [← e]
   have hrt : tkR k N S = rtS N (lvs (k : Int) N (alQ k (qL (tkP k N S za) L))) := (cut_rt hA.kn (fun i hi => tk_all hA hT hG hp hi)).symm
   rw [hrt]
   rfl
end Go.Proofs.YtodnodekheaacaaGreatDoor
namespace Go.Proofs.YtodnodekheaacaaGreatDoor
open Go.ChangeShapes Go.WideShapes Go.ChangeAt Go.RowKit Go.Sort
theorem OwnP.keptG {w w' : World} {B G n c g : Nat} {A : Nat → Option Addr} {C : Nat → Nat} {P : Nat → Pc} (h : OwnP w B (some ⟨G, 0, none⟩) n c A C P) (hg : w.grownBy w' (some g)) (hB : g < B) : OwnP w' B (some ⟨G, 0, none⟩) n c A C P :=
 ⟨own_kept h.1 hg (fun x e => by cases e; have := (World.ownsRow.lt h.1 G rfl).1; show G ≠ g; omega), fun i hi => OwnT.keptG (h.2.1 i hi) hg hB, h.2.2⟩
theorem OwnP.a {w : World} {B G n c : Nat} {A : Nat → Option Addr} {C : Nat → Nat} {P : Nat → Pc} (h : OwnP w B (some ⟨G, 0, none⟩) n c A C P) : PiA w (some ⟨G, 0, none⟩) n A C P := fun i hi => ⟨⟨G, 0, rfl, fun q hq => by rw [Nat.zero_add]; exact h.1.cell hi hq⟩, OwnT.at (h.2.1 i hi)⟩
theorem ints_of {w : World} {B G n c : Nat} {zs : List Int} (h : w.ownsRow B 3 1 (.slice (some ⟨G, 0, none⟩) n c) n (zs.map (Value.int .i64))) : IntsAt w (some ⟨G, 0, none⟩) n zs := by
 have hl : zs.length = n := by have := h.1; simpa using this
 exact ⟨hl, fun i hi => ⟨G, 0, rfl, by rw [Nat.zero_add]; exact own_cell h hi⟩⟩
theorem lawAt_fix (a : Option Addr) (cn cap i : Nat) (w : World) (hc : CodeAt w a cn) (hi : i ≤ 1000) : ∃ t : Nat, t < 256 ∧ ∀ W, Below w.heap.size w W → Calls Tryz.prog 11 #[.slice a cn cap, .int .i64 (i : Int)] W fun e w' => e = .returned (.int .i64 (t : Int)) ∧ w' = W := by
 obtain ⟨hn, hcs⟩ := hc
 by_cases hlt : i < cn
 ·obtain ⟨b, off, x, rfl, hcell0, hx0, hx1⟩ := hcs i hlt
  obtain ⟨X, rfl⟩ := Int.eq_ofNat_of_zero_le hx0
  refine ⟨X, by omega, fun W hW => ?_⟩
  have hcell := (hW.cell (p := ⟨b, off + i, none⟩) (block_lt_of_cell hcell0)).trans hcell0
  have hlti : (i : Int) < (cn : Int) := by omega
  clear hcs hcell0 hW
  go_enter Tryz.func11, Tryz.ntmps11
  go_wp2
  go_ret
  exact ⟨rfl, rfl⟩
 ·have hlti : ¬ (i : Int) < (cn : Int) := by omega
  have hm : Int.tmod ((i : Int) * 7 + (cn : Int)) 256 = (((i * 7 + cn) % 256 : Nat) : Int) := by rw [Int.tmod_eq_emod_of_nonneg (by omega)]; omega
  obtain ⟨t, ht⟩ : ∃ t, (i * 7 + cn) % 256 = t := ⟨_, rfl⟩
  have ht2 : t < 256 := by omega
  rw [ht] at hm
  refine ⟨t, ht2, fun W _ => ?_⟩
  clear hcs ht
  go_enter Tryz.func11, Tryz.ntmps11
  go_wp2
  go_ret
  exact ⟨rfl, rfl⟩
theorem drawLies_any (a : Option Addr) (n cap : Nat) (w : World) (hc : CodeAt w a n) :
  Calls Tryz.prog 6 #[.slice a n cap] w fun e w' => ∃ (k N : Nat) (S : Nat → ByteArray) (G c0 : Nat) (A : Nat → Option Addr) (C : Nat → Nat) (n1 Ga ca : Nat) (za : List Int) (n2 Gb cb : Nat) (zb : List Int), AllP k N S ∧ e = .returned (.tuple #[.slice (some ⟨G, 0, none⟩) N c0, .slice (some ⟨Ga, 0, none⟩) n1 ca, .slice (some ⟨Gb, 0, none⟩) n2 cb]) ∧ PiA w' (some ⟨G, 0, none⟩) N A C (cutP (k : Int) N S) ∧ IntsAt w' (some ⟨Ga, 0, none⟩) n1 za ∧ IntsAt w' (some ⟨Gb, 0, none⟩) n2 zb ∧ (Tkn k N n1 za ∧ n1 ≤ N) ∧ (Tkn k N n2 zb ∧ n2 ≤ N) ∧ Below w.heap.size w w' := by
 go_enter Tryz.func6, Tryz.ntmps6
 go_wp2_with fail
 refine (new_any a n cap _ hc.1 hc.bytes).mono ?_
 rintro e w1 ⟨g, rfl, hg, hb1, hc1⟩
 have hab := hc.under hg
 have hgl := hc1.lt
 have KB1 : Hid (Below w.heap.size w w1 ∧ w.heap.size ≤ g) := ⟨hb1, hg⟩
 clear hc hb1 hg
 go_wp2_with fail
 refine (pieces07_any g n cap a _ hc1 hab).mono ?_
 rintro e w2 ⟨k1, N1, S1, v1, hA1, _, rfl, ⟨G1, c1, A1, C1, rfl, hO1⟩, hg1, hc2⟩
 go_wp2_with fail
 refine (once_any g n cap a _ _ hc2).mono ?_
 rintro e w3 ⟨tf, rfl, hg2, hc3⟩
 have KO2 : Hid (AllP k1 N1 S1 ∧ ResP w1 w3 (.slice (some ⟨G1, 0, none⟩) N1 c1) N1 (cutP (k1 : Int) N1 S1) ∧ w1.grownBy w3 (some g)) := ⟨hA1, ⟨G1, c1, A1, C1, rfl, hO1.keptG hg2 hgl⟩, grownBy_trans hg1 hg2⟩
 clear hA1 hO1 hg1 hg2 hc1 hc2
 go_upto_if 16 with fail
 go_cut [6] from 17 to 18 (fun v wx => Hid (∃ (k N : Nat) (S : Nat → ByteArray), AllP k N S ∧ ResP w1 wx v N (cutP (k : Int) N S) ∧ w1.grownBy wx (some g) ∧ Cur wx g a n cap))
 case first =>
  cases tf with
  | true =>
   go_wp2
   go_meet
   exact ⟨k1, N1, S1, KO2.out.1, KO2.out.2.1, KO2.out.2.2, hc3⟩
  | false =>
   go_wp2_with fail
   refine (lie07_any g n cap a _ hc3 hab).mono ?_
   rintro e w4 ⟨k3, Nz3, S3, v3, hA3, rfl, ⟨G3, c3, A3, C3, rfl, hO3⟩, hg3, hc4⟩
   have HX : Hid (∃ (k N : Nat) (S : Nat → ByteArray), AllP k N S ∧ ResP w1 w4 (.slice (some ⟨G3, 0, none⟩) Nz3 c3) N (cutP (k : Int) N S) ∧ w1.grownBy w4 (some g) ∧ Cur w4 g a n cap) := ⟨k3, Nz3, S3, hA3, ⟨G3, c3, A3, C3, rfl, hO3.base KO2.out.2.2.size⟩, grownBy_trans KO2.out.2.2 hg3, hc4⟩
   clear hA3 hO3 hg3 hc4
   go_wp2
   go_meet
   exact HX.out
 obtain ⟨k, N, S, hA, ⟨G, c0, A, C, rfl, hO⟩, hgx, hcx⟩ := hcut.out
 obtain ⟨w4, hw4⟩ : ∃ x, x = wc := ⟨_, rfl⟩
 subst hw4
 have KA : Hid (AllP k N S) := hA
 have KO : Hid (OwnP w4 w1.heap.size (some ⟨G, 0, none⟩) N c0 A C (cutP (k : Int) N S)) := hO
 have KG4 : Hid (w1.grownBy w4 (some g)) := hgx
 have hkn : 2 ≤ k ∧ k ≤ N ∧ N ≤ 7 := by have := hA.kn; unfold KnP at this; omega
 have y1 : w4.cell? ⟨G, 1, none⟩ = some (.int .i64 (k : Int)) := by have := hO.1.cell (show 0 < N by omega) (show 1 < 6 by omega); simpa [cel, cutP] using this
 have y2 : w4.cell? ⟨G, 2, none⟩ = some (.int .i64 (N : Int)) := by have := hO.1.cell (show 0 < N by omega) (show 2 < 6 by omega); simpa [cel, cutP] using this
 have X1 : ∀ d os, (grow (redrawn w4 d) os).cell? ⟨G, 1, none⟩ = some (.int .i64 (k : Int)) := fun d os => cell_regrown y1 d os
 have X2 : ∀ d os, (grow (redrawn w4 d) os).cell? ⟨G, 2, none⟩ = some (.int .i64 (N : Int)) := fun d os => cell_regrown y2 d os
 have h0N : (0 : Int) < (N : Int) := by omega
 clear hcut hO hA hgx KO2 hc3 y1 y2
 go_wp2_with fail
 refine wp_region_quiet_below (by kernel_rfl) (by kernel_rfl) ?_
 repeat (go_big_quiet_step (fail))
 refine wpQuiet_nil ?_
 intro _ hw'
 obtain ⟨⟨dq, osq⟩, hw''⟩ := hw'
 subst hw''
 have bq := below_regrown w4 dq osq
 obtain ⟨w5, HW5⟩ : ∃ x, Hid (x = grow (redrawn w4 dq) osq) := ⟨_, rfl⟩
 rw [← HW5.out] at bq ⊢
 have KO5 : Hid (OwnP w5 w1.heap.size (some ⟨G, 0, none⟩) N c0 A C (cutP (k : Int) N S)) := KO.out.below bq
 have KG5 : Hid (w1.grownBy w5 (some g)) := grownBy_trans KG4.out (grownB g bq)
 have hc5 : Cur w5 g a n cap := curBelow hcx bq
 clear X1 X2 bq hcx KO KG4
 go_wp2_with fail
 refine (belowN_any g n cap a _ _ hc5).mono ?_
 rintro e w6 ⟨x, x0, x1, _, rfl, hg6, hc6⟩
 have x2 := x1 (by omega)
 obtain ⟨X, rfl⟩ := Int.eq_ofNat_of_zero_le x0
 obtain ⟨n1, hn1⟩ : ∃ n1 : Nat, (k : Int) + (X : Int) = (n1 : Int) := ⟨k + X, by omega⟩
 have en1 : IntKind.i64.wrap ((k : Int) + (X : Int)) = (n1 : Int) := by rw [IntKind.wrap_i64]; omega
 have hn1N : n1 ≤ N := by omega
 have hk1 : k ≤ n1 := by omega
 have HN1 : Hid (k ≤ n1 ∧ n1 ≤ N) := ⟨hk1, hn1N⟩
 have KPl : Hid _ := places_any g n cap a n1 N w6 hc6 hab hn1N (by omega)
 have KO6 : Hid (OwnP w6 w1.heap.size (some ⟨G, 0, none⟩) N c0 A C (cutP (k : Int) N S)) := KO5.out.keptG hg6 hgl
 have KG6 : Hid (w1.grownBy w6 (some g)) := grownBy_trans KG5.out hg6
 clear x0 x1 x2 hg6 hc5 KO5 KG5 hc6 hk1 hn1N hn1
 go_wp2_with fail
 refine Calls.mono KPl.out ?_
 rintro e w7 ⟨Ga, ca, za, rfl, hGa, hza, hnda, hina, hg7, hc7⟩
 have KZa : Hid (w7.ownsRow w6.heap.size 3 1 (.slice (some ⟨Ga, 0, none⟩) n1 ca) n1 (za.map (Value.int .i64))) := hza
 have HTa : Hid (Tkn k N n1 za ∧ n1 ≤ N) := ⟨⟨by have := hza.1; simpa using this, hnda, hina, HN1.out.1⟩, HN1.out.2⟩
 have KO7 : Hid (OwnP w7 w1.heap.size (some ⟨G, 0, none⟩) N c0 A C (cutP (k : Int) N S)) := KO6.out.keptG hg7 hgl
 have KG7 : Hid (w1.grownBy w7 (some g)) := grownBy_trans KG6.out hg7
 have HG6 : Hid (g < w6.heap.size) := Nat.lt_of_lt_of_le hgl KG6.out.size
 clear hza hnda hina hg7 hGa KO6 KG6 KPl en1
 go_wp2_with fail
 refine (belowN_any g n cap a _ _ hc7).mono ?_
 rintro e w8 ⟨x, x0, x1, _, rfl, hg8, hc8⟩
 have x2 := x1 (by omega)
 obtain ⟨Y, rfl⟩ := Int.eq_ofNat_of_zero_le x0
 obtain ⟨n2, hn2⟩ : ∃ n2 : Nat, (k : Int) + (Y : Int) = (n2 : Int) := ⟨k + Y, by omega⟩
 have en2 : IntKind.i64.wrap ((k : Int) + (Y : Int)) = (n2 : Int) := by rw [IntKind.wrap_i64]; omega
 have hn2N : n2 ≤ N := by omega
 have hk2 : k ≤ n2 := by omega
 have HN2 : Hid (k ≤ n2 ∧ n2 ≤ N) := ⟨hk2, hn2N⟩
 have KPl : Hid _ := places_any g n cap a n2 N w8 hc8 hab hn2N (by omega)
 have KO8 : Hid (OwnP w8 w1.heap.size (some ⟨G, 0, none⟩) N c0 A C (cutP (k : Int) N S)) := KO7.out.keptG hg8 hgl
 have KG8 : Hid (w1.grownBy w8 (some g)) := grownBy_trans KG7.out hg8
 have KZ8 : Hid (w8.ownsRow w6.heap.size 3 1 (.slice (some ⟨Ga, 0, none⟩) n1 ca) n1 (za.map (Value.int .i64))) := own_kept KZa.out hg8 (fun x e => by cases e; have := (World.ownsRow.lt KZa.out Ga rfl).1; have := HG6.out; show Ga ≠ g; omega)
 clear x0 x1 x2 hg8 hc7 KO7 KG7 hc8 hk2 hn2N KZa hn2
 go_wp2_with fail
 refine Calls.mono KPl.out ?_
 rintro e w9 ⟨Gb, cb, zb, rfl, hGb, hzb, hndb, hinb, hg9, hc9⟩
 have HF : Hid (AllP k N S ∧ PiA w9 (some ⟨G, 0, none⟩) N A C (cutP (k : Int) N S) ∧ IntsAt w9 (some ⟨Ga, 0, none⟩) n1 za ∧ IntsAt w9 (some ⟨Gb, 0, none⟩) n2 zb ∧ (Tkn k N n1 za ∧ n1 ≤ N) ∧ (Tkn k N n2 zb ∧ n2 ≤ N) ∧ Below w.heap.size w w9) := by
  refine ⟨KA.out, (KO8.out.keptG hg9 hgl).a, ints_of (own_kept KZ8.out hg9 (fun x e => by cases e; have := (World.ownsRow.lt KZ8.out Ga rfl).1; have := HG6.out; show Ga ≠ g; omega)), ints_of hzb, HTa.out, ⟨⟨by have := hzb.1; simpa using this, hndb, hinb, HN2.out.1⟩, HN2.out.2⟩, belowOf KB1.out.1 KB1.out.2 (grownBy_trans KG8.out hg9)⟩
 clear hzb hndb hinb hg9 hGb KO8 KG8 KPl en2 hc9 KZ8
 go_wp2
 go_ret3
 exact ⟨k, N, S, G, c0, A, C, n1, Ga, ca, za, n2, Gb, cb, zb, HF.out.1, rfl, HF.out.2.1, HF.out.2.2.1, HF.out.2.2.2.1, HF.out.2.2.2.2.1, HF.out.2.2.2.2.2.1, HF.out.2.2.2.2.2.2⟩
noncomputable def tkC (P : Nat → Pc) (A : Nat → Option Addr) (C : Nat → Nat) (z : List Int) (i : Nat) : Nat → Value := celp P A C (z.getD i 0).toNat
theorem tk_snoc {w3 : World} {B g3 cap3 c : Nat} {P : Nat → Pc} {A : Nat → Option Addr} {C : Nat → Nat} {z : List Int} {x : Nat} (hx : z.getD c 0 = (x : Int)) (h3 : w3.ownsRow B 30 6 (.slice (some ⟨g3, 0, none⟩) (c + 1) cap3) (c + 1) (gL (tkC P A C z) c ++ [.string (P x).r, .int .i64 (P x).k, .int .i64 (P x).n, .int .i64 (P x).i, .string (P x).b, .slice (A x) (P x).m (C x)])) : OwnC w3 B (some ⟨g3, 0, none⟩) (c + 1) cap3 (tkC P A C z) := by
 unfold OwnC
 rw [gL_snoc]
 have e : (z.getD c 0).toNat = x := by rw [hx, Int.toNat_natCast]
 unfold tkC at h3 ⊢
 rw [e]
 exact h3
theorem tk_pia {w W : World} {B g c cg G N : Nat} {P : Nat → Pc} {A : Nat → Option Addr} {C : Nat → Nat} {z : List Int} (hO : OwnC W B (some ⟨g, 0, none⟩) c cg (tkC P A C z)) (hz : ∀ i, i < c → (z.getD i 0).toNat < N) (hP : PiA w (some ⟨G, 0, none⟩) N A C P) (hb : Below w.heap.size w W) :
  PiA W (some ⟨g, 0, none⟩) c (fun i => A (z.getD i 0).toNat) (fun i => C (z.getD i 0).toNat) (fun i => P (z.getD i 0).toNat) := fun i hi =>
 ⟨⟨g, 0, rfl, fun q hq => by rw [Nat.zero_add]; exact hO.cell hi hq⟩, ((hP _ (hz i hi)).2).below hb⟩
theorem walk_FnOne (a0 : Option Addr) (len0 cap0 : Nat) (z0 : List Int) (w : World) (w0 : IsRow .u8 w a0 len0 cap0 z0) (hE : ErrT w) :
  Calls Tryz.prog 3 #[.slice a0 len0 cap0] w fun e w' => e = .returned (.bool true) ∧ Below w.heap.size w w' := by
 obtain ⟨j0, hj0, hy0, hy1, hy2⟩ := info_parts Tryz.infoPc3
 obtain ⟨i0, hi0, hz0, hz1, hz2⟩ := info_parts Tryz.infoStr
 by_cases h0 : 1048576 < len0
 ·clear w0
  have h0' : (1048576 : Int) < (len0 : Int) := by omega
  go_enter Tryz.func3, Tryz.ntmps3
  go_wp2_with (go_at_call 5; refine (big_any _ _ _ _).mono ?_; rintro e w' ⟨rfl, rfl⟩)
  go_ret
  exact ⟨rfl, Below.refl _ _⟩
 have hc := w0.code (by omega)
 have KE : Hid (ErrT w) := hE
 clear w0 hE
 have h0' : ¬ (1048576 : Int) < (len0 : Int) := by omega
 go_enter Tryz.func3, Tryz.ntmps3
 go_wp2_with fail
 refine (big_any _ _ _ _).mono ?_
 rintro e w' ⟨rfl, hw⟩
 obtain rfl := hw.symm
 clear hw
 go_wp2_with fail
 refine (drawLies_any _ _ _ _ hc).mono ?_
 rintro e v1 ⟨k, N, S, G, c0, A, C, n1, Ga, ca, za, n2, Gb, cb, zb, hA, rfl, hP, hZa, hZb, hTa, hTb, b1⟩
 have K1 : Hid (CodeAt v1 a0 len0) := hc.below b1
 have KA : Hid (AllP k N S) := hA
 have hkn : 2 ≤ k ∧ k ≤ N ∧ N ≤ 7 := by have := hA.kn; unfold KnP at this; omega
 have HTa : Hid (Tkn k N n1 za ∧ n1 ≤ N) := hTa
 have HTb : Hid (Tkn k N n2 zb ∧ n2 ≤ N) := hTb
 have KB1 : Hid (Below w.heap.size w v1) := b1
 obtain ⟨P, HP⟩ : ∃ x, Hid (cutP (k : Int) N S = x) := ⟨_, rfl⟩
 rw [HP.out] at hP
 have KP : Hid (PiA v1 (some ⟨G, 0, none⟩) N A C P) := hP
 have HS : Hid (∀ i, i < N → PcS (P i)) := fun i hi => by rw [← HP.out]; exact all_s hA hi
 have KZa : Hid (IntsAt v1 (some ⟨Ga, 0, none⟩) n1 za) := hZa
 have KZb : Hid (IntsAt v1 (some ⟨Gb, 0, none⟩) n2 zb) := hZb
 have hn1 : n1 ≤ 7 := by omega
 have hn2 : n2 ≤ 7 := by omega
 have KR : Hid (∀ W, Below v1.heap.size v1 W → ∀ x, x < N → W.rangeAt G (x * 6) [.string (P x).r, .int .i64 (P x).k, .int .i64 (P x).n, .int .i64 (P x).i, .string (P x).b, .slice (A x) (P x).m (C x)]) := fun W hW x hx y v hv => by
  obtain ⟨⟨bb, off, eb, hcell⟩, _⟩ := KP.out x hx
  cases eb
  have hcw : ∀ y, y < 6 → W.cell? ⟨G, x * 6 + y, none⟩ = some (cel (P x) (.slice (A x) (P x).m (C x)) y) := fun y hy => by
   have h5 := hcell y hy
   rw [Nat.zero_add] at h5
   exact (hW.cell (block_lt_of_cell h5)).trans h5
  match y, hv with
  | 0, hv => cases hv; exact hcw 0 (by omega)
  | 1, hv => cases hv; exact hcw 1 (by omega)
  | 2, hv => cases hv; exact hcw 2 (by omega)
  | 3, hv => cases hv; exact hcw 3 (by omega)
  | 4, hv => cases hv; exact hcw 4 (by omega)
  | 5, hv => cases hv; exact hcw 5 (by omega)
  | y + 6, hv => simp at hv
 obtain ⟨H6, HH6⟩ : ∃ x, Hid (x = v1.heap.size) := ⟨_, rfl⟩
 obtain ⟨H7, HH7⟩ : ∃ x, Hid (x = v1.heap.size + 1) := ⟨_, rfl⟩
 obtain ⟨v2, HV2⟩ : ∃ x, Hid (x = (v1.alloc (.cells #[] 30)).alloc (.cells #[] 30)) := ⟨_, rfl⟩
 have HB12 : Hid (Below v1.heap.size v1 v2) := by show Below _ _ _; rw [HV2.out]; exact ((Below.refl _ _).alloc (Nat.le_refl _) _).alloc (by simp) _
 have HL6 : Hid (OwnC v2 v1.heap.size (some ⟨H6, 0, none⟩) 0 0 (tkC P A C za)) := by
  show OwnC _ _ _ _ _ _
  rw [HV2.out, HH6.out]
  exact World.ownsRow.alloc (World.ownsRow_lit v1 #[] 0 (Nat.le_refl _) (by unfold maxLen; omega) rfl) _
 have HL7 : Hid (Row v2 H7 30 #[]) := by
  show Row _ _ _ _
  rw [HV2.out, HH7.out]
  have := Row.new (v1.alloc (.cells #[] 30)) #[] 30
  simpa using this
 have H67 : Hid (H6 ≠ H7 ∧ v1.heap.size ≤ H6 ∧ v1.heap.size ≤ H7) := ⟨by have := HH6.out; have := HH7.out; omega, by have := HH6.out; omega, by have := HH7.out; omega⟩
 clear hc h0 h0' hA hP hTa hTb hZa hZb b1
 go_wp2_with fail
 rw [← HV2.out, ← HH7.out, ← HH6.out]
 go_loopw [6, 8] (fun v vi wr => ∃ i g cg : Nat, i ≤ n1 ∧ vi = .int .i64 (i : Int) ∧ v = .slice (some ⟨g, 0, none⟩) i cg ∧ Hid (OwnC wr v1.heap.size (some ⟨g, 0, none⟩) i cg (tkC P A C za) ∧ Row wr H7 30 #[] ∧ g ≠ H7 ∧ Below v1.heap.size v1 wr)) (fun _ vi _ => n1 - (intOf vi).toNat)
 case atStart => exact ⟨0, H6, 0, Nat.zero_le _, rfl, rfl, HL6.out, HL7.out, H67.out.1, HB12.out⟩
 case round =>
  obtain ⟨i, g, cg, hi, rfl, rfl, HI⟩ := hrel
  clear HL6 HL7 HB12 HV2 HH6 HH7
  by_cases hlt : i < n1
  ·have hii : (i : Int) < (n1 : Int) := by omega
   obtain ⟨b', off', eb, hcz⟩ := (KZa.out.below HI.out.2.2.2).2 i hlt
   cases eb
   rw [Nat.zero_add] at hcz
   have hzx := HTa.out.1.at hlt
   obtain ⟨x, HX⟩ : ∃ x : Nat, Hid (za.getD i 0 = (x : Int)) := ⟨(za.getD i 0).toNat, by show _ = _; omega⟩
   rw [HX.out] at hcz hzx
   have hx : x < N := by omega
   have hxi : (x : Int) < (N : Int) := by omega
   have R1 : Hid (wr.rangeAt G (x * 6) [.string (P x).r, .int .i64 (P x).k, .int .i64 (P x).n, .int .i64 (P x).i, .string (P x).b, .slice (A x) (P x).m (C x)]) := KR.out wr HI.out.2.2.2 x hx
   have hs := HI.out.2.2.2.size
   have lg := World.ownsRow.lt HI.out.1 g rfl
   clear hzx hx
   go_wp2_with (first | (at_builtin; refine wpList_append_lies _ (by rfl) _ _ 24 (by rfl) v1.heap.size 30 j0 (.agg #[.string ByteArray.empty, .int .i64 0, .int .i64 0, .int .i64 0, .string ByteArray.empty, .slice none 0 0]) 6 80 Tryz.underlying24 hj0 hy0 hy1 hy2 rfl (by decide) (.slice (some ⟨g, 0, none⟩) i cg) i _ (by rfl) (World.ownsRow.alloc HI.out.1 _) ⟨wr.heap.size, 0, none⟩ 1 1 [.string (P x).r, .int .i64 (P x).k, .int .i64 (P x).n, .int .i64 (P x).i, .string (P x).b, .slice (A x) (P x).m (C x)] (by rfl) (by rfl) (World.news_of_block (cs := #[.string (P x).r, .int .i64 (P x).k, .int .i64 (P x).n, .int .i64 (P x).i, .string (P x).b, .slice (A x) (P x).m (C x)]) (t := 30) (fr := (0, 0)) (heap_alloc_new wr _)) (by simp [Value.oneCell']) (by omega) (by unfold maxLen; omega) (by omega) (by simp; omega) (wr.heap.size + 1) (by simp) ?_; intro g3 cap3 w9 hown3 hgrow3 hat3 hlt3) | (refine wpList_load_mid (by rfl) 30 _ (by rfl) G (x * 6) (by rfl) [.string (P x).r, .int .i64 (P x).k, .int .i64 (P x).n, .int .i64 (P x).i, .string (P x).b, .slice (A x) (P x).m (C x)] _ ?_ Tryz.underlying30 (by rfl) Tryz.infoPc ?_; exact R1.out))
   have hgr : World.grownBy (wr.alloc (.cells #[.string (P x).r, .int .i64 (P x).k, .int .i64 (P x).n, .int .i64 (P x).i, .string (P x).b, .slice (A x) (P x).m (C x)] 30)) w9 (some g) := hgrow3
   have HN : Hid (OwnC w9 v1.heap.size (some ⟨g3, 0, none⟩) (i + 1) cap3 (tkC P A C za) ∧ Row w9 H7 30 #[] ∧ g3 ≠ H7 ∧ Below v1.heap.size v1 w9) := by
    have h7 := HI.out.2.1
    have h7l := h7.lt
    refine ⟨tk_snoc HX.out hown3, (h7.alloc _).keptG hgr (Ne.symm HI.out.2.2.1), ?_, (HI.out.2.2.2.alloc hs _).grown hgr (by simp; omega) (fun q hq => by cases hq; exact lg.1)⟩
    rcases hat3 with e | e
    ·have e2 : g = g3 := by simpa [Value.ownBlock] using e
     rw [← e2]; exact HI.out.2.2.1
    ·omega
   clear hown3 hgrow3 hgr hat3 hlt3 HI R1 hcz
   go_roundw
   case rel => exact ⟨i + 1, g3, cap3, by omega, by go_num, rfl, HN⟩
   case measure => simp [intOf]; omega
  ·obtain rfl : n1 = i := by omega
   have HI1 : Hid (OwnC wr v1.heap.size (some ⟨g, 0, none⟩) n1 cg (tkC P A C za) ∧ Below v1.heap.size v1 wr) := ⟨HI.out.1, HI.out.2.2.2⟩
   have HJ0 : Hid (OwnC wr v1.heap.size (some ⟨H7, 0, none⟩) 0 0 (tkC P A C zb)) := ⟨rfl, .inr ⟨H7, 0, #[], rfl, H67.out.2.2, HI.out.2.1, by omega, by unfold maxLen; omega, rfl, rfl⟩⟩
   have H7g : Hid (g ≠ H7) := HI.out.2.2.1
   obtain ⟨v3, hv3⟩ : ∃ x, x = wr := ⟨_, rfl⟩
   subst hv3
   clear HI
   go_wp2_with fail
   go_loopw [7, 9] (fun v vi wr => ∃ i g4 c4 : Nat, i ≤ n2 ∧ vi = .int .i64 (i : Int) ∧ v = .slice (some ⟨g4, 0, none⟩) i c4 ∧ Hid (OwnC wr v1.heap.size (some ⟨g4, 0, none⟩) i c4 (tkC P A C zb) ∧ OwnC wr v1.heap.size (some ⟨g, 0, none⟩) n1 cg (tkC P A C za) ∧ g4 ≠ g ∧ Below v1.heap.size v1 wr)) (fun _ vi _ => n2 - (intOf vi).toNat)
   case atStart => exact ⟨0, H7, 0, Nat.zero_le _, rfl, rfl, HJ0.out, HI1.out.1, Ne.symm H7g.out, HI1.out.2⟩
   case round =>
    obtain ⟨i, g4, c4, hi2, rfl, rfl, HI⟩ := hrel
    clear HI1 HJ0 H7g
    by_cases hlt2 : i < n2
    ·have hii : (i : Int) < (n2 : Int) := by omega
     obtain ⟨b', off', eb, hcz⟩ := (KZb.out.below HI.out.2.2.2).2 i hlt2
     cases eb
     rw [Nat.zero_add] at hcz
     have hzx := HTb.out.1.at hlt2
     obtain ⟨x, HX⟩ : ∃ x : Nat, Hid (zb.getD i 0 = (x : Int)) := ⟨(zb.getD i 0).toNat, by show _ = _; omega⟩
     rw [HX.out] at hcz hzx
     have hx : x < N := by omega
     have hxi : (x : Int) < (N : Int) := by omega
     have R1 : Hid (wr.rangeAt G (x * 6) [.string (P x).r, .int .i64 (P x).k, .int .i64 (P x).n, .int .i64 (P x).i, .string (P x).b, .slice (A x) (P x).m (C x)]) := KR.out wr HI.out.2.2.2 x hx
     have hs := HI.out.2.2.2.size
     have lg := World.ownsRow.lt HI.out.1 g4 rfl
     clear hzx hx
     go_wp2_with (first | (at_builtin; refine wpList_append_lies _ (by rfl) _ _ 24 (by rfl) v1.heap.size 30 j0 (.agg #[.string ByteArray.empty, .int .i64 0, .int .i64 0, .int .i64 0, .string ByteArray.empty, .slice none 0 0]) 6 80 Tryz.underlying24 hj0 hy0 hy1 hy2 rfl (by decide) (.slice (some ⟨g4, 0, none⟩) i c4) i _ (by rfl) (World.ownsRow.alloc HI.out.1 _) ⟨wr.heap.size, 0, none⟩ 1 1 [.string (P x).r, .int .i64 (P x).k, .int .i64 (P x).n, .int .i64 (P x).i, .string (P x).b, .slice (A x) (P x).m (C x)] (by rfl) (by rfl) (World.news_of_block (cs := #[.string (P x).r, .int .i64 (P x).k, .int .i64 (P x).n, .int .i64 (P x).i, .string (P x).b, .slice (A x) (P x).m (C x)]) (t := 30) (fr := (0, 0)) (heap_alloc_new wr _)) (by simp [Value.oneCell']) (by omega) (by unfold maxLen; omega) (by omega) (by simp; omega) (wr.heap.size + 1) (by simp) ?_; intro g3 cap3 w9 hown3 hgrow3 hat3 hlt3) | (refine wpList_load_mid (by rfl) 30 _ (by rfl) G (x * 6) (by rfl) [.string (P x).r, .int .i64 (P x).k, .int .i64 (P x).n, .int .i64 (P x).i, .string (P x).b, .slice (A x) (P x).m (C x)] _ ?_ Tryz.underlying30 (by rfl) Tryz.infoPc ?_; exact R1.out))
     have hgr : World.grownBy (wr.alloc (.cells #[.string (P x).r, .int .i64 (P x).k, .int .i64 (P x).n, .int .i64 (P x).i, .string (P x).b, .slice (A x) (P x).m (C x)] 30)) w9 (some g4) := hgrow3
     have HN : Hid (OwnC w9 v1.heap.size (some ⟨g3, 0, none⟩) (i + 1) cap3 (tkC P A C zb) ∧ OwnC w9 v1.heap.size (some ⟨g, 0, none⟩) n1 cg (tkC P A C za) ∧ g3 ≠ g ∧ Below v1.heap.size v1 w9) := by
      have hgl := (World.ownsRow.lt HI.out.2.1 g rfl).2
      refine ⟨tk_snoc HX.out hown3, own_kept (World.ownsRow.alloc HI.out.2.1 _) hgr (fun y e => by cases e; exact Ne.symm HI.out.2.2.1), ?_, (HI.out.2.2.2.alloc hs _).grown hgr (by simp; omega) (fun q hq => by cases hq; exact lg.1)⟩
      rcases hat3 with e | e
      ·have e2 : g4 = g3 := by simpa [Value.ownBlock] using e
       rw [← e2]; exact HI.out.2.2.1
      ·omega
     clear hown3 hgrow3 hgr hat3 hlt3 HI R1 hcz
     go_roundw
     case rel => exact ⟨i + 1, g3, cap3, by omega, by go_num, rfl, HN⟩
     case measure => simp [intOf]; omega
    ·obtain rfl : n2 = i := by omega
     obtain ⟨v4, hv4⟩ : ∃ x, x = wr := ⟨_, rfl⟩
     subst hv4
     have B14 : Hid (Below v1.heap.size v1 v4) := HI.out.2.2.2
     have KP1 : Hid (PiA v4 (some ⟨g, 0, none⟩) n1 (fun i => A (za.getD i 0).toNat) (fun i => C (za.getD i 0).toNat) (tkP k N S za)) := by
      have := tk_pia (N := N) HI.out.2.1 (fun i hi => by have := HTa.out.1.at hi; omega) KP.out HI.out.2.2.2
      rw [← HP.out] at this
      exact this
     have KP2 : Hid (PiA v4 (some ⟨g4, 0, none⟩) n2 (fun i => A (zb.getD i 0).toNat) (fun i => C (zb.getD i 0).toNat) (tkP k N S zb)) := by
      have := tk_pia (N := N) HI.out.1 (fun i hi => by have := HTb.out.1.at hi; omega) KP.out HI.out.2.2.2
      rw [← HP.out] at this
      exact this
     have HQa : Hid (∀ i, i < n1 → PcS (tkP k N S za i)) := fun i hi => by have := HTa.out.1.at hi; have := HS.out (za.getD i 0).toNat (by omega); rw [← HP.out] at this; exact this
     have HQb : Hid (∀ i, i < n2 → PcS (tkP k N S zb i)) := fun i hi => by have := HTb.out.1.at hi; have := HS.out (zb.getD i 0).toNat (by omega); rw [← HP.out] at this; exact this
     have HMa : Hid (∀ i, i < n1 → (tkP k N S za i).m ≤ 1048576) := fun i hi => by have := (HQa.out i hi).m; omega
     have HLa : Hid (∀ i, i < n1 → ∀ t, t < (tkP k N S za i).m → ((tkP k N S za i).S t).size ≤ maxLen) := fun i hi t ht => by have := (HQa.out i hi).s t ht; unfold maxLen; omega
     have HMb : Hid (∀ i, i < n2 → (tkP k N S zb i).m ≤ 1048576) := fun i hi => by have := (HQb.out i hi).m; omega
     have HLb : Hid (∀ i, i < n2 → ∀ t, t < (tkP k N S zb i).m → ((tkP k N S zb i).S t).size ≤ maxLen) := fun i hi t ht => by have := (HQb.out i hi).s t ht; unfold maxLen; omega
     have hn1' : n1 ≤ 1048576 := by omega
     have hn2' : n2 ≤ 1048576 := by omega
     have r0 := (KR.out v4 B14.out 0 (by omega)) 0 _ rfl
     rw [Nat.zero_mul, Nat.zero_add] at r0
     have h0N : (0 : Int) < (N : Int) := by omega
     obtain ⟨rt, HRT⟩ : ∃ x, Hid (tkR k N S = x) := ⟨_, rfl⟩
     have HR0 : Hid ((P 0).r = rt) := by show _ = _; rw [← HP.out, ← HRT.out]; rfl
     rw [HR0.out] at r0
     have KEv : Hid (∀ W, Below v1.heap.size v1 W → ErrT W) := fun W hW => (KE.out.below KB1.out).below hW
     have KI1 : Hid (∀ W, Below v4.heap.size v4 W → Calls Tryz.prog 7 #[.string rt, .slice (some ⟨g, 0, none⟩) n1 cg] W fun e w' => Below W.heap.size W w' ∧ RgA rt n1 (tkP k N S za) e) := fun W hW => regain_any rt (some ⟨g, 0, none⟩) n1 cg _ _ (tkP k N S za) W (KP1.out.below hW) (KEv.out W (below2 B14.out hW)) hn1' HMa.out HLa.out (sort_ok _ _ _)
     have KI2 : Hid (∀ W, Below v4.heap.size v4 W → Calls Tryz.prog 7 #[.string rt, .slice (some ⟨g4, 0, none⟩) n2 c4] W fun e w' => Below W.heap.size W w' ∧ RgA rt n2 (tkP k N S zb) e) := fun W hW => regain_any rt (some ⟨g4, 0, none⟩) n2 c4 _ _ (tkP k N S zb) W (KP2.out.below hW) (KEv.out W (below2 B14.out hW)) hn2' HMb.out HLb.out (sort_ok _ _ _)
     have KS1 : Hid (∀ W, Below v4.heap.size v4 W → Calls Tryz.prog 8 #[.string rt, .slice (some ⟨g, 0, none⟩) n1 cg] W fun e w' => Below W.heap.size W w' ∧ RgA rt n1 (tkP k N S za) e) := fun W hW => (sRegain_any rt (some ⟨g, 0, none⟩) n1 cg _ _ (tkP k N S za) W (fun W2 hW2 => chosen_any rt (some ⟨g, 0, none⟩) n1 cg _ _ (tkP k N S za) W2 ((KP1.out.below hW).below hW2) hn1' HMa.out HLa.out)).mono fun e w' ⟨hb, hS⟩ => ⟨hb, by
      rcases hS with h | ⟨h4, L, h5, h6, h7⟩
      ·exact .inl h
      ·exact .inr ⟨h4, L, h5, h6, rs_rg h7⟩⟩
     have KS2 : Hid (∀ W, Below v4.heap.size v4 W → Calls Tryz.prog 8 #[.string rt, .slice (some ⟨g4, 0, none⟩) n2 c4] W fun e w' => Below W.heap.size W w' ∧ RgA rt n2 (tkP k N S zb) e) := fun W hW => (sRegain_any rt (some ⟨g4, 0, none⟩) n2 c4 _ _ (tkP k N S zb) W (fun W2 hW2 => chosen_any rt (some ⟨g4, 0, none⟩) n2 c4 _ _ (tkP k N S zb) W2 ((KP2.out.below hW).below hW2) hn2' HMb.out HLb.out)).mono fun e w' ⟨hb, hS⟩ => ⟨hb, by
      rcases hS with h | ⟨h4, L, h5, h6, h7⟩
      ·exact .inl h
      ·exact .inr ⟨h4, L, h5, h6, rs_rg h7⟩⟩
     clear HI
     go_wp2_with fail
     refine Calls.mono (KI1.out _ (Below.refl _ _)) ?_
     rintro e u1 ⟨bu1, hI⟩
     obtain ⟨ts, cs, rfl⟩ := rgA_is hI
     have HIa : Hid (RgA rt n1 (tkP k N S za) (.returned (.tuple #[.string ts, .int .i64 cs]))) := hI
     have BU1 : Hid (Below v4.heap.size v4 u1) := bu1
     clear hI bu1 KI1 r0
     go_wp2_with fail
     refine Calls.mono (KI2.out _ BU1.out) ?_
     rintro e u2 ⟨bu2, hI⟩
     obtain ⟨tt, ct, rfl⟩ := rgA_is hI
     have HIb : Hid (RgA rt n2 (tkP k N S zb) (.returned (.tuple #[.string tt, .int .i64 ct]))) := hI
     have BU2 : Hid (Below v4.heap.size v4 u2) := below2 BU1.out bu2
     clear hI bu2 KI2
     go_wp2_with fail
     refine Calls.mono (KS1.out _ BU2.out) ?_
     rintro e u3 ⟨bu3, hI⟩
     obtain rfl := rgA_one HIa.out hI
     have BU3 : Hid (Below v4.heap.size v4 u3) := below2 BU2.out bu3
     clear hI bu3 KS1
     go_wp2_with fail
     refine Calls.mono (KS2.out _ BU3.out) ?_
     rintro e u4 ⟨bu4, hI⟩
     obtain rfl := rgA_one HIb.out hI
     have BU4 : Hid (Below v4.heap.size v4 u4) := below2 BU3.out bu4
     have f1 : (cs != cs) = false := by simp
     have f2 : (ts.toList != ts.toList) = false := by simp
     have f2' := ba_beq ts
     have f3 : (ct != ct) = false := by simp
     have f4 : (tt.toList != tt.toList) = false := by simp
     have f4' := ba_beq tt
     have g1 : (cs == 1) = false := by
      have h5 := HIa.out
      rw [← HRT.out] at h5
      simpa using tk_code KA.out HTa.out.1 HTa.out.2 h5
     have g2 : (ct == 1) = false := by
      have h5 := HIb.out
      rw [← HRT.out] at h5
      simpa using tk_code KA.out HTb.out.1 HTb.out.2 h5
     obtain ⟨u5, HU5⟩ : ∃ x, Hid (x = u4.alloc (.cells #[] 9)) := ⟨_, rfl⟩
     have HB45 : Hid (Below u4.heap.size u4 u5) := by show Below _ _ _; rw [HU5.out]; exact (Below.refl _ _).alloc (Nat.le_refl _) _
     have HT5 : Hid (OwnT u5 u4.heap.size (some ⟨u4.heap.size, 0, none⟩) 0 0 S) := by show OwnT _ _ _ _ _ _; rw [HU5.out]; exact litT u4 S
     clear hI bu4 KS2
     go_wp2_with fail
     rw [← HU5.out]
     go_loopw [19, 20] (fun v vi wr => ∃ i gt ct : Nat, i ≤ N ∧ vi = .int .i64 (i : Int) ∧ v = .slice (some ⟨gt, 0, none⟩) i ct ∧ Hid (OwnT wr u4.heap.size (some ⟨gt, 0, none⟩) i ct S ∧ Below u4.heap.size u4 wr)) (fun _ vi _ => N - (intOf vi).toNat)
     case atStart => exact ⟨0, u4.heap.size, 0, Nat.zero_le _, rfl, rfl, HT5.out, HB45.out⟩
     case round =>
      obtain ⟨i, gt, cgt, hiN, rfl, rfl, HI⟩ := hrel
      clear HT5 HB45 HU5
      by_cases hlt3 : i < N
      ·have hii : (i : Int) < (N : Int) := by omega
       have hcb := (KR.out wr (below2 B14.out (below2 BU4.out HI.out.2)) i hlt3) 4 _ rfl
       have HPb : Hid ((P i).b = S i) := by show _ = _; rw [← HP.out]; rfl
       rw [HPb.out] at hcb
       have hs := HI.out.2.size
       have lg := World.ownsRow.lt HI.out.1 gt rfl
       go_wp2_with (at_builtin; refine wpList_append_all _ (by rfl) _ _ 28 (by rfl) u4.heap.size 9 i0 (.string ByteArray.empty) 1 16 Tryz.underlying28 hi0 hz0 hz1 hz2 rfl (by decide) gt i cgt _ (by rfl) (World.ownsRow.alloc HI.out.1 _) ⟨wr.heap.size, 0, none⟩ 1 1 [.string (S i)] (by rfl) (by rfl) (World.news_of_block (cs := #[.string (S i)]) (t := 9) (fr := (0, 0)) (heap_alloc_new wr _)) (by simp [Value.oneCell']) (by unfold maxLen; omega) (by omega) (by simp; omega) ?_; intro g3 cap3 w9 hown3 hgrow3)
       have HN : Hid (OwnT w9 u4.heap.size (some ⟨g3, 0, none⟩) (i + 1) cap3 S ∧ Below u4.heap.size u4 w9) := by
        refine ⟨?_, (HI.out.2.alloc hs _).grown (show World.grownBy _ w9 (some gt) from hgrow3) (by simp; omega) (fun q hq => by cases hq; exact lg.1)⟩
        unfold OwnT
        rw [sL_snoc]
        exact hown3
       clear hown3 hgrow3 HI hcb
       go_roundw
       case rel => exact ⟨i + 1, g3, cap3, by omega, by go_num, rfl, HN⟩
       case measure => simp [intOf]; omega
      ·obtain rfl : N = i := by omega
       obtain ⟨u6, hu6⟩ : ∃ x, x = wr := ⟨_, rfl⟩
       subst hu6
       have BU6 : Hid (Below v4.heap.size v4 u6) := below2 BU4.out HI.out.2
       have hrow0 := KR.out u6 (below2 B14.out BU6.out) 0 (by omega)
       have q1 := hrow0 1 _ rfl
       have q2 := hrow0 2 _ rfl
       rw [Nat.zero_mul, Nat.zero_add] at q1 q2
       have HK0 : Hid ((P 0).k = (k : Int) ∧ (P 0).n = (N : Int)) := by rw [← HP.out]; exact ⟨rfl, rfl⟩
       rw [HK0.out.1] at q1
       rw [HK0.out.2] at q2
       have X1 : ∀ d os, (grow (redrawn u6 d) os).cell? ⟨G, 1, none⟩ = some (.int .i64 (k : Int)) := fun d os => cell_regrown q1 d os
       have X2 : ∀ d os, (grow (redrawn u6 d) os).cell? ⟨G, 2, none⟩ = some (.int .i64 (N : Int)) := fun d os => cell_regrown q2 d os
       obtain ⟨ab, HAB⟩ : ∃ x, Hid (agr (k : Int) (N : Int) N S = x) := ⟨_, rfl⟩
       have hcap : N ≤ cgt ∧ cgt ≤ maxLen := by
        rcases HI.out.1.2 with ⟨e, _⟩ | ⟨g', c', cu, e, _, _, h5, h6, _⟩
        ·cases e
        ·cases e; exact ⟨h5, h6⟩
       have N1 : ∀ d os, Calls Tryz.prog 9 #[.int .i64 (k : Int), .int .i64 (N : Int), .slice (some ⟨gt, 0, none⟩) N cgt] (grow (redrawn u6 d) os) fun e w' => e = .returned (.bool ab) ∧ ∃ p : Regrown, w' = grow (redrawn u6 p.d) p.os := fun d os => Calls.regrown_of ((agree_any (k : Int) (N : Int) (some ⟨gt, 0, none⟩) N cgt S (grow (redrawn u6 d) os) ((OwnT.at HI.out.1).below (below_regrown u6 d os)) hcap.1 hcap.2 (by omega) (fun _ => by have := (KA.out.b 0 (by omega)).2; omega)).mono fun e w' h => ⟨by rw [h.1, HAB.out], h.2⟩)
       clear hrow0 q1 q2 HI hcap
       go_wp2_with fail
       refine wp_region_quiet_below (by kernel_rfl) (by kernel_rfl) ?_
       repeat (go_big_quiet_step (first | (with_reducible exact N1 _ _)))
       refine wpQuiet_nil ?_
       intro _ hw'
       obtain ⟨⟨dq, osq⟩, hw''⟩ := hw'
       subst hw''
       have bq := below_regrown u6 dq osq
       obtain ⟨u7, HU7⟩ : ∃ x, Hid (x = grow (redrawn u6 dq) osq) := ⟨_, rfl⟩
       rw [← HU7.out] at bq ⊢
       have BU7 : Hid (Below v4.heap.size v4 u7) := below2 BU6.out bq
       clear bq X1 X2 N1
       cases ab with
       | false =>
        go_wp2
        go_ret
        exact ⟨rfl, below2 KB1.out (below2 B14.out BU7.out)⟩
       | true =>
        have HG : Hid (Agr (k : Int) (N : Int) N S) := Classical.byContradiction fun hno => by have := HAB.out; rw [agr_no hno] at this; cases this
        have hone : (ts = tt ∧ cs = ct) := by
         have h5 := HIa.out
         have h6 := HIb.out
         rw [← HRT.out] at h5 h6
         have := tk_one KA.out HG.out HTa.out.1 HTa.out.2 HTb.out.1 HTb.out.2 h5 h6
         injection this with e1
         injection e1 with e1
         simp at e1
         exact ⟨e1.1.symm, e1.2.symm⟩
        obtain ⟨rfl, rfl⟩ := hone
        obtain ⟨tq, htq, hat⟩ := lawAt_fix a0 len0 cap0 3 v1 K1.out (by omega)
        have KT : Hid (∀ W, Below v4.heap.size v4 W → Calls Tryz.prog 11 #[.slice a0 len0 cap0, .int .i64 3] W fun e w' => e = .returned (.int .i64 (tq : Int)) ∧ w' = W) := fun W hW => hat W (below2 B14.out hW)
        obtain ⟨q, HQ⟩ : ∃ q : Nat, Hid (Int.tmod (tq : Int) (N : Int) = (q : Int) ∧ q < N) := ⟨tq % N, by
         have h5 : tq % N < N := Nat.mod_lt _ (by omega)
         exact ⟨by rw [Int.tmod_eq_emod_of_nonneg (by omega)]; omega, h5⟩⟩
        have hq := HQ.out.1
        have hNz : ((N : Int) == 0) = false := by simp; omega
        have hNz' : ¬ ((N : Int) = 0) := by omega
        have KM1 : Hid (∀ W, Below v4.heap.size v4 W → Calls Tryz.prog 10 #[.string rt, .slice (some ⟨g, 0, none⟩) n1 cg, .int .i64 (q : Int)] W fun e w' => Below W.heap.size W w' ∧ RmA W w' rt n1 (tkP k N S za) (q : Int) e) := fun W hW => (remake_any rt (some ⟨g, 0, none⟩) n1 cg _ _ (tkP k N S za) (q : Int) W (KP1.out.below hW) (KEv.out W (below2 B14.out hW)) hn1' HMa.out HLa.out (sort_ok _ _ _)).mono fun e w' ⟨hb, hS⟩ => ⟨hb, rmA_of hS⟩
        have KM2 : Hid (∀ W, Below v4.heap.size v4 W → Calls Tryz.prog 10 #[.string rt, .slice (some ⟨g4, 0, none⟩) n2 c4, .int .i64 (q : Int)] W fun e w' => Below W.heap.size W w' ∧ RmA W w' rt n2 (tkP k N S zb) (q : Int) e) := fun W hW => (remake_any rt (some ⟨g4, 0, none⟩) n2 c4 _ _ (tkP k N S zb) (q : Int) W (KP2.out.below hW) (KEv.out W (below2 B14.out hW)) hn2' HMb.out HLb.out (sort_ok _ _ _)).mono fun e w' ⟨hb, hS⟩ => ⟨hb, rmA_of hS⟩
        have HPq : Hid (P q = cutP (k : Int) N S q ∧ (P q).m ≤ 1048576) := ⟨by rw [HP.out], by have := (HS.out q HQ.out.2).m; omega⟩
        clear hat htq
        go_wp2_with fail
        refine Calls.mono (KT.out _ BU7.out) ?_
        rintro e u8 ⟨rfl, hw8⟩
        obtain rfl := hw8.symm
        clear hw8
        go_wp2_with fail
        refine Calls.mono (KM1.out _ BU7.out) ?_
        rintro e u8 ⟨b8, p, c, a8, c8, rfl, O8, hm8, hRm⟩
        have hrm : p = P q ∧ c = 0 := by
         rw [← HRT.out] at hRm
         rw [HPq.out.1]
         exact tk_rm KA.out HG.out HTa.out.1 HTa.out.2 HQ.out.2 hRm
        obtain ⟨rfl, rfl⟩ := hrm
        obtain ⟨D8, HD8⟩ : ∃ x, Hid (x = u8.heap.size) := ⟨_, rfl⟩
        obtain ⟨u9, HU9⟩ : ∃ x, Hid (x = u8.alloc (.cells (pcC (P q).r (P q).k (P q).n (P q).i (P q).b (.slice a8 (P q).m c8)) 30)) := ⟨_, rfl⟩
        have b89 : Below u8.heap.size u8 u9 := by rw [HU9.out]; exact (Below.refl _ _).alloc (Nat.le_refl _) _
        have R9 : Hid (Row u9 D8 30 (pcC (P q).r (P q).k (P q).n (P q).i (P q).b (.slice a8 (P q).m c8))) := by show Row _ _ _ _; rw [HU9.out, HD8.out]; exact Row.new u8 _ _
        have T9 : Hid (TxtAt u9 a8 (P q).m (P q).S) := (OwnT.at O8).below b89
        have BU9 : Hid (Below v4.heap.size v4 u9) := below2 BU7.out (below2 b8 b89)
        clear b8 O8 hm8 hRm b89 KM1 BU7
        go_wp2_with fail
        rw [← HU9.out, ← HD8.out]
        refine Calls.mono (KT.out _ BU9.out) ?_
        rintro e u10 ⟨rfl, hw10⟩
        obtain rfl := hw10.symm
        clear hw10
        go_wp2_with fail
        refine Calls.mono (KM2.out _ BU9.out) ?_
        rintro e u10 ⟨b10, p, c, a10, c10, rfl, O10, hm10, hRm⟩
        have hrm : p = P q ∧ c = 0 := by
         rw [← HRT.out] at hRm
         rw [HPq.out.1]
         exact tk_rm KA.out HG.out HTb.out.1 HTb.out.2 HQ.out.2 hRm
        obtain ⟨rfl, rfl⟩ := hrm
        obtain ⟨D10, HD10⟩ : ∃ x, Hid (x = u10.heap.size) := ⟨_, rfl⟩
        obtain ⟨u11, HU11⟩ : ∃ x, Hid (x = u10.alloc (.cells (pcC (P q).r (P q).k (P q).n (P q).i (P q).b (.slice a10 (P q).m c10)) 30)) := ⟨_, rfl⟩
        have b1011 : Below u10.heap.size u10 u11 := by rw [HU11.out]; exact (Below.refl _ _).alloc (Nat.le_refl _) _
        have b911 := below2 b10 b1011
        have R11 : Hid (Row u11 D10 30 (pcC (P q).r (P q).k (P q).n (P q).i (P q).b (.slice a10 (P q).m c10))) := by show Row _ _ _ _; rw [HU11.out, HD10.out]; exact Row.new u10 _ _
        have T11 : Hid (TxtAt u11 a10 (P q).m (P q).S) := (OwnT.at O10).below b1011
        have R9' : Hid (Row u11 D8 30 (pcC (P q).r (P q).k (P q).n (P q).i (P q).b (.slice a8 (P q).m c8))) := R9.out.below b911 R9.out.lt
        have T9' : Hid (TxtAt u11 a8 (P q).m (P q).S) := T9.out.below b911
        have BU11 : Hid (Below v4.heap.size v4 u11) := below2 BU9.out b911
        have KSP : Hid _ := samePc_same (P q).r (P q).k (P q).n (P q).i (P q).b a8 a10 (P q).m c8 c10 (P q).S u11 T9'.out T11.out HPq.out.2
        have x0 := R9'.out.cell 0
        have x1 := R9'.out.cell 1
        have x2 := R9'.out.cell 2
        have x3 := R9'.out.cell 3
        have x4 := R9'.out.cell 4
        have x5 := R9'.out.cell 5
        have y0 := R11.out.cell 0
        have y1 := R11.out.cell 1
        have y2 := R11.out.cell 2
        have y3 := R11.out.cell 3
        have y4 := R11.out.cell 4
        have y5 := R11.out.cell 5
        simp at x0 y0 x1 y1 x2 y2 x3 y3 x4 y4 x5 y5
        clear b10 O10 hm10 hRm b1011 b911 KM2 BU9 R9 T9
        rcases Bool.eq_false_or_eq_true (cs == 0) with hcs | hcs
        all_goals
         go_upto_region 31 with fail
         rw [← HU11.out, ← HD10.out]
         go_wp2_with fail
         refine Calls.mono KSP.out ?_
         rintro e u12 ⟨rfl, b12⟩
         have R12 : Hid (Row u12 D8 30 (pcC (P q).r (P q).k (P q).n (P q).i (P q).b (.slice a8 (P q).m c8))) := R9'.out.below b12 R9'.out.lt
         have BU12 : Hid (Below v4.heap.size v4 u12) := below2 BU11.out b12
         have T12 : Hid (TxtAt u12 a8 (P q).m (P q).S) := T9'.out.below b12
         have hrow := KR.out u12 (below2 B14.out BU12.out) q HQ.out.2
         have TA : Hid (TxtAt u12 (A q) (P q).m (P q).S) := ((KP.out q HQ.out.2).2).below (below2 B14.out BU12.out)
         have p0 := R12.out.cell 0
         have p1 := R12.out.cell 1
         have p2 := R12.out.cell 2
         have p3 := R12.out.cell 3
         have p4 := R12.out.cell 4
         have p5 := R12.out.cell 5
         simp at p0 p1 p2 p3 p4 p5
         have s0 := hrow 0 _ rfl
         have s1 := hrow 1 _ rfl
         have s2 := hrow 2 _ rfl
         have s3 := hrow 3 _ rfl
         have s4 := hrow 4 _ rfl
         have s5 := hrow 5 _ rfl
         rw [Nat.add_zero] at s0
         have XP0 : ∀ d os, (grow (redrawn u12 d) os).cell? ⟨D8, 0, none⟩ = _ := fun d os => cell_regrown p0 d os
         have XP1 : ∀ d os, (grow (redrawn u12 d) os).cell? ⟨D8, 1, none⟩ = _ := fun d os => cell_regrown p1 d os
         have XP2 : ∀ d os, (grow (redrawn u12 d) os).cell? ⟨D8, 2, none⟩ = _ := fun d os => cell_regrown p2 d os
         have XP3 : ∀ d os, (grow (redrawn u12 d) os).cell? ⟨D8, 3, none⟩ = _ := fun d os => cell_regrown p3 d os
         have XP4 : ∀ d os, (grow (redrawn u12 d) os).cell? ⟨D8, 4, none⟩ = _ := fun d os => cell_regrown p4 d os
         have XP5 : ∀ d os, (grow (redrawn u12 d) os).cell? ⟨D8, 5, none⟩ = _ := fun d os => cell_regrown p5 d os
         have XS0 : ∀ d os, (grow (redrawn u12 d) os).cell? ⟨G, q * 6, none⟩ = _ := fun d os => cell_regrown s0 d os
         have XS1 : ∀ d os, (grow (redrawn u12 d) os).cell? ⟨G, q * 6 + 1, none⟩ = _ := fun d os => cell_regrown s1 d os
         have XS2 : ∀ d os, (grow (redrawn u12 d) os).cell? ⟨G, q * 6 + 2, none⟩ = _ := fun d os => cell_regrown s2 d os
         have XS3 : ∀ d os, (grow (redrawn u12 d) os).cell? ⟨G, q * 6 + 3, none⟩ = _ := fun d os => cell_regrown s3 d os
         have XS4 : ∀ d os, (grow (redrawn u12 d) os).cell? ⟨G, q * 6 + 4, none⟩ = _ := fun d os => cell_regrown s4 d os
         have XS5 : ∀ d os, (grow (redrawn u12 d) os).cell? ⟨G, q * 6 + 5, none⟩ = _ := fun d os => cell_regrown s5 d os
         have N1 : ∀ d os, Calls Tryz.prog 11 #[.slice a0 len0 cap0, .int .i64 3] (grow (redrawn u12 d) os) fun e w' => e = .returned (.int .i64 (tq : Int)) ∧ ∃ p : Regrown, w' = grow (redrawn u12 p.d) p.os := fun d os => Calls.regrown_of ((KT.out (grow (redrawn u12 d) os) (below2 BU12.out (below_regrown u12 d os))).mono fun e w' h => ⟨h.1, by rw [h.2]; exact Below.refl _ _⟩)
         have N2 : ∀ d os, Calls Tryz.prog 12 #[pcV (P q).r (P q).k (P q).n (P q).i (P q).b (.slice a8 (P q).m c8), pcV (P q).r (P q).k (P q).n (P q).i (P q).b (.slice (A q) (P q).m (C q))] (grow (redrawn u12 d) os) fun e w' => e = .returned (.bool true) ∧ ∃ p : Regrown, w' = grow (redrawn u12 p.d) p.os := fun d os => Calls.regrown_of (samePc_same (P q).r (P q).k (P q).n (P q).i (P q).b a8 (A q) (P q).m c8 (C q) (P q).S (grow (redrawn u12 d) os) (T12.out.below (below_regrown u12 d os)) (TA.out.below (below_regrown u12 d os)) HPq.out.2)
         have hqN : (q : Int) < (N : Int) := by have := HQ.out.2; omega
         clear b12 R9' T9' T11 R11 KSP hrow BU11 p0 s0 x0 y0 p1 s1 x1 y1 p2 s2 x2 y2 p3 s3 x3 y3 p4 s4 x4 y4 p5 s5 x5 y5
         go_wp2_with fail
         refine wp_region_quiet_below (by kernel_rfl) (by kernel_rfl) ?_
         repeat (go_big_quiet_step (first | (with_reducible exact N1 _ _) | (with_reducible exact N2 _ _)))
         refine wpQuiet_nil ?_
         intro _ hw'
         obtain ⟨⟨dq2, osq2⟩, hw''⟩ := hw'
         subst hw''
         have HBf : Hid (Below w.heap.size w (grow (redrawn u12 dq2) osq2)) := below2 KB1.out (below2 B14.out (below2 BU12.out (below_regrown u12 dq2 osq2)))
         go_wp2
         go_ret
         exact ⟨rfl, HBf.out⟩
end Go.Proofs.YtodnodekheaacaaGreatDoor
