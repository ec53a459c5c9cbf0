/- The matrices that the program opens bodies with, and the bodies that it answers; the same of the model. Conditions: at most 2^20 places and bodies, each of at most 2^20 bytes. -/
import Derived.Test.YthnjhjgffkilcaaGreatDoorH35
import Derived.Test.YthnjhjgffkilcaaGreatDoorH12
namespace Go.Proofs.YthnjhjgffkilcaaGreatDoor
set_option maxRecDepth 2000
open Go.ChangeShapes Go.WideShapes Go.ChangeAt Go.RowKit

/-- The rows of a spread at places, as they are read. -/
def pkM (n k : Nat) (zs : List Int) : Nat → Nat → Nat := pkF (bZ n (fun _ => k) (fun i j => ((Gm.sprd k i j : Nat) : Int))) zs
/-- What leads back from bodies at places to the first k. -/
noncomputable def bkM (n k : Nat) (zs : List Int) : Nat → Nat → Nat := Gm.iv (bZ k (fun _ => k) (fun i j => ((pkM n k zs i j : Nat) : Int))) k
theorem bkM_byt (n k : Nat) (zs : List Int) : Gm.Byt (bkM n k zs) := Gm.iv_byt (bZ_byt _ _ _) k
theorem Rgt.diff {k n : Nat} {zs : List Int} {nb : Nat} {S : Nat → ByteArray} (h : Rgt (k : Int) (n : Int) zs nb S) : Diff n zs := by
  obtain ⟨_, h2, h3, _, h5⟩ := h
  refine ⟨?_, fun x hx => ?_⟩
  · unfold List.Nodup
    rw [List.pairwise_iff_getElem]
    intro i j hi hj hij
    have := (h5 j (by omega)).2.2 i hij
    simpa [List.getD, hi, hj] using this
  · obtain ⟨i, hi, rfl⟩ := List.getElem_of_mem hx
    have := (h5 i (by omega)).1
    simpa [List.getD, hi] using this
/-- The program's look and the model's are one. -/
theorem open_iff {k n : Nat} {zs : List Int} {nb : Nat} {S : Nat → ByteArray} (hok : sprOk (k : Int) (n : Int) = true) :
    (Evn nb S (k : Int) ∧ pkOk n (fun _ => k) (fun i j => ((Gm.sprd k i j : Nat) : Int)) zs = true ∧ InvOk (pkR n (fun _ => k) (fun i j => ((Gm.sprd k i j : Nat) : Int)) zs) (fun _ => k) (fun i j => ((pkM n k zs i j : Nat) : Int))) ↔ Rgt (k : Int) (n : Int) zs nb S := by
  obtain ⟨q1, q2, q3⟩ := sprOk_parts hok
  constructor
  · rintro ⟨⟨hE1, hE2⟩, hp, hi⟩
    have hR : pkR n (fun _ => k) (fun i j => ((Gm.sprd k i j : Nat) : Int)) zs = zs.length := by unfold pkR; rw [if_pos hp]
    have hpl : Places n zs := Classical.byContradiction fun hno => by
      rw [pkOk_no (fun h => hno h.2)] at hp
      exact absurd hp (by simp)
    rw [hR] at hi
    obtain ⟨ok, hl, hr⟩ := hi
    have hl' : zs.length = k := hl
    refine ⟨hok, by omega, hE1, (hE2 0 (by omega)).1, fun i hi => ⟨?_, (hE2 i hi).2, fun j hj he => ?_⟩⟩
    · exact hpl.2.2 i (by omega)
    · rw [hl'] at hr
      have hA := bZ_byt k (fun _ => k) (fun i j => ((pkM n k zs i j : Nat) : Int))
      have d1 := (Gm.iv_both hA hr i i (by omega) (by omega)).1
      have d2 := (Gm.iv_both hA hr j i (by omega) (by omega)).1
      have hB : Gm.Byt (pkM n k zs) := fun a b => by unfold pkM pkF; exact bZ_byt _ _ _ _ _
      have e : Gm.mp k (bZ k (fun _ => k) (fun i j => ((pkM n k zs i j : Nat) : Int))) (Gm.iv (bZ k (fun _ => k) (fun i j => ((pkM n k zs i j : Nat) : Int))) k) i i = Gm.mp k (bZ k (fun _ => k) (fun i j => ((pkM n k zs i j : Nat) : Int))) (Gm.iv (bZ k (fun _ => k) (fun i j => ((pkM n k zs i j : Nat) : Int))) k) j i := by
        unfold Gm.mp
        refine Gm.sm_congr (fun t ht => ?_)
        rw [bZ_at (show i < k by omega) ht (hB i t), bZ_at (show j < k by omega) ht (hB j t)]
        unfold pkM pkF
        rw [he]
      rw [d1, d2] at e
      unfold Gm.dl at e
      rw [if_pos rfl, if_neg (by omega)] at e
      omega
  · intro h
    obtain ⟨e1, e2, io, _⟩ := spread_pick h.diff (by have := h.2.1; omega) (show 1 ≤ k by omega) (by omega) (by omega)
    obtain ⟨_, h2, h3, h4, h5⟩ := h
    refine ⟨⟨h3, fun i hi => ⟨by rw [(h5 i hi).2.1]; exact h4, (h5 i hi).2.1⟩⟩, e1, ?_⟩
    rw [e2]
    exact io

set_option maxRecDepth 100000 in
set_option maxHeartbeats 4000000 in
theorem opened_any (k n : Int) (pa : Option Addr) (np pc : Nat) (zs : List Int) (a : Option Addr) (nb c : Nat) (S : Nat → ByteArray) (w : World) (hz : IntsAt w pa np zs) (h : TxtAt w a nb S) (hnp : np ≤ 1048576) (hnb : nb ≤ 1048576) :
    Calls Tryz.prog 136 #[.int .i64 k, .int .i64 n, .slice pa np pc, .slice a nb c] w fun e w' => ∃ v u, e = .returned (.tuple #[v, u, .bool (rgt k n zs nb S)]) ∧ (Rgt k n zs nb S → (∃ x y, v = .slice x n.toNat y ∧ MatAt w' x n.toNat (fun _ => k.toNat) (fun i j => ((Gm.sprd k.toNat i j : Nat) : Int))) ∧ ∃ x y, u = .slice x k.toNat y ∧ MatAt w' x k.toNat (fun _ => k.toNat) (fun i j => ((bkM n.toNat k.toNat zs i j : Nat) : Int))) ∧ Below w.heap.size w w' := by
  have KSP : Hid _ := spread_any k n w
  by_cases hok : sprOk k n = true
  case neg =>
    have hno : ¬ Rgt k n zs nb S := fun h => hok h.1
    have HE : Hid (rgt k n zs nb S = false) := rgt_no hno
    have KNO : Hid (¬ Rgt k n zs nb S) := hno
    have hok' : sprOk k n = false := by simpa using hok
    rw [hok'] at KSP
    clear hok hok' h hz hno
    go_enter Tryz.func136, Tryz.ntmps136
    go_wp2_with fail
    refine Calls.mono KSP.out ?_
    rintro e w1 ⟨v, rfl, _, hb1⟩
    go_wp2
    go_ret3
    exact ⟨_, _, by rw [HE.out] <;> rfl, fun h => absurd h KNO.out, hb1⟩
  obtain ⟨q1, q2, q3⟩ := sprOk_parts hok
  obtain ⟨K, rfl⟩ := Int.eq_ofNat_of_zero_le (show 0 ≤ k by omega)
  obtain ⟨M, rfl⟩ := Int.eq_ofNat_of_zero_le (show 0 ≤ n by omega)
  have hR : sprR (K : Int) (M : Int) = M := by unfold sprR; rw [if_pos hok]; simp
  rw [hok, hR, Int.toNat_natCast] at KSP
  rw [Int.toNat_natCast, Int.toNat_natCast]
  have KOI : Hid _ := open_iff (zs := zs) (nb := nb) (S := S) hok
  have KZ : Hid (IntsAt w pa np zs) := hz
  have KH : Hid (TxtAt w a nb S) := h
  have hEv := fun w (h : TxtAt w a nb S) => areEven_any a nb c S (K : Int) w h hnb
  clear hR hok h hz
  by_cases hev : Evn nb S (K : Int)
  case neg =>
    have hno : ¬ Rgt (K : Int) (M : Int) zs nb S := fun h => hev (KOI.out.2 h).1
    have HE : Hid (rgt (K : Int) (M : Int) zs nb S = false) := rgt_no hno
    have KNO : Hid (¬ Rgt (K : Int) (M : Int) zs nb S) := hno
    rw [evn_no hev] at hEv
    clear hno hev
    go_enter Tryz.func136, Tryz.ntmps136
    go_wp2_with fail
    refine Calls.mono KSP.out ?_
    rintro e w1 ⟨v, rfl, _, hb1⟩
    have KH1 : Hid (TxtAt w1 a nb S) := KH.out.below hb1
    go_wp2_with (go_at_call 92; refine (hEv _ KH1.out).mono ?_; rintro e w' ⟨rfl, hw⟩; obtain rfl := hw.symm)
    go_ret3
    exact ⟨_, _, by rw [HE.out] <;> rfl, fun h => absurd h KNO.out, hb1⟩
  rw [evn_yes hev] at hEv
  by_cases hpk : pkOk M (fun _ => K) (fun i j => ((Gm.sprd K i j : Nat) : Int)) zs = true
  case neg =>
    have hno : ¬ Rgt (K : Int) (M : Int) zs nb S := fun h => hpk (KOI.out.2 h).2.1
    have HE : Hid (rgt (K : Int) (M : Int) zs nb S = false) := rgt_no hno
    have KNO : Hid (¬ Rgt (K : Int) (M : Int) zs nb S) := hno
    have hpk' : pkOk M (fun _ => K) (fun i j => ((Gm.sprd K i j : Nat) : Int)) zs = false := by simpa using hpk
    have KPK : Hid (∀ am cm w, MatAt w am M (fun _ => K) (fun i j => ((Gm.sprd K i j : Nat) : Int)) → IntsAt w pa np zs → Calls Tryz.prog 188 #[.slice am M cm, .slice pa np pc] w fun e w' => ∃ v, e = .returned (.tuple #[v, .bool false]) ∧ Below w.heap.size w w') := fun am cm w hm hz => by
      have := pickM_any am M cm (fun _ => K) (fun i j => ((Gm.sprd K i j : Nat) : Int)) pa np pc zs w hm hz (fun i _ => by omega) hnp
      rw [hpk'] at this
      refine Calls.mono this ?_
      rintro e w' ⟨v, he, _, hb⟩
      exact ⟨v, he, hb⟩
    clear hno hev hpk hpk'
    go_enter Tryz.func136, Tryz.ntmps136
    go_wp2_with fail
    refine Calls.mono KSP.out ?_
    rintro e w1 ⟨v, rfl, RM, hb1⟩
    obtain ⟨am, cm, rfl, MM⟩ := RM.at
    have KMM : Hid (MatAt w1 am M (fun _ => K) (fun i j => ((Gm.sprd K i j : Nat) : Int))) := MM
    have KH1 : Hid (TxtAt w1 a nb S) := KH.out.below hb1
    have KZ1 : Hid (IntsAt w1 pa np zs) := KZ.out.below hb1
    clear MM RM
    go_wp2_with (go_at_call 92; refine (hEv _ KH1.out).mono ?_; rintro e w' ⟨rfl, hw⟩; obtain rfl := hw.symm)
    refine Calls.mono (KPK.out _ _ _ KMM.out KZ1.out) ?_
    rintro e w2 ⟨v2, rfl, hb2⟩
    go_wp2
    go_ret3
    exact ⟨_, _, by rw [HE.out] <;> rfl, fun h => absurd h KNO.out, below2 hb1 hb2⟩
  have hpR : pkR M (fun _ => K) (fun i j => ((Gm.sprd K i j : Nat) : Int)) zs = np := by unfold pkR; rw [if_pos hpk]; exact KZ.out.1
  have KPK : Hid (∀ am cm w, MatAt w am M (fun _ => K) (fun i j => ((Gm.sprd K i j : Nat) : Int)) → IntsAt w pa np zs → Calls Tryz.prog 188 #[.slice am M cm, .slice pa np pc] w fun e w' => ∃ v, e = .returned (.tuple #[v, .bool true]) ∧ ResM w w' v np K (pkM M K zs) ∧ Below w.heap.size w w') := fun am cm w hm hz => by
    have := pickM_any am M cm (fun _ => K) (fun i j => ((Gm.sprd K i j : Nat) : Int)) pa np pc zs w hm hz (fun i _ => by omega) hnp
    rw [hpk, hpR] at this
    exact this
  have KIV : Hid (∀ x y w, MatAt w x np (fun _ => K) (fun i j => ((pkM M K zs i j : Nat) : Int)) → Calls Tryz.prog 189 #[.slice x np y] w fun e w' => ∃ v, e = .returned (.tuple #[v, .bool (rgt (K : Int) (M : Int) zs nb S)]) ∧ (Rgt (K : Int) (M : Int) zs nb S → ∃ x y, v = .slice x K y ∧ MatAt w' x K (fun _ => K) (fun i j => ((bkM M K zs i j : Nat) : Int))) ∧ Below w.heap.size w w') := fun x y w hm => by
    have := inv_any' x np y (fun _ => K) (fun i j => ((pkM M K zs i j : Nat) : Int)) w hm (fun i _ => by omega)
    by_cases hi : InvOk np (fun _ => K) (fun i j => ((pkM M K zs i j : Nat) : Int))
    · have hr : Rgt (K : Int) (M : Int) zs nb S := KOI.out.1 ⟨hev, hpk, by rw [hpR]; exact hi⟩
      have hnK : np = K := hi.2.1
      rw [ivOk_yes hi, ivR_yes hi] at this
      rw [rgt_yes hr]
      refine Calls.mono this ?_
      rintro e w' ⟨v, he, RM, hb⟩
      refine ⟨v, he, fun _ => ?_, hb⟩
      subst hnK
      exact RM.at
    · have hr : ¬ Rgt (K : Int) (M : Int) zs nb S := fun h => hi (by have := (KOI.out.2 h).2.2; rw [hpR] at this; exact this)
      rw [ivOk_no hi] at this
      rw [rgt_no hr]
      refine Calls.mono this ?_
      rintro e w' ⟨v, he, _, hb⟩
      exact ⟨v, he, fun h => absurd h hr, hb⟩
  generalize rgt (K : Int) (M : Int) zs nb S = ob at KIV
  clear hpk hpR hev KOI
  go_enter Tryz.func136, Tryz.ntmps136
  go_wp2_with fail
  refine Calls.mono KSP.out ?_
  rintro e w1 ⟨v, rfl, RM, hb1⟩
  obtain ⟨am, cm, rfl, MM⟩ := RM.at
  have KMM : Hid (MatAt w1 am M (fun _ => K) (fun i j => ((Gm.sprd K i j : Nat) : Int))) := MM
  have KH1 : Hid (TxtAt w1 a nb S) := KH.out.below hb1
  have KZ1 : Hid (IntsAt w1 pa np zs) := KZ.out.below hb1
  clear MM RM
  go_wp2_with (go_at_call 92; refine (hEv _ KH1.out).mono ?_; rintro e w' ⟨rfl, hw⟩; obtain rfl := hw.symm)
  refine Calls.mono (KPK.out _ _ _ KMM.out KZ1.out) ?_
  rintro e w2 ⟨v2, rfl, RP, hb2⟩
  obtain ⟨ap, cp, rfl, MP⟩ := RP.at
  have KMP : Hid (MatAt w2 ap np (fun _ => K) (fun i j => ((pkM M K zs i j : Nat) : Int))) := MP
  have KM2 : Hid (MatAt w2 am M (fun _ => K) (fun i j => ((Gm.sprd K i j : Nat) : Int))) := KMM.out.below hb2
  clear MP RP KMM
  go_wp2_with fail
  refine Calls.mono (KIV.out _ _ _ KMP.out) ?_
  rintro e w3 ⟨v3, rfl, hv3, hb3⟩
  have KV3 : Hid (Rgt (K : Int) (M : Int) zs nb S → ∃ x y, v3 = .slice x K y ∧ MatAt w3 x K (fun _ => K) (fun i j => ((bkM M K zs i j : Nat) : Int))) := hv3
  have KM3 : Hid (MatAt w3 am M (fun _ => K) (fun i j => ((Gm.sprd K i j : Nat) : Int))) := KM2.out.below hb3
  clear hv3 KM2 KMP
  go_wp2
  go_ret3
  exact ⟨_, _, rfl, fun h => ⟨⟨_, _, rfl, KM3.out⟩, KV3.out h⟩, below2 (below2 hb1 hb2) hb3⟩

/-- What answers all bodies. -/
noncomputable def bdM (n k : Nat) (zs : List Int) : Nat → Nat → Nat := Gm.mp k (Gm.sprd k) (bkM n k zs)
noncomputable def bdR (k n : Int) (zs : List Int) (nb : Nat) (S : Nat → ByteArray) : Nat := if rgt k n zs nb S = true then n.toNat else 0
/-- All bodies that go with some. -/
noncomputable def bdS (k n : Int) (zs : List Int) (S : Nat → ByteArray) (i : Nat) : ByteArray := bod k.toNat (bdM n.toNat k.toNat zs) (fun i p => tat (S i) p) (S 0).size i
/-- The first k bodies that go with some. -/
noncomputable def fsS (k n : Int) (zs : List Int) (S : Nat → ByteArray) (i : Nat) : ByteArray := bod k.toNat (bkM n.toNat k.toNat zs) (fun i p => tat (S i) p) (S 0).size i
theorem bd_fs (k n : Int) (zs : List Int) (S : Nat → ByteArray) (i : Nat) : bod k.toNat (Gm.sprd k.toNat) (fun i p => tat (fsS k n zs S i) p) (S 0).size i = bdS k n zs S i := by
  unfold bdS bdM
  refine txt_congr (fun p hp => ?_)
  rw [Gm.mp_assoc]
  exact Gm.mp_congr (fun _ _ => rfl) (fun t _ => tat_bod hp)

set_option maxRecDepth 100000 in
set_option maxHeartbeats 4000000 in
theorem bodies_any (k n : Int) (pa : Option Addr) (np pc : Nat) (zs : List Int) (a : Option Addr) (nb c : Nat) (S : Nat → ByteArray) (w : World) (hz : IntsAt w pa np zs) (h : TxtAt w a nb S) (hnp : np ≤ 1048576) (hnb : nb ≤ 1048576) (hl : 0 < nb → (S 0).size ≤ 1048576) :
    Calls Tryz.prog 135 #[.int .i64 k, .int .i64 n, .slice pa np pc, .slice a nb c] w fun e w' => ∃ v, e = .returned (.tuple #[v, .bool (rgt k n zs nb S)]) ∧ ResT w w' v (bdR k n zs nb S) (bdS k n zs S) ∧ Below w.heap.size w w' := by
  have KOP : Hid _ := opened_any k n pa np pc zs a nb c S w hz h hnp hnb
  by_cases hr : Rgt k n zs nb S
  case neg =>
    rw [show bdR k n zs nb S = 0 from by unfold bdR; rw [rgt_no hr]; rfl]
    rw [rgt_no hr] at KOP ⊢
    clear hr h hz
    go_enter Tryz.func135, Tryz.ntmps135
    go_wp2_with fail
    refine Calls.mono KOP.out ?_
    rintro e w1 ⟨v, u, rfl, _, hb1⟩
    go_wp2
    go_ret2
    exact ⟨_, rfl, ResT.none _ _ _, hb1⟩
  obtain ⟨g1, g2, g3, g4, g5⟩ := hr
  obtain ⟨q1, q2, q3⟩ := sprOk_parts g1
  have hr : Rgt k n zs nb S := ⟨g1, g2, g3, g4, g5⟩
  rw [show bdR k n zs nb S = n.toNat from by unfold bdR; rw [rgt_yes hr]; rfl]
  rw [rgt_yes hr] at KOP ⊢
  obtain ⟨K, rfl⟩ := Int.eq_ofNat_of_zero_le (show 0 ≤ k by omega)
  obtain ⟨M, rfl⟩ := Int.eq_ofNat_of_zero_le (show 0 ≤ n by omega)
  obtain rfl : nb = K := by omega
  have KRG : Hid (Rgt (nb : Int) (M : Int) zs nb S) := hr
  rw [Int.toNat_natCast, Int.toNat_natCast] at KOP
  have KE : Hid (∀ i, bod nb (Gm.mp nb (bZ M (fun _ => nb) (fun i j => ((Gm.sprd nb i j : Nat) : Int))) (bZ nb (fun _ => nb) (fun i j => ((bkM M nb zs i j : Nat) : Int)))) (fun i p => tat (S i) p) (S 0).size i = bod nb (Gm.mp nb (bZ M (fun _ => nb) (fun i j => ((Gm.sprd nb i j : Nat) : Int))) (bZ nb (fun _ => nb) (fun i j => ((bkM M nb zs i j : Nat) : Int)))) (fun i p => tat (S i) p) (S 0).size i) := fun _ => rfl
  have hmu : MulOk M (fun _ => nb) (fun i j => ((Gm.sprd nb i j : Nat) : Int)) nb (fun _ => nb) (fun i j => ((bkM M nb zs i j : Nat) : Int)) :=
    ⟨okM_of (by omega) (by omega) (by omega) (by omega) (Gm.sprd_byt nb), okM_of (by omega) (by omega) (by omega) (by omega) (bkM_byt _ _ _), rfl⟩
  have hmR : muR M (fun _ => nb) (fun i j => ((Gm.sprd nb i j : Nat) : Int)) nb (fun _ => nb) (fun i j => ((bkM M nb zs i j : Nat) : Int)) = M := by unfold muR; rw [if_pos (muOk_yes hmu)]
  have KMU : Hid (∀ x y x' y' w, MatAt w x M (fun _ => nb) (fun i j => ((Gm.sprd nb i j : Nat) : Int)) → MatAt w x' nb (fun _ => nb) (fun i j => ((bkM M nb zs i j : Nat) : Int)) → Calls Tryz.prog 186 #[.slice x M y, .slice x' nb y'] w fun e w' => ∃ v, e = .returned (.tuple #[v, .bool true]) ∧ (∃ x y, v = .slice x M y ∧ MatAt w' x M (fun _ => nb) (fun i j => ((Gm.mp nb (bZ M (fun _ => nb) (fun i j => ((Gm.sprd nb i j : Nat) : Int))) (bZ nb (fun _ => nb) (fun i j => ((bkM M nb zs i j : Nat) : Int))) i j : Nat) : Int))) ∧ Below w.heap.size w w') := fun x y x' y' w h1 h2 => by
    have := mulM_any x M y (fun _ => nb) (fun i j => ((Gm.sprd nb i j : Nat) : Int)) x' nb y' (fun _ => nb) (fun i j => ((bkM M nb zs i j : Nat) : Int)) w h1 h2 (fun i _ => by omega) (fun i _ => by omega)
    rw [muOk_yes hmu, hmR] at this
    refine Calls.mono this ?_
    rintro e w' ⟨v, he, RM, hb⟩
    exact ⟨v, he, RM.at, hb⟩
  have KMB : Hid (∀ i, i < M → bod nb (Gm.mp nb (bZ M (fun _ => nb) (fun i j => ((Gm.sprd nb i j : Nat) : Int))) (bZ nb (fun _ => nb) (fun i j => ((bkM M nb zs i j : Nat) : Int)))) (fun i p => tat (S i) p) (S 0).size i = bdS (nb : Int) (M : Int) zs S i) := fun i hi => by
    unfold bdS bdM
    rw [Int.toNat_natCast, Int.toNat_natCast]
    refine bod_congr (fun t ht => ?_) (fun _ _ _ _ => rfl)
    exact Gm.mp_congr (fun u hu => bZ_at hi hu (Gm.sprd_byt nb _ _)) (fun u hu => bZ_at hu ht (bkM_byt _ _ _ _ _))
  have hFB : Gm.Byt (Gm.mp nb (bZ M (fun _ => nb) (fun i j => ((Gm.sprd nb i j : Nat) : Int))) (bZ nb (fun _ => nb) (fun i j => ((bkM M nb zs i j : Nat) : Int)))) := fun _ _ => Gm.mp_byt _ _ _ _ _
  have KRS : Hid (∀ x y w, MatAt w x M (fun _ => nb) (fun i j => ((Gm.mp nb (bZ M (fun _ => nb) (fun i j => ((Gm.sprd nb i j : Nat) : Int))) (bZ nb (fun _ => nb) (fun i j => ((bkM M nb zs i j : Nat) : Int))) i j : Nat) : Int)) → TxtAt w a nb S → Calls Tryz.prog 187 #[.slice x M y, .slice a nb c] w fun e w' => ∃ u, e = .returned u ∧ ResT w w' u M (bdS (nb : Int) (M : Int) zs S) ∧ Below w.heap.size w w') := fun x y w hm ht => by
    have := rowSumsS_any x y M _ a c nb (S 0).size S w hm ht (fun i hi => (g5 i hi).2.1) (by omega) ⟨by omega, by omega⟩ ⟨by omega, hl (by omega)⟩ hFB
    refine Calls.mono this ?_
    rintro e w' ⟨he, hO, hb⟩
    exact ⟨_, he, ResT.congr ⟨_, _, rfl, hO⟩ KMB.out, hb⟩
  have KH : Hid (TxtAt w a nb S) := h
  rw [Int.toNat_natCast]
  generalize (Gm.mp nb (bZ M (fun _ => nb) (fun i j => ((Gm.sprd nb i j : Nat) : Int))) (bZ nb (fun _ => nb) (fun i j => ((bkM M nb zs i j : Nat) : Int)))) = PR at KMU KRS
  clear hmu hmR hFB KMB KE h hz hr g1 g2 g3 g4 g5 hl
  go_enter Tryz.func135, Tryz.ntmps135
  go_wp2_with fail
  refine Calls.mono KOP.out ?_
  rintro e w1 ⟨v, u, rfl, hvu, hb1⟩
  obtain ⟨⟨x1, y1, rfl, MM⟩, x2, y2, rfl, MB⟩ := hvu KRG.out
  have K1 : Hid (MatAt w1 x1 M (fun _ => nb) (fun i j => ((Gm.sprd nb i j : Nat) : Int))) := MM
  have K2 : Hid (MatAt w1 x2 nb (fun _ => nb) (fun i j => ((bkM M nb zs i j : Nat) : Int))) := MB
  have KH1 : Hid (TxtAt w1 a nb S) := KH.out.below hb1
  clear hvu MM MB KH KOP
  go_wp2_with fail
  refine Calls.mono (KMU.out _ _ _ _ _ K1.out K2.out) ?_
  rintro e w2 ⟨v2, rfl, ⟨x3, y3, rfl, MP⟩, hb2⟩
  have K3 : Hid (MatAt w2 x3 M (fun _ => nb) (fun i j => ((PR i j : Nat) : Int))) := MP
  have KH2 : Hid (TxtAt w2 a nb S) := KH1.out.below hb2
  clear MP KH1 K1 K2 KMU
  go_wp2_with fail
  refine Calls.mono (KRS.out _ _ _ K3.out KH2.out) ?_
  rintro e w3 ⟨u3, rfl, hR3, hb3⟩
  obtain ⟨x4, y4, rfl, hO4⟩ := hR3
  have hs2 : w.heap.size ≤ w2.heap.size := Nat.le_trans hb1.size hb2.size
  have HO4 : Hid (ResT w w3 (.slice x4 M y4) M (bdS (nb : Int) (M : Int) zs S)) := ⟨_, _, rfl, OwnT.base hO4 hs2⟩
  clear hO4 K3 KH2 KRS
  go_wp2
  go_ret2
  exact ⟨_, rfl, HO4.out, below2 (below2 hb1 hb2) hb3⟩
end Go.Proofs.YthnjhjgffkilcaaGreatDoor
/- The model's first bodies, and all bodies. Conditions: at most 2^20 places and bodies, each of at most 2^20 bytes. -/
namespace Go.Proofs.YthnjhjgffkilcaaGreatDoor
set_option maxRecDepth 2000
open Go.ChangeShapes Go.WideShapes Go.ChangeAt Go.RowKit

set_option maxRecDepth 100000 in
set_option maxHeartbeats 4000000 in
theorem sFirst_any (K M : Nat) (pa : Option Addr) (np pc : Nat) (zs : List Int) (a : Option Addr) (c : Nat) (S : Nat → ByteArray) (w : World) (hz : IntsAt w pa np zs) (h : TxtAt w a K S) (hr : Rgt (K : Int) (M : Int) zs K S) (hl : (S 0).size ≤ 1048576) :
    Calls Tryz.prog 139 #[.int .i64 (K : Int), .int .i64 (M : Int), .slice pa np pc, .slice a K c] w fun e w' => ∃ v, e = .returned v ∧ ResT w w' v K (fsS (K : Int) (M : Int) zs S) ∧ Below w.heap.size w w' := by
  obtain ⟨g1, g2, g3, g4, g5⟩ := hr
  obtain ⟨q1, q2, q3⟩ := sprOk_parts g1
  have hr : Rgt (K : Int) (M : Int) zs K S := ⟨g1, g2, g3, g4, g5⟩
  have hlen := hz.1
  obtain rfl : np = K := by omega
  have hR : sprR (np : Int) (M : Int) = M := by unfold sprR; rw [if_pos g1]; simp
  have KSP : Hid _ := sSpread_any (np : Int) (M : Int) w
  rw [g1, hR, Int.toNat_natCast] at KSP
  obtain ⟨e1, e2, io, _⟩ := spread_pick hr.diff hlen (show 1 ≤ np by omega) (show np ≤ M by omega) (by omega)
  have KPK : Hid (∀ am cm w, MatAt w am M (fun _ => np) (fun i j => ((Gm.sprd np i j : Nat) : Int)) → IntsAt w pa np zs → Calls Tryz.prog 190 #[.slice am M cm, .slice pa np pc] w fun e w' => ∃ v, e = .returned (.tuple #[v, .bool true]) ∧ (∃ x y, v = .slice x np y ∧ MatAt w' x np (fun _ => np) (fun i j => ((pkM M np zs i j : Nat) : Int))) ∧ Below w.heap.size w w') := fun am cm w hm hz => by
    have := sPick_any am M cm (fun _ => np) (fun i j => ((Gm.sprd np i j : Nat) : Int)) pa np pc zs w hm hz (fun i _ => by omega) (by omega)
    rw [e1, e2] at this
    refine Calls.mono this ?_
    rintro e w' ⟨v, he, RM, hb⟩
    exact ⟨v, he, RM.at, hb⟩
  have io' : InvOk np (fun _ => np) (fun i j => ((pkM M np zs i j : Nat) : Int)) := io
  have KIV : Hid (∀ x y w, MatAt w x np (fun _ => np) (fun i j => ((pkM M np zs i j : Nat) : Int)) → Calls Tryz.prog 191 #[.slice x np y] w fun e w' => ∃ v, e = .returned (.tuple #[v, .bool true]) ∧ (∃ x y, v = .slice x np y ∧ MatAt w' x np (fun _ => np) (fun i j => ((bkM M np zs i j : Nat) : Int))) ∧ Below w.heap.size w w') := fun x y w hm => by
    have := sInv_mat x np y (fun _ => np) (fun i j => ((pkM M np zs i j : Nat) : Int)) w hm (fun i _ => by omega)
    rw [ivOk_yes io', ivR_yes io'] at this
    refine Calls.mono this ?_
    rintro e w' ⟨v, he, RM, hb⟩
    exact ⟨v, he, RM.at, hb⟩
  have KRS : Hid (∀ x y w, MatAt w x np (fun _ => np) (fun i j => ((bkM M np zs i j : Nat) : Int)) → TxtAt w a np S → Calls Tryz.prog 112 #[.slice x np y, .slice a np c] w fun e w' => ∃ u, e = .returned u ∧ ResT w w' u np (fsS (np : Int) (M : Int) zs S) ∧ Below w.heap.size w w') := fun x y w hm ht => by
    have := sRows_any x y np (bkM M np zs) a c np (S 0).size S w hm ht (fun i hi => (g5 i hi).2.1) (by omega) ⟨by omega, by omega⟩ hl (bkM_byt _ _ _)
    refine Calls.mono this ?_
    rintro e w' ⟨G, c', he, hO, hb⟩
    exact ⟨_, he, ⟨_, _, rfl, by unfold fsS; rw [Int.toNat_natCast, Int.toNat_natCast]; exact hO⟩, hb⟩
  have KH : Hid (TxtAt w a np S) := h
  have KZ : Hid (IntsAt w pa np zs) := hz
  clear g1 g2 g3 g4 g5 hr hlen hR e1 e2 io io' h hz hl
  go_enter Tryz.func139, Tryz.ntmps139
  go_wp2_with fail
  refine Calls.mono KSP.out ?_
  rintro e w1 ⟨v1, rfl, RM, hb1⟩
  obtain ⟨am, cm, rfl, MM⟩ := RM.at
  have K1 : Hid (MatAt w1 am M (fun _ => np) (fun i j => ((Gm.sprd np i j : Nat) : Int))) := MM
  have KZ1 : Hid (IntsAt w1 pa np zs) := KZ.out.below hb1
  have KH1 : Hid (TxtAt w1 a np S) := KH.out.below hb1
  clear RM MM KZ KH KSP
  go_wp2_with fail
  refine Calls.mono (KPK.out _ _ _ K1.out KZ1.out) ?_
  rintro e w2 ⟨v2, rfl, ⟨x2, y2, rfl, MP⟩, hb2⟩
  have K2 : Hid (MatAt w2 x2 np (fun _ => np) (fun i j => ((pkM M np zs i j : Nat) : Int))) := MP
  have KH2 : Hid (TxtAt w2 a np S) := KH1.out.below hb2
  clear MP K1 KZ1 KH1 KPK
  go_wp2_with fail
  refine Calls.mono (KIV.out _ _ _ K2.out) ?_
  rintro e w3 ⟨v3, rfl, ⟨x3, y3, rfl, MB⟩, hb3⟩
  have K3 : Hid (MatAt w3 x3 np (fun _ => np) (fun i j => ((bkM M np zs i j : Nat) : Int))) := MB
  have KH3 : Hid (TxtAt w3 a np S) := KH2.out.below hb3
  clear MB K2 KH2 KIV
  go_wp2_with fail
  refine Calls.mono (KRS.out _ _ _ K3.out KH3.out) ?_
  rintro e w4 ⟨u4, rfl, hR4, hb4⟩
  obtain ⟨x4, y4, rfl, hO4⟩ := hR4
  have hs3 : w.heap.size ≤ w3.heap.size := Nat.le_trans hb1.size (Nat.le_trans hb2.size hb3.size)
  have HO4 : Hid (ResT w w4 (.slice x4 np y4) np (fsS (np : Int) (M : Int) zs S)) := ⟨_, _, rfl, OwnT.base hO4 hs3⟩
  clear hO4 K3 KH3 KRS
  go_wp2
  go_ret
  exact ⟨_, rfl, HO4.out, below2 (below2 (below2 hb1 hb2) hb3) hb4⟩

set_option maxRecDepth 100000 in
set_option maxHeartbeats 4000000 in
theorem sBodies_any (k n : Int) (pa : Option Addr) (np pc : Nat) (zs : List Int) (a : Option Addr) (nb c : Nat) (S : Nat → ByteArray) (w : World) (hz : IntsAt w pa np zs) (h : TxtAt w a nb S) (hl : 0 < nb → (S 0).size ≤ 1048576) :
    Calls Tryz.prog 131 #[.int .i64 k, .int .i64 n, .slice pa np pc, .slice a nb c] w fun e w' => ∃ v, e = .returned (.tuple #[v, .bool (rgt k n zs nb S)]) ∧ ResT w w' v (bdR k n zs nb S) (bdS k n zs S) ∧ Below w.heap.size w w' := by
  have KRT : Hid _ := sRight_any k n pa np pc zs a nb c S w hz h
  by_cases hr : Rgt k n zs nb S
  case neg =>
    rw [show bdR k n zs nb S = 0 from by unfold bdR; rw [rgt_no hr]; rfl]
    rw [rgt_no hr] at KRT ⊢
    clear hr h hz
    go_enter Tryz.func131, Tryz.ntmps131
    go_wp2_with fail
    refine Calls.mono KRT.out ?_
    rintro e w1 ⟨rfl, hb1⟩
    have HR : Hid (ResT w (w1.alloc (.cells #[] 9)) (.slice (some ⟨w1.heap.size, 0, none⟩) 0 0) 0 (bdS k n zs S)) := ⟨_, _, rfl, OwnT.base (litT w1 _) hb1.size⟩
    have HB : Hid (Below w.heap.size w (w1.alloc (.cells #[] 9))) := hb1.alloc hb1.size _
    go_wp2
    go_ret2
    exact ⟨_, rfl, HR.out, HB.out⟩
  obtain ⟨g1, g2, g3, g4, g5⟩ := hr
  obtain ⟨q1, q2, q3⟩ := sprOk_parts g1
  have hr : Rgt k n zs nb S := ⟨g1, g2, g3, g4, g5⟩
  rw [show bdR k n zs nb S = n.toNat from by unfold bdR; rw [rgt_yes hr]; rfl]
  rw [rgt_yes hr] at KRT ⊢
  obtain ⟨K, rfl⟩ := Int.eq_ofNat_of_zero_le (show 0 ≤ k by omega)
  obtain ⟨M, rfl⟩ := Int.eq_ofNat_of_zero_le (show 0 ≤ n by omega)
  obtain rfl : nb = K := by omega
  have hR : sprR (nb : Int) (M : Int) = M := by unfold sprR; rw [if_pos g1]; simp
  have KSP : Hid (∀ w, Calls Tryz.prog 111 #[.int .i64 (nb : Int), .int .i64 (M : Int)] w fun e w' => ∃ v, e = .returned (.tuple #[v, .bool true]) ∧ (∃ x y, v = .slice x M y ∧ MatAt w' x M (fun _ => nb) (fun i j => ((Gm.sprd nb i j : Nat) : Int))) ∧ Below w.heap.size w w') := fun w => by
    have := sSpread_any (nb : Int) (M : Int) w
    rw [g1, hR, Int.toNat_natCast] at this
    refine Calls.mono this ?_
    rintro e w' ⟨v, he, RM, hb⟩
    exact ⟨v, he, RM.at, hb⟩
  have hl' : (S 0).size ≤ 1048576 := hl (by omega)
  have KFS : Hid (∀ w, IntsAt w pa np zs → TxtAt w a nb S → Calls Tryz.prog 139 #[.int .i64 (nb : Int), .int .i64 (M : Int), .slice pa np pc, .slice a nb c] w fun e w' => ∃ v, e = .returned v ∧ ResT w w' v nb (fsS (nb : Int) (M : Int) zs S) ∧ Below w.heap.size w w') := fun w h1 h2 => sFirst_any nb M pa np pc zs a c S w h1 h2 hr hl'
  have KRS : Hid (∀ x y x' y' w, MatAt w x M (fun _ => nb) (fun i j => ((Gm.sprd nb i j : Nat) : Int)) → TxtAt w x' nb (fsS (nb : Int) (M : Int) zs S) → Calls Tryz.prog 112 #[.slice x M y, .slice x' nb y'] w fun e w' => ∃ u, e = .returned u ∧ ResT w w' u M (bdS (nb : Int) (M : Int) zs S) ∧ Below w.heap.size w w') := fun x y x' y' w hm ht => by
    have := sRows_any x y M (Gm.sprd nb) x' y' nb (S 0).size (fsS (nb : Int) (M : Int) zs S) w hm ht (fun i hi => bod_size _ _ _ _ _) (by omega) ⟨by omega, by omega⟩ hl' (Gm.sprd_byt nb)
    refine Calls.mono this ?_
    rintro e w' ⟨G, c', he, hO, hb⟩
    refine ⟨_, he, ResT.congr ⟨_, _, rfl, hO⟩ (fun i _ => ?_), hb⟩
    have := bd_fs (nb : Int) (M : Int) zs S i
    rw [Int.toNat_natCast] at this
    exact this
  have KH : Hid (TxtAt w a nb S) := h
  have KZ : Hid (IntsAt w pa np zs) := hz
  rw [Int.toNat_natCast]
  clear g1 g2 g3 g4 g5 hr hR h hz hl hl'
  go_enter Tryz.func131, Tryz.ntmps131
  go_wp2_with fail
  refine Calls.mono KRT.out ?_
  rintro e w0 ⟨rfl, hb0⟩
  have KZ0 : Hid (IntsAt w0 pa np zs) := KZ.out.below hb0
  have KH0 : Hid (TxtAt w0 a nb S) := KH.out.below hb0
  clear KZ KH KRT
  go_wp2_with fail
  refine Calls.mono (KSP.out _) ?_
  rintro e w1 ⟨v1, rfl, ⟨am, cm, rfl, MM⟩, hb1⟩
  have K1 : Hid (MatAt w1 am M (fun _ => nb) (fun i j => ((Gm.sprd nb i j : Nat) : Int))) := MM
  have KZ1 : Hid (IntsAt w1 pa np zs) := KZ0.out.below hb1
  have KH1 : Hid (TxtAt w1 a nb S) := KH0.out.below hb1
  clear MM KZ0 KH0 KSP
  go_wp2_with fail
  refine Calls.mono (KFS.out _ KZ1.out KH1.out) ?_
  rintro e w2 ⟨v2, rfl, hR2, hb2⟩
  obtain ⟨x2, y2, rfl, hO2⟩ := hR2
  have K2 : Hid (TxtAt w2 x2 nb (fsS (nb : Int) (M : Int) zs S)) := OwnT.at hO2
  have KM2 : Hid (MatAt w2 am M (fun _ => nb) (fun i j => ((Gm.sprd nb i j : Nat) : Int))) := K1.out.below hb2
  clear hO2 KZ1 KH1 K1 KFS
  go_wp2_with fail
  refine Calls.mono (KRS.out _ _ _ _ _ KM2.out K2.out) ?_
  rintro e w4 ⟨u4, rfl, hR4, hb4⟩
  obtain ⟨x4, y4, rfl, hO4⟩ := hR4
  have hs3 : w.heap.size ≤ w2.heap.size := Nat.le_trans hb0.size (Nat.le_trans hb1.size hb2.size)
  have HO4 : Hid (ResT w w4 (.slice x4 M y4) M (bdS (nb : Int) (M : Int) zs S)) := ⟨_, _, rfl, OwnT.base hO4 hs3⟩
  clear hO4 K2 KM2 KRS
  go_wp2
  go_ret2
  exact ⟨_, rfl, HO4.out, below2 (below2 (below2 hb0 hb1) hb2) hb4⟩
end Go.Proofs.YthnjhjgffkilcaaGreatDoor
/- Whether bodies agree: the program and the model. Conditions: at most 2^20 bodies, each of at most 2^20 bytes. -/
namespace Go.Proofs.YthnjhjgffkilcaaGreatDoor
set_option maxRecDepth 2000
open Go.ChangeShapes Go.WideShapes Go.ChangeAt Go.RowKit

end Go.Proofs.YthnjhjgffkilcaaGreatDoor
/- What the program reads out of a whole. Conditions: at most 10^8 bytes, 1 to 16 pieces. -/
namespace Go.Proofs.YthnjhjgffkilcaaGreatDoor
set_option maxRecDepth 2000
open Go.ChangeShapes Go.WideShapes Go.ChangeAt Go.RowKit

end Go.Proofs.YthnjhjgffkilcaaGreatDoor
/- Whether bodies agree, as the model asks it. Conditions: at most 2^20 bodies, each of at most 2^20 bytes. -/
namespace Go.Proofs.YthnjhjgffkilcaaGreatDoor
set_option maxRecDepth 2000
open Go.ChangeShapes Go.WideShapes Go.ChangeAt Go.RowKit

end Go.Proofs.YthnjhjgffkilcaaGreatDoor
/- The text that the program reads out of bodies. Conditions: at most 2^20 places and bodies, each of at most 2^20 bytes. -/
namespace Go.Proofs.YthnjhjgffkilcaaGreatDoor
set_option maxRecDepth 2000
open Go.ChangeShapes Go.WideShapes Go.ChangeAt Go.RowKit

/-- The first k bodies that go with some, by numbers. -/
noncomputable def fsT (k n : Nat) (zs : List Int) (S : Nat → ByteArray) : Nat → Nat → Nat := Gm.mp k (bkM n k zs) (fun i p => tat (S i) p)
end Go.Proofs.YthnjhjgffkilcaaGreatDoor
/- The text that the model reads out of bodies. Conditions: at most 2^20 places and bodies, each of at most 2^20 bytes. -/
namespace Go.Proofs.YthnjhjgffkilcaaGreatDoor
set_option maxRecDepth 2000
open Go.ChangeShapes Go.WideShapes Go.ChangeAt Go.RowKit

end Go.Proofs.YthnjhjgffkilcaaGreatDoor
/- Plain mathematics: bodies of a text at places that differ lead back to the text and to all bodies; bodies that tell a text are those of the text. Conditions stand at each theorem. -/
namespace Go.Proofs.YthnjhjgffkilcaaGreatDoor
set_option maxRecDepth 2000
open Go.Proofs.YthnjhjgffkilcaaGreatDoor.Gp (m m_lt m_comm m_one)

theorem mp_right {n : Nat} {A : Nat → Nat → Nat} (hA : Gm.Byt A) {i j : Nat} (hj : j < n) : Gm.mp n A Gm.dl i j = A i j := by
  rw [Gm.mp_col hj (fun t _ => rfl)]
  exact m_one (hA i j)
/-- Two matrices that are one have one inverse. -/
theorem iv_same {A B : Nat → Nat → Nat} {n : Nat} (hA : Gm.Byt A) (hB : Gm.Byt B) (h : ∀ i j, i < n → j < n → A i j = B i j) (ra : Gm.rk A n n = n) (rb : Gm.rk B n n = n) {i j : Nat} (hi : i < n) (hj : j < n) : Gm.iv A n i j = Gm.iv B n i j := by
  have h1 : Gm.mp n (Gm.iv A n) (Gm.mp n B (Gm.iv B n)) i j = Gm.iv A n i j := by
    rw [Gm.mp_congr (A' := Gm.iv A n) (B' := Gm.dl) (fun _ _ => rfl) (fun t ht => (Gm.iv_both hB rb t j ht hj).1)]
    exact mp_right (Gm.iv_byt hA n) hj
  have h2 : Gm.mp n (Gm.mp n (Gm.iv A n) B) (Gm.iv B n) i j = Gm.iv B n i j := by
    rw [Gm.mp_congr (A' := Gm.dl) (B' := Gm.iv B n) (fun t ht => ?_) (fun _ _ => rfl)]
    · exact Gm.mp_dl hi (Gm.iv_byt hB n i j)
    · rw [Gm.mp_congr (A' := Gm.iv A n) (B' := A) (fun _ _ => rfl) (fun u hu => (h u t hu ht).symm)]
      exact (Gm.iv_both hA ra i t hi ht).2
  rw [← h1, ← Gm.mp_assoc, h2]
def zsP (n : Nat) (zs : List Int) (t : Nat) : Nat := if t < zs.length then (zs.getD t 0).toNat else n
theorem zsP_at {n : Nat} {zs : List Int} {t : Nat} (h : t < zs.length) : zsP n zs t = (zs.getD t 0).toNat := if_pos h
theorem zsP_lt {n : Nat} {zs : List Int} (h : Diff n zs) (hn : n ≤ 16) (t : Nat) : zsP n zs t < 256 := by
  unfold zsP
  split
  · rename_i ht
    have := h.at ht
    omega
  · omega
theorem bkM_is {n k : Nat} {zs : List Int} (h : Diff n zs) (hl : zs.length = k) (hk : 1 ≤ k) (hkn : k ≤ n) (hn : n ≤ 16) {i j : Nat} (hi : i < k) (hj : j < k) : bkM n k zs i j = Gm.iv (fun t j => Gm.sprd k (zsP n zs t) j) k i j := by
  obtain ⟨_, _, io, hbz⟩ := spread_pick h hl hk hkn hn
  have hr := Gm.spread_rk (k := k) (p := zsP n zs) (by omega) (zsP_lt h hn) (fun a b ha hb hab => by
    rw [zsP_at (by omega), zsP_at (by omega)]
    exact h.ne (by omega) (by omega) hab)
  exact iv_same (bZ_byt _ _ _) (fun _ _ => Gm.sprd_byt k _ _) (fun a b ha hb => by rw [zsP_at (by omega)]; exact hbz a b ha hb) io.2.2 hr hi hj
/-- What comes of bodies that lie at places that differ. -/
theorem fsT_back {n k l : Nat} {zs : List Int} {S : Nat → ByteArray} {T : Nat → Nat → Nat} (h : Diff n zs) (hl : zs.length = k) (hk : 1 ≤ k) (hkn : k ≤ n) (hn : n ≤ 16) (hT : Gm.Byt T) (hS : ∀ i, i < k → S i = txt (Gm.mp k (Gm.sprd k) T ((zs.getD i 0).toNat)) l) {i q : Nat} (hi : i < k) (hq : q < l) : fsT k n zs S i q = T i q := by
  unfold fsT
  rw [Gm.mp_congr (A' := Gm.iv (fun t j => Gm.sprd k (zsP n zs t) j) k) (B' := fun t q => Gm.mp k (Gm.sprd k) T (zsP n zs t) q) (fun t ht => bkM_is h hl hk hkn hn hi ht) (fun t ht => by
    rw [hS t ht, tat_txt hq (Gm.mp_byt _ _ _ _ _), zsP_at (by omega)])]
  exact back_first (by omega) (zsP_lt h hn) (fun a b ha hb hab => by
    rw [zsP_at (by omega), zsP_at (by omega)]
    exact h.ne (by omega) (by omega) hab) hT hi
theorem encS_is (s : ByteArray) (k i : Nat) : encS s k i = txt (Gm.mp k (Gm.sprd k) (enc s k) i) (blen s.size k) := rfl
theorem encS_size (s : ByteArray) (k i : Nat) : (encS s k i).size = blen s.size k := txt_size _ _
theorem sprOk_of {k n : Nat} (hk : 1 ≤ k) (hkn : k ≤ n) (hn : n ≤ 16) : sprOk (k : Int) (n : Int) = true := by unfold sprOk side; simp; omega
/-- Bodies of a text at places that differ. -/
structure Kept (s : ByteArray) (k n : Nat) (zs : List Int) : Prop where
  sz : s.size ≤ 2000
  k1 : 1 ≤ k
  kn : k ≤ n
  n16 : n ≤ 16
  len : zs.length = k
  diff : Diff n zs
def keptS (s : ByteArray) (k : Nat) (zs : List Int) (i : Nat) : ByteArray := encS s k (zs.getD i 0).toNat
theorem Kept.rgt {s : ByteArray} {k n : Nat} {zs : List Int} (h : Kept s k n zs) : Rgt (k : Int) (n : Int) zs k (keptS s k zs) := by
  refine ⟨sprOk_of h.k1 h.kn h.n16, by rw [h.len], rfl, ?_, fun i hi => ⟨h.diff.at (by rw [h.len]; exact hi), ?_, fun j hj he => ?_⟩⟩
  · unfold keptS
    rw [encS_size]
    have := blen_pos (s := s.size) h.k1
    omega
  · unfold keptS
    rw [encS_size, encS_size]
  · have := h.diff.ne (i := j) (j := i) (by rw [h.len]; omega) (by rw [h.len]; exact hi) (by omega)
    rw [he] at this
    exact this rfl
theorem Kept.fs {s : ByteArray} {k n : Nat} {zs : List Int} (h : Kept s k n zs) {i q : Nat} (hi : i < k) (hq : q < blen s.size k) : fsT k n zs (keptS s k zs) i q = enc s k i q :=
  fsT_back h.diff h.len h.k1 h.kn h.n16 (enc_byt (by have := h.sz; omega) k) (fun _ _ => rfl) hi hq
theorem Kept.size0 (s : ByteArray) (k : Nat) (zs : List Int) (i : Nat) : (keptS s k zs i).size = blen s.size k := encS_size _ _ _
theorem Kept.all {s : ByteArray} {k n : Nat} {zs : List Int} (h : Kept s k n zs) (i : Nat) : bdS (k : Int) (n : Int) zs (keptS s k zs) i = encS s k i := by
  rw [← bd_fs, Int.toNat_natCast, Kept.size0, encS_is]
  refine txt_congr (fun p hp => Gm.mp_congr (fun _ _ => rfl) (fun t ht => ?_))
  have e : fsS (k : Int) (n : Int) zs (keptS s k zs) t = txt (fsT k n zs (keptS s k zs) t) (blen s.size k) := by
    unfold fsS fsT
    rw [Int.toNat_natCast, Int.toNat_natCast, Kept.size0]
    rfl
  rw [e, tat_txt hp (show fsT k n zs (keptS s k zs) t p < 256 from Gm.mp_byt _ _ _ _ _), h.fs ht hp]
end Go.Proofs.YthnjhjgffkilcaaGreatDoor
/- Plain mathematics: bodies that tell a text are those of the text; all bodies that go with some agree, and with one changed, of more than k, they do not. Conditions stand at each theorem. -/
namespace Go.Proofs.YthnjhjgffkilcaaGreatDoor
set_option maxRecDepth 2000

end Go.Proofs.YthnjhjgffkilcaaGreatDoor
