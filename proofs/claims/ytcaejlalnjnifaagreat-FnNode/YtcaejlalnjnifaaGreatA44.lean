import Derived.Test.YtcaejlalnjnifaaGreatA42
import Derived.Test.YtcaejlalnjnifaaGreatA39
set_option maxHeartbeats 8000000
set_option maxRecDepth 2000
namespace Go.Proofs.YtcaejlalnjnifaaGreat
theorem nh_slot {id f : Int} {n : Nat} {S : Nat → Sl} {y : Sy} (h : NdP id f n S) (eb : nhB id f n S y = true) : plc (nhS id f n S y) y.r (nhN id f n S y) = some (plN S y.r n) := by
 have e2 : mindB id f n S y = true := by unfold nhB at eb; simp at eb; exact eb.2
 have hM := mindP_of e2
 have hf := seB_f h.1
 have hok := nh_ok (y := y) h
 obtain ⟨hT, hTr⟩ := slT_of (r := y.r) h
 have hS := mhS_is (id := id) (y := y) hf.1 hM.2.2.1 hT
 have hrr : (mhV f (mhU f (mhx (mhB id f (slF S y.r n) (plN S y.r n) y) (slF S y.r n) (plN S y.r n) y))).r = y.r := by
  rw [(mhUV_d hf.1).2.2.1, (mhx_pre (slF_ok h hM.2.2.2.1) hTr hM.2.1).1, hTr]
 have eN : nhN id f n S y = hrN S y.r n := by simp only [nhN, eb, if_true]
 have eS : nhS id f n S y = fun i => if i = plN S y.r n then mhV f (mhU f (mhx (mhB id f (slF S y.r n) (plN S y.r n) y) (slF S y.r n) (plN S y.r n) y)) else slF S y.r n i := by simp only [nhS, eb, if_true]; exact hS.symm
 have hp := plN_lt S y.r n
 have ep : nhS id f n S y (plN S y.r n) = mhV f (mhU f (mhx (mhB id f (slF S y.r n) (plN S y.r n) y) (slF S y.r n) (plN S y.r n) y)) := by rw [eS]; exact if_pos rfl
 obtain ⟨p, HP⟩ : ∃ x, x = plN S y.r n := ⟨_, rfl⟩
 obtain ⟨n', HN⟩ : ∃ x, x = nhN id f n S y := ⟨_, rfl⟩
 obtain ⟨S', HS⟩ : ∃ x, x = nhS id f n S y := ⟨_, rfl⟩
 rw [← HN, ← HS] at hok ⊢
 rw [← HS, ← HP] at ep
 rw [← HP]
 have hpn : p < n' := by rw [HN, eN, HP]; exact hp
 have hpr : (S' p).r = y.r := by rw [ep, HP]; exact hrr
 obtain ⟨q, hq⟩ : ∃ q, plc S' y.r n' = some q := by
  cases e : plc S' y.r n' with
  | none => exact absurd hpr (plF_none e p (by omega) (by omega))
  | some q => exact ⟨q, rfl⟩
 obtain ⟨_, hq1, hq2, _⟩ := plF_some hq
 have hqp : q = p := by
  rcases Nat.lt_trichotomy q p with k | k | k
  ·exact absurd (hq2.trans hpr.symm) ((hok.2.2 p hpn).2 q k)
  ·exact k
  ·exact absurd (hpr.trans hq2.symm) ((hok.2.2 q (by omega)).2 p k)
 rw [hq, hqp]
def saidN (x x' : Sl) : Nat := (if x'.e = true ∧ x.e = false then 1 else 0) + (if x'.d = true ∧ x.d = false then 1 else 0)
theorem hv_said {id f : Int} {T : Nat → Sl} {p : Nat} {y : Sy} (he : (T p).h = (T p).e) :
  hvM id f T p y = saidN (T p) (hvS id f T p y p) * nAll f ∧ ((T p).o = true → (hvS id f T p y p).o = true) ∧ ((T p).h = true → (hvS id f T p y p).h = true ∧ (hvS id f T p y p).p = (T p).p) := by
 unfold hvM hvS
 by_cases k0 : y.k = 0
 ·rw [if_pos k0, if_pos k0]
  by_cases hE : hvE id f T p y
  ·rw [if_pos hE, if_pos hE]
   have e0 := hE.1
   have h0 : (T p).h = false := by rw [he]; exact e0
   refine ⟨?_, ?_, ?_⟩
   ·unfold saidN slGot; simp [e0]
   ·unfold slGot; simp
   ·rw [h0]; simp
  ·rw [if_neg hE, if_neg hE]
   exact ⟨by unfold saidN; cases (T p).e <;> cases (T p).d <;> simp, fun h => h, fun h => ⟨h, rfl⟩⟩
 ·rw [if_neg k0, if_neg k0]
  have hB : (hvB f T p y p).e = (T p).e ∧ (hvB f T p y p).d = (T p).d ∧ (hvB f T p y p).h = (T p).h ∧ (hvB f T p y p).p = (T p).p ∧ ((T p).o = true → (hvB f T p y p).o = true) := by
   unfold hvB hvA
   by_cases k1 : y.k = 1
   ·simp only [k1, if_true]
    unfold slEc
    simp
   ·simp only [k1, if_false]
    unfold slDn slRd
    simp
    intro h
    simp [h]
  have hA : (hvA T p y p).d = (T p).d := by
   unfold hvA
   by_cases k1 : y.k = 1
   ·simp only [k1, if_true]; unfold slEc; simp
   ·simp only [k1, if_false]; unfold slRd; simp
  obtain ⟨b1, b2, b3, b4, b5⟩ := hB
  by_cases hR : hvR f T p y
  ·rw [if_pos hR, if_pos hR]
   have d0 : (T p).d = false := by rw [← hA]; exact hR.2
   refine ⟨?_, ?_, ?_⟩
   ·unfold saidN slRy; simp [d0, b1]
   ·intro h; unfold slRy; simp; exact b5 h
   ·intro h; unfold slRy; simp; exact ⟨by rw [b3]; exact h, b4⟩
  ·rw [if_neg hR, if_neg hR]
   refine ⟨?_, b5, fun h => ⟨by rw [b3]; exact h, b4⟩⟩
   unfold saidN
   rw [b1, b2]
   cases (T p).e <;> cases (T p).d <;> simp
theorem nh_law {id f : Int} {n : Nat} {S : Nat → Sl} {y : Sy} (h : NdP id f n S) (he : ∀ i, i < n → (S i).h = (S i).e) :
  nhM id f n S y = saidN (soS S y.r n) (soS (nhS id f n S y) y.r (nhN id f n S y)) * nAll f ∧ ((soS S y.r n).o = true → (soS (nhS id f n S y) y.r (nhN id f n S y)).o = true) ∧ ((soS S y.r n).h = true → (soS (nhS id f n S y) y.r (nhN id f n S y)).h = true ∧ (soS (nhS id f n S y) y.r (nhN id f n S y)).p = (soS S y.r n).p) ∧ nhN id f n S y ≤ n + 1 := by
 cases eb : nhB id f n S y with
 | false =>
  have e1 : nhN id f n S y = n := by simp only [nhN, eb]; rfl
  have e2 : nhS id f n S y = S := by simp only [nhS, eb]; rfl
  have e3 : nhM id f n S y = 0 := by simp only [nhM, eb]; rfl
  rw [e1, e2, e3]
  refine ⟨?_, fun h => h, fun h => ⟨h, rfl⟩, by omega⟩
  unfold saidN
  cases (soS S y.r n).e <;> cases (soS S y.r n).d <;> simp
 | true =>
  have e2 : mindB id f n S y = true := by unfold nhB at eb; simp at eb; exact eb.2
  have hM := mindP_of e2
  have hs := nh_slot h eb
  have hx' : soS (nhS id f n S y) y.r (nhN id f n S y) = nhS id f n S y (plN S y.r n) := by unfold soS; rw [hs]
  have eS : nhS id f n S y = hvS id f (slF S y.r n) (plN S y.r n) y := by simp only [nhS, eb, if_true]
  have eM : nhM id f n S y = hvM id f (slF S y.r n) (plN S y.r n) y := by simp only [nhM, eb, if_true]
  have eN : nhN id f n S y = hrN S y.r n := by simp only [nhN, eb, if_true]
  have hT : (slF S y.r n (plN S y.r n)).h = (slF S y.r n (plN S y.r n)).e := by
   rcases slF_at S y.r n with ⟨_, e⟩ | ⟨k, e, _⟩
   ·rw [e]; rfl
   ·rw [e]; exact he _ k
  obtain ⟨l1, l2, l3⟩ := hv_said (id := id) (f := f) hT
  have hx : (soS S y.r n).e = (slF S y.r n (plN S y.r n)).e ∧ (soS S y.r n).d = (slF S y.r n (plN S y.r n)).d ∧ (soS S y.r n).o = (slF S y.r n (plN S y.r n)).o ∧ (soS S y.r n).h = (slF S y.r n (plN S y.r n)).h ∧ ((soS S y.r n).h = true → (soS S y.r n).p = (slF S y.r n (plN S y.r n)).p) := by
   unfold soS plN
   cases e : plc S y.r n with
   | none =>
    have e9 : slF S y.r n n = slR y.r := by unfold slF; rw [if_pos rfl]
    simp only
    rw [e9]
    exact ⟨rfl, rfl, rfl, rfl, fun h => by cases h⟩
   | some x =>
    obtain ⟨_, hx, _, _⟩ := plF_some e
    have e9 : slF S y.r n x = S x := by unfold slF; rw [if_neg (by omega)]
    simp only
    rw [e9]
    exact ⟨rfl, rfl, rfl, rfl, fun _ => rfl⟩
  rw [hx', eS, eM, eN]
  refine ⟨?_, ?_, ?_, ?_⟩
  ·rw [l1]
   unfold saidN
   rw [hx.1, hx.2.1]
  ·rw [hx.2.2.1]; exact l2
  ·intro h9
   have h8 : (slF S y.r n (plN S y.r n)).h = true := by rw [← hx.2.2.2.1]; exact h9
   rw [hx.2.2.2.2 h9]
   exact l3 h8
  ·unfold hrN; split <;> omega
theorem nh_says {id f : Int} {n : Nat} {S : Nat → Sl} {y : Sy} (h : NdP id f n S) {i : Nat} (hi : i < nhM id f n S y) :
  (nhY id f n S y i).f = id ∧ (nhY id f n S y i).r = y.r ∧ (nhY id f n S y i).k ≠ 0 ∧ (nhY id f n S y i).t = (i : Int) ∧ (i : Int) < 3 * f + 1 := by
 cases eb : nhB id f n S y with
 | false => simp only [nhM, eb] at hi; exact absurd hi (by simp)
 | true =>
  have hf := seB_f h.1
  have hn := nAll_is hf
  obtain ⟨_, hTr⟩ := slT_of (r := y.r) h
  have eM : nhM id f n S y = hvM id f (slF S y.r n) (plN S y.r n) y := by simp only [nhM, eb, if_true]
  have eY : nhY id f n S y = hvY id (slF S y.r n) (plN S y.r n) y := by simp only [nhY, eb, if_true]
  have hle : hvM id f (slF S y.r n) (plN S y.r n) y ≤ nAll f := by
   unfold hvM
   split <;> split <;> omega
  rw [eY, hvY_at]
  refine ⟨rfl, hTr, ?_, rfl, by omega⟩
  show (if y.k = 0 then (1 : Int) else 2) ≠ 0
  split <;> omega
theorem slF_slk {n : Nat} {S : Nat → Sl} {r : ByteArray} (hS : ∀ i, i < n → SlK (S i)) (hr : r.size ≤ 1048576) {i : Nat} (hi : i ≤ n) : SlK (slF S r n i) := by
 unfold slF
 by_cases e : i = n
 ·rw [if_pos e]
  exact ⟨hr, by simp [slR], by simp [slR], by simp [slR], fun j hj => absurd hj (Nat.not_lt_zero j), by simp [slR], by simp [slR]⟩
 ·rw [if_neg e]
  exact hS i (by omega)
theorem nh_slk {id f : Int} {n : Nat} {S : Nat → Sl} {y : Sy} (hB : NhB n S y) : ∀ i, i < nhN id f n S y → SlK (nhS id f n S y i) := by
 intro i hi
 cases eb : nhB id f n S y with
 | false =>
  have e1 : nhN id f n S y = n := by simp only [nhN, eb]; rfl
  have e2 : nhS id f n S y = S := by simp only [nhS, eb]; rfl
  rw [e2]
  exact hB.k i (by omega)
 | true =>
  have e1 : ndB id f n S = true := by unfold nhB at eb; simp at eb; exact eb.1
  have e2 : mindB id f n S y = true := by unfold nhB at eb; simp at eb; exact eb.2
  have hN := ndP_of e1
  have hM := mindP_of e2
  have hf := seB_f hN.1
  have eS : nhS id f n S y = hvS id f (slF S y.r n) (plN S y.r n) y := by simp only [nhS, eb, if_true]
  have eN : nhN id f n S y = hrN S y.r n := by simp only [nhN, eb, if_true]
  have hle : ∀ j, j < hrN S y.r n → j ≤ n := fun j hj => by unfold hrN at hj; split at hj <;> omega
  have hT : ∀ j, j < hrN S y.r n → SlK (slF S y.r n j) := fun j hj => slF_slk hB.k hB.r (hle j hj)
  have hp := plN_lt S y.r n
  obtain ⟨_, q2, q3, _⟩ := slF_ok (r := y.r) hN hM.2.2.2.1
  have l2 := NumP.len (numP_of q2) hf
  have l3 := NumP.len (numP_of q3) hf
  have p2 := putI_one (slF S y.r n (plN S y.r n)).ze y.f
  have p3 := putI_one (slF S y.r n (plN S y.r n)).zr y.f
  have hTi := hT i (by rw [← eN]; exact hi)
  have hTp := hT _ hp
  rw [eS]
  obtain ⟨T, HT⟩ : ∃ x, x = slF S y.r n := ⟨_, rfl⟩
  obtain ⟨p, HP⟩ : ∃ x, x = plN S y.r n := ⟨_, rfl⟩
  rw [← HT, ← HP] at hTp p2 p3 l2 l3
  rw [← HT] at hTi
  rw [← HT, ← HP]
  have hAj : ∀ j, SlK (T j) → SlK (hvA T p y j) := fun j hj => by
   by_cases k1 : y.k = 1
   ·by_cases ei : j = p
    ·have e9 : hvA T p y j = { T p with ze := putI (T p).ze y.f } := by unfold hvA slEc; simp [k1, ei]
     rw [e9]
     exact ⟨hTp.1, hTp.2, hTp.3, hTp.4, hTp.5, by show (putI (T p).ze y.f).length ≤ 1048576; omega, hTp.7⟩
    ·have e9 : hvA T p y j = T j := by unfold hvA slEc; simp [k1, ei]
     rw [e9]; exact hj
   ·by_cases ei : j = p
    ·have e9 : hvA T p y j = { T p with zr := putI (T p).zr y.f } := by unfold hvA slRd; simp [k1, ei]
     rw [e9]
     exact ⟨hTp.1, hTp.2, hTp.3, hTp.4, hTp.5, hTp.6, by show (putI (T p).zr y.f).length ≤ 1048576; omega⟩
    ·have e9 : hvA T p y j = T j := by unfold hvA slRd; simp [k1, ei]
     rw [e9]; exact hj
  have hA := hAj i hTi
  have hAp := hAj p hTp
  have hBi : ∀ j, SlK (hvA T p y j) → SlK (hvB f T p y j) := fun j hj => by
   by_cases k1 : y.k = 1
   ·have e9 : hvB f T p y j = hvA T p y j := by unfold hvB; simp [k1]
    rw [e9]; exact hj
   ·by_cases ei : j = p
    ·have e9 : hvB f T p y j = { hvA T p y p with o := (hvA T p y p).o || decide (2 ≤ hvT f T p y) } := by unfold hvB slDn; simp [k1, ei]
     rw [e9]
     exact ⟨hAp.1, hAp.2, hAp.3, hAp.4, hAp.5, hAp.6, hAp.7⟩
    ·have e9 : hvB f T p y j = hvA T p y j := by unfold hvB slDn; simp [k1, ei]
     rw [e9]; exact hj
  have hBp := hBi p hAp
  by_cases k0 : y.k = 0
  ·by_cases hE : hvE id f T p y
   ·by_cases ei : i = p
    ·have e9 : hvS id f T p y i = { T p with p := y.p, h := true, e := true } := by unfold hvS slGot; simp [k0, hE, ei]
     rw [e9]
     exact ⟨hTp.1, hB.pr, hB.pb, hB.m, hB.ps, hTp.6, hTp.7⟩
    ·have e9 : hvS id f T p y i = T i := by unfold hvS slGot; simp [k0, hE, ei]
     rw [e9]; exact hTi
   ·have e9 : hvS id f T p y i = T i := by unfold hvS; simp [k0, hE]
    rw [e9]; exact hTi
  ·by_cases hR : hvR f T p y
   ·by_cases ei : i = p
    ·have e9 : hvS id f T p y i = { hvB f T p y p with d := true } := by unfold hvS slRy; simp [k0, hR, ei]
     rw [e9]
     exact ⟨hBp.1, hBp.2, hBp.3, hBp.4, hBp.5, hBp.6, hBp.7⟩
    ·have e9 : hvS id f T p y i = hvB f T p y i := by unfold hvS slRy; simp [k0, hR, ei]
     rw [e9]; exact hBi i hA
   ·have e9 : hvS id f T p y i = hvB f T p y i := by unfold hvS; simp [k0, hR]
    rw [e9]; exact hBi i hA
end Go.Proofs.YtcaejlalnjnifaaGreat
