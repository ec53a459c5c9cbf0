/- For every input: a matrix turned twice is itself, a product turned is that of the turned ones the other way round, no rank is above a side, and the program's answers are the model's. No condition. -/
import Derived.Test.YtmggogdnfgkljaaK6
import Derived.Test.YtmggogdnfgkljaaQDrawN
import Derived.Test.YtmggogdnfgkljaaK5
import Derived.Test.YtmggogdnfgkljaaK2
import Derived.Test.YtmggogdnfgkljaaK3
namespace Go.Proofs.Ytmggogdnfgkljaa
open Go.ChangeShapes Go.WideShapes Go.ChangeAt Go.RowKit

theorem rk_congr {A B : Nat → Nat → Nat} (hA : Gm.Byt A) (hB : Gm.Byt B) {r W : Nat} (h : ∀ i j, i < r → j < W → A i j = B i j) : Gm.rk A r W = Gm.rk B r W := by
  apply Nat.le_antisymm
  · obtain ⟨X, Y, hh⟩ := Gm.rk_fac hB r W
    exact Gm.rk_le hA (X := X) (Y := Y) (fun i j hi hj => (h i j hi hj).trans (hh i j hi hj))
  · obtain ⟨X, Y, hh⟩ := Gm.rk_fac hA r W
    exact Gm.rk_le hB (X := X) (Y := Y) (fun i j hi hj => (h i j hi hj).symm.trans (hh i j hi hj))
theorem bZ_at {r c : Nat} {F : Nat → Nat → Nat} {i j : Nat} (hi : i < r) (hj : j < c) (hF : F i j < 256) : bZ r (fun _ => c) (fun i j => ((F i j : Nat) : Int)) i j = F i j := by
  unfold bZ cZ
  rw [if_pos ⟨hi, hj⟩, Int.toNat_natCast, Nat.mod_eq_of_lt hF]
theorem okM_of {r c : Nat} {F : Nat → Nat → Nat} (h1 : 1 ≤ r) (h2 : r ≤ 16) (h3 : 1 ≤ c) (h4 : c ≤ 16) (hF : Gm.Byt F) : OkM r (fun _ => c) (fun i j => ((F i j : Nat) : Int)) :=
  ⟨h1, h2, h3, h4, fun i _ => ⟨rfl, fun j _ => isB_ofNat (hF i j)⟩⟩
theorem Z_bZ {n : Nat} {L : Nat → Nat} {Z : Nat → Nat → Int} (ok : OkM n L Z) {i j : Nat} (hi : i < n) (hj : j < L 0) : Z i j = ((bZ n L Z i j : Nat) : Int) := by
  rw [bZ_eq ok hi hj]
  obtain ⟨X, hX, e⟩ := isB_nat ((ok.2.2.2.2 i hi).2 j hj)
  unfold cZ
  rw [e]
  simp
theorem ResM.at {w w' : World} {v : Value} {r c : Nat} {F : Nat → Nat → Nat} (h : ResM w w' v r c F) : ∃ a cap, v = .slice a r cap ∧ MatAt w' a r (fun _ => c) (fun i j => ((F i j : Nat) : Int)) := by
  obtain ⟨a, cap, A, C, rfl, hM⟩ := h
  exact ⟨a, cap, rfl, hM.at⟩
/-- A matrix that was turned, turned again. -/
theorem turn_back {w : World} {a : Option Addr} {n : Nat} {L : Nat → Nat} {Z : Nat → Nat → Int} (ok : OkM n L Z) (h : MatAt w a n (fun _ => L 0) (fun i j => ((bZ (L 0) (fun _ => n) (fun i j => ((bZ n L Z j i : Nat) : Int)) j i : Nat) : Int))) : MatAt w a n L Z :=
  h.congr (fun i hi => ⟨(ok.2.2.2.2 i hi).1.symm, fun j hj => by
    rw [bZ_at (F := fun i j => bZ n L Z j i) hj hi (bZ_byt n L Z i j), Z_bZ ok hi hj]⟩)
theorem rank_turn {n : Nat} {L : Nat → Nat} {Z : Nat → Nat → Int} (ok : OkM n L Z) : rankI (L 0) (fun _ => n) (fun i j => ((bZ n L Z j i : Nat) : Int)) = rankI n L Z := by
  have ok2 : OkM (L 0) (fun _ => n) (fun i j => ((bZ n L Z j i : Nat) : Int)) := okM_of (F := fun i j => bZ n L Z j i) ok.2.2.1 ok.2.2.2.1 ok.1 ok.2.1 (fun i j => bZ_byt n L Z j i)
  unfold rankI
  rw [if_pos (okM_yes ok), if_pos (okM_yes ok2)]
  congr 1
  rw [← Gm.rk_turn (bZ_byt n L Z) n (L 0)]
  exact rk_congr (bZ_byt _ _ _) (fun i j => bZ_byt n L Z j i) (fun i j hi hj => bZ_at (F := fun i j => bZ n L Z j i) hi hj (bZ_byt n L Z j i))
theorem rank_le {n : Nat} {L : Nat → Nat} {Z : Nat → Nat → Int} (ok : OkM n L Z) : ∃ r : Nat, rankI n L Z = (r : Int) ∧ r ≤ n ∧ r ≤ L 0 := by
  refine ⟨Gm.rk (bZ n L Z) n (L 0), ?_, Gm.rk_r (bZ_byt _ _ _) _ _, Gm.rk_W (bZ_byt _ _ _) _ _⟩
  unfold rankI
  rw [if_pos (okM_yes ok)]
/-- The product turned is that of the turned ones. -/
theorem mul_turn {n : Nat} {L : Nat → Nat} {Z : Nat → Nat → Int} {n' : Nat} {L' : Nat → Nat} {Z' : Nat → Nat → Int} (h : MulOk n L Z n' L' Z') {i j : Nat} (hi : i < L' 0) (hj : j < n) :
    Gm.mp (L 0) (bZ (L' 0) (fun _ => n') (fun i j => ((bZ n' L' Z' j i : Nat) : Int))) (bZ (L 0) (fun _ => n) (fun i j => ((bZ n L Z j i : Nat) : Int))) i j = bZ n (fun _ => L' 0) (fun i j => ((Gm.mp n' (bZ n L Z) (bZ n' L' Z') i j : Nat) : Int)) j i := by
  rw [bZ_at (F := Gm.mp n' (bZ n L Z) (bZ n' L' Z')) hj hi (Gm.mp_byt _ _ _ _ _), h.2.2]
  refine Eq.trans ?_ (Gm.mp_turn n' (bZ n L Z) (bZ n' L' Z') j i)
  exact Gm.mp_congr (fun t ht => bZ_at (F := fun i j => bZ n' L' Z' j i) hi ht (bZ_byt _ _ _ _ _)) (fun t ht => bZ_at (F := fun i j => bZ n L Z j i) ht hj (bZ_byt _ _ _ _ _))
theorem rank_mul {n : Nat} {L : Nat → Nat} {Z : Nat → Nat → Int} {n' : Nat} {L' : Nat → Nat} {Z' : Nat → Nat → Int} (h : MulOk n L Z n' L' Z') :
    rankI n (fun _ => L' 0) (fun i j => ((Gm.mp n' (bZ n L Z) (bZ n' L' Z') i j : Nat) : Int)) ≤ rankI n L Z ∧ rankI n (fun _ => L' 0) (fun i j => ((Gm.mp n' (bZ n L Z) (bZ n' L' Z') i j : Nat) : Int)) ≤ rankI n' L' Z' := by
  have ok3 : OkM n (fun _ => L' 0) (fun i j => ((Gm.mp n' (bZ n L Z) (bZ n' L' Z') i j : Nat) : Int)) := okM_of h.1.1 h.1.2.1 h.2.1.2.2.1 h.2.1.2.2.2.1 (Gm.mp_byt _ _ _)
  unfold rankI
  rw [if_pos (okM_yes ok3), if_pos (okM_yes h.1), if_pos (okM_yes h.2.1)]
  have e : Gm.rk (bZ n (fun _ => L' 0) (fun i j => ((Gm.mp n' (bZ n L Z) (bZ n' L' Z') i j : Nat) : Int))) n (L' 0) = Gm.rk (Gm.mp n' (bZ n L Z) (bZ n' L' Z')) n (L' 0) := rk_congr (bZ_byt _ _ _) (Gm.mp_byt _ _ _) (fun i j hi hj => bZ_at hi hj (Gm.mp_byt _ _ _ _ _))
  rw [e]
  have h1 := Gm.rk_mul_l (bZ_byt n L Z) (bZ n' L' Z') n n' (L' 0)
  have h2 := Gm.rk_mul_r (bZ n L Z) (bZ_byt n' L' Z') n n' (L' 0)
  rw [h.2.2]
  exact ⟨by exact_mod_cast h1, by exact_mod_cast h2⟩
set_option maxRecDepth 100000 in
set_option maxHeartbeats 8000000 in
theorem walk_FnTurned (a0 : Option Addr) (len0 cap0 : Nat) (z0 : List Int) (w : World) (w0 : IsRow .u8 w a0 len0 cap0 z0) :
    Calls Try.prog 4 #[.slice a0 len0 cap0] w fun e w' => e = .returned (.bool true) ∧ Below w.heap.size w w' := by
  by_cases h0 : 1048576 < len0
  · clear w0
    have h0' : (1048576 : Int) < (len0 : Int) := by omega
    go_enter Try.func4, Try.ntmps4
    go_wp2_with (go_at_call 14; refine (big_any _ _ _ _).mono ?_; rintro e w' ⟨rfl, rfl⟩)
    go_ret
    exact ⟨rfl, Below.refl _ _⟩
  have hc := w0.code (by omega)
  clear w0
  have h0' : ¬ (1048576 : Int) < (len0 : Int) := by omega
  go_enter Try.func4, Try.ntmps4
  go_wp2_with fail
  refine (big_any _ _ _ _).mono ?_
  rintro e w' ⟨rfl, hw⟩
  obtain rfl := hw.symm
  go_wp2_with fail
  refine (drawMatMul_any _ _ _ _ hc).mono ?_
  rintro e v1 ⟨va, vb, rfl, ⟨Ga, n, ca, L, Z, rfl, hn, MA, hL⟩, ⟨Gb, n', cb, L', Z', rfl, hn', MB, hL'⟩, cum⟩
  clear hc hw
  have bl : ∀ i, i < n → L i ≤ 1048576 := fun i hi => by have := hL i hi; omega
  have bl' : ∀ i, i < n' → L' i ≤ 1048576 := fun i hi => by have := hL' i hi; omega
  have rl := muR_le n L Z n' L' Z'
  have KMU : Hid _ := mulM_any (some ⟨Ga, 0, none⟩) n ca L Z (some ⟨Gb, 0, none⟩) n' cb L' Z' v1 MA MB bl bl'
  go_wp2_with fail
  refine Calls.mono KMU.out ?_
  rintro e v2 ⟨up, rfl, RP, b2⟩
  obtain ⟨ap, cp, rfl, MP⟩ := RP.at
  replace MA := MA.below b2
  replace MB := MB.below b2
  replace cum := below2 cum b2
  clear RP b2 KMU
  have KMS : Hid _ := sMul_mat (some ⟨Ga, 0, none⟩) n ca L Z (some ⟨Gb, 0, none⟩) n' cb L' Z' v2 MA MB bl bl'
  go_wp2_with fail
  refine Calls.mono KMS.out ?_
  rintro e v3 ⟨uw, rfl, RW, b3⟩
  obtain ⟨aw, cw, rfl, MW⟩ := RW.at
  replace MA := MA.below b3
  replace MB := MB.below b3
  replace MP := MP.below b3
  replace cum := below2 cum b3
  clear RW b3 KMS
  have KT : Hid _ := turned_any (some ⟨Ga, 0, none⟩) n ca L Z v3 MA bl
  go_wp2_with fail
  refine Calls.mono KT.out ?_
  rintro e v4 ⟨ut, rfl, RT, b4⟩
  obtain ⟨at', ct, rfl, MT⟩ := RT.at
  replace MA := MA.below b4
  replace MB := MB.below b4
  replace MP := MP.below b4
  replace MW := MW.below b4
  replace cum := below2 cum b4
  clear RT b4 KT
  obtain ⟨okf, ek⟩ : ∃ k, muOk n L Z n' L' Z' = k := ⟨_, rfl⟩
  obtain ⟨fine, ef⟩ : ∃ k, okM n L Z = k := ⟨_, rfl⟩
  have hfl : (okf != okf) = false := by simp
  have hfl2 : (fine != fine) = false := by simp
  have KEK : Hid (muOk n L Z n' L' Z' = okf) := ek
  have KEF : Hid (okM n L Z = fine) := ef
  rw [ek]
  have KSO : Hid (∀ w a n ca, ∀ L Z, MatAt w a n L Z → (∀ i, i < n → L i ≤ 1048576) → Calls Try.prog 22 #[.slice a n ca] w fun e w' => e = .returned (.bool (okM n L Z)) ∧ Below w.heap.size w w') := fun w a n ca L Z h hl => sMatOk_any a n ca L Z w h hl
  rw [ef]
  clear ek ef
  go_wp2_with fail
  refine Calls.mono (sameRows_z _ _ _ _ _ _ _ _ MP MW (by omega) (fun i hi => by have := rl.2 (by omega); omega)) ?_
  rintro e v5 ⟨rfl, b5⟩
  replace MA := MA.below b5
  replace MB := MB.below b5
  replace MP := MP.below b5
  replace MT := MT.below b5
  replace cum := below2 cum b5
  clear b5 MW
  have hS := KSO.out v5 (some ⟨Ga, 0, none⟩) n ca L Z MA bl
  rw [KEF.out] at hS
  have KS : Hid _ := hS
  clear hS KSO
  go_wp2_with fail
  refine Calls.mono KS.out ?_
  rintro e v6 ⟨rfl, b6⟩
  replace MA := MA.below b6
  replace MB := MB.below b6
  replace MP := MP.below b6
  replace MT := MT.below b6
  replace cum := below2 cum b6
  clear b6 KS
  cases fine
  case false =>
    have hno : ¬ OkM n L Z := fun h => by have := okM_yes h; rw [KEF.out] at this; cases this
    obtain rfl : okf = false := by rw [← KEK.out]; exact muOk_no (fun h => hno h.1)
    have hR : muR n L Z n' L' Z' = 0 := by unfold muR; rw [if_neg (by rw [KEK.out]; simp)]
    rw [hR]
    clear MA MB MP MT
    go_wp2
    go_ret
    exact ⟨rfl, cum⟩
  have ok := okM_iff KEF.out
  have hTR : turnR n L Z = L 0 := by unfold turnR; rw [if_pos KEF.out]
  have hL0 : L 0 ≤ 16 := ok.2.2.2.1
  have hn16 : n ≤ 16 := ok.2.1
  have hn1 : 1 ≤ n := ok.1
  have ok2 : OkM (L 0) (fun _ => n) (fun i j => ((bZ n L Z j i : Nat) : Int)) := okM_of (F := fun i j => bZ n L Z j i) ok.2.2.1 ok.2.2.2.1 ok.1 ok.2.1 (fun i j => bZ_byt n L Z j i)
  rw [hTR] at MT
  rw [hTR]
  have KT2 : Hid _ := turned_any at' (L 0) ct (fun _ => n) (fun i j => ((bZ n L Z j i : Nat) : Int)) v6 MT (fun i _ => by omega)
  go_wp2_with fail
  refine Calls.mono KT2.out ?_
  rintro e v7 ⟨ub, rfl, RB, b7⟩
  have hTR2 : turnR (L 0) (fun _ => n) (fun i j => ((bZ n L Z j i : Nat) : Int)) = n := by unfold turnR; rw [if_pos (okM_yes ok2)]
  rw [hTR2] at RB
  obtain ⟨ab, cb7, rfl, MB7⟩ := RB.at
  have MBK := turn_back ok MB7
  replace MA := MA.below b7
  replace MB := MB.below b7
  replace MP := MP.below b7
  replace MT := MT.below b7
  replace cum := below2 cum b7
  clear RB b7 KT2 MB7 hTR2
  have KRA : Hid (∀ w, MatAt w (some ⟨Ga, 0, none⟩) n L Z → Calls Try.prog 19 #[.slice (some ⟨Ga, 0, none⟩) n ca] w fun e w' => e = .returned (.int .i64 (rankI n L Z)) ∧ Below w.heap.size w w') := fun w h => rank_any (some ⟨Ga, 0, none⟩) n ca L Z w h bl
  have KRT : Hid (∀ w, MatAt w at' (L 0) (fun _ => n) (fun i j => ((bZ n L Z j i : Nat) : Int)) → Calls Try.prog 19 #[.slice at' (L 0) ct] w fun e w' => e = .returned (.int .i64 (rankI n L Z)) ∧ Below w.heap.size w w') := fun w h => by
    have := rank_any at' (L 0) ct (fun _ => n) (fun i j => ((bZ n L Z j i : Nat) : Int)) w h (fun i _ => by omega)
    rw [rank_turn ok] at this
    exact this
  obtain ⟨r, er, hr1, hr2⟩ := rank_le ok
  have KER : Hid (rankI n L Z = (r : Int)) := er
  rw [er] at KRA KRT
  clear er
  have hr1i : ¬ (r : Int) > (n : Int) := by omega
  have hr2i : ¬ (r : Int) > (L 0 : Int) := by omega
  have hrr : ((r : Int) != (r : Int)) = false := by simp
  go_wp2_with fail
  refine Calls.mono (KRA.out _ MA) ?_
  rintro e v8 ⟨rfl, b8⟩
  replace MA := MA.below b8
  replace MB := MB.below b8
  replace MP := MP.below b8
  replace MT := MT.below b8
  replace MBK := MBK.below b8
  replace cum := below2 cum b8
  clear b8
  go_wp2_with fail
  refine Calls.mono (sameRows_z _ _ _ _ _ _ _ _ MBK MA (by omega) bl) ?_
  rintro e v9 ⟨rfl, b9⟩
  replace MA := MA.below b9
  replace MB := MB.below b9
  replace MP := MP.below b9
  replace MT := MT.below b9
  replace cum := below2 cum b9
  clear b9 MBK
  go_wp2_with fail
  refine Calls.mono (KRT.out _ MT) ?_
  rintro e v10 ⟨rfl, b10⟩
  replace MA := MA.below b10
  replace MB := MB.below b10
  replace MP := MP.below b10
  replace MT := MT.below b10
  replace cum := below2 cum b10
  clear b10 KRT
  obtain ⟨bb, oo, ai, ci, eb, hc0, _⟩ := MA 0 (by omega)
  cases eb
  rw [Nat.zero_add] at hc0
  cases okf
  case false =>
    have hR : muR n L Z n' L' Z' = 0 := by unfold muR; rw [if_neg (by rw [KEK.out]; simp)]
    rw [hR]
    clear MA MB MP MT
    go_wp2
    go_ret
    exact ⟨rfl, cum⟩
  have mo : MulOk n L Z n' L' Z' := by
    refine Classical.byContradiction fun h => ?_
    have := muOk_no h
    rw [KEK.out] at this
    cases this
  have hR : muR n L Z n' L' Z' = n := by unfold muR; rw [if_pos KEK.out]
  rw [hR] at MP
  rw [hR]
  have hL0' : L' 0 ≤ 16 := mo.2.1.2.2.2.1
  have hn16' : n' ≤ 16 := mo.2.1.2.1
  have ok3 : OkM (L' 0) (fun _ => n') (fun i j => ((bZ n' L' Z' j i : Nat) : Int)) := okM_of (F := fun i j => bZ n' L' Z' j i) mo.2.1.2.2.1 mo.2.1.2.2.2.1 mo.2.1.1 mo.2.1.2.1 (fun i j => bZ_byt n' L' Z' j i)
  have ok4 : OkM n (fun _ => L' 0) (fun i j => ((Gm.mp n' (bZ n L Z) (bZ n' L' Z') i j : Nat) : Int)) := okM_of mo.1.1 mo.1.2.1 mo.2.1.2.2.1 mo.2.1.2.2.2.1 (Gm.mp_byt _ _ _)
  have KT3 : Hid _ := turned_any (some ⟨Gb, 0, none⟩) n' cb L' Z' v10 MB bl'
  go_wp2_with fail
  refine Calls.mono KT3.out ?_
  rintro e v11 ⟨uu, rfl, RU, b11⟩
  have hTR3 : turnR n' L' Z' = L' 0 := by unfold turnR; rw [if_pos (okM_yes mo.2.1)]
  rw [hTR3] at RU
  obtain ⟨au, cu, rfl, MU⟩ := RU.at
  replace MA := MA.below b11
  replace MB := MB.below b11
  replace MP := MP.below b11
  replace MT := MT.below b11
  replace cum := below2 cum b11
  clear RU b11 KT3 hc0
  have KQ : Hid _ := mulM_any au (L' 0) cu (fun _ => n') (fun i j => ((bZ n' L' Z' j i : Nat) : Int)) at' (L 0) ct (fun _ => n) (fun i j => ((bZ n L Z j i : Nat) : Int)) v11 MU MT (fun i _ => by omega) (fun i _ => by omega)
  have mo2 : MulOk (L' 0) (fun _ => n') (fun i j => ((bZ n' L' Z' j i : Nat) : Int)) (L 0) (fun _ => n) (fun i j => ((bZ n L Z j i : Nat) : Int)) := ⟨ok3, ok2, mo.2.2.symm⟩
  go_wp2_with fail
  refine Calls.mono KQ.out ?_
  rintro e v12 ⟨uq, rfl, RQ, b12⟩
  have hR2 : muR (L' 0) (fun _ => n') (fun i j => ((bZ n' L' Z' j i : Nat) : Int)) (L 0) (fun _ => n) (fun i j => ((bZ n L Z j i : Nat) : Int)) = L' 0 := by unfold muR; rw [if_pos (muOk_yes mo2)]
  rw [hR2] at RQ
  obtain ⟨aq, cq, rfl, MQ⟩ := RQ.at
  replace MA := MA.below b12
  replace MB := MB.below b12
  replace MP := MP.below b12
  replace cum := below2 cum b12
  clear RQ b12 KQ MT MU
  have KV : Hid _ := turned_any ap n cp (fun _ => L' 0) (fun i j => ((Gm.mp n' (bZ n L Z) (bZ n' L' Z') i j : Nat) : Int)) v12 MP (fun i _ => by omega)
  go_wp2_with fail
  refine Calls.mono KV.out ?_
  rintro e v13 ⟨uv, rfl, RV, b13⟩
  have hTR4 : turnR n (fun _ => L' 0) (fun i j => ((Gm.mp n' (bZ n L Z) (bZ n' L' Z') i j : Nat) : Int)) = L' 0 := by unfold turnR; rw [if_pos (okM_yes ok4)]
  rw [hTR4] at RV
  obtain ⟨av, cv, rfl, MV⟩ := RV.at
  replace MA := MA.below b13
  replace MB := MB.below b13
  replace MP := MP.below b13
  replace MQ := (MQ.below b13).congr (fun i hi => ⟨rfl, fun j hj => by rw [mul_turn mo hi hj]⟩)
  replace cum := below2 cum b13
  clear RV b13 KV
  go_wp2_with fail
  refine Calls.mono (sameRows_z _ _ _ _ _ _ _ _ MQ MV (by omega) (fun i _ => by omega)) ?_
  rintro e v14 ⟨rfl, b14⟩
  replace MA := MA.below b14
  replace MB := MB.below b14
  replace MP := MP.below b14
  replace cum := below2 cum b14
  clear b14 MQ MV
  have hrm := rank_mul mo
  rw [KER.out] at hrm
  have KRP : Hid (∀ w, MatAt w ap n (fun _ => L' 0) (fun i j => ((Gm.mp n' (bZ n L Z) (bZ n' L' Z') i j : Nat) : Int)) → Calls Try.prog 19 #[.slice ap n cp] w fun e w' => e = .returned (.int .i64 (rankI n (fun _ => L' 0) (fun i j => ((Gm.mp n' (bZ n L Z) (bZ n' L' Z') i j : Nat) : Int)))) ∧ Below w.heap.size w w') := fun w h => rank_any ap n cp _ _ w h (fun i _ => by omega)
  have KRB : Hid (∀ w, MatAt w (some ⟨Gb, 0, none⟩) n' L' Z' → Calls Try.prog 19 #[.slice (some ⟨Gb, 0, none⟩) n' cb] w fun e w' => e = .returned (.int .i64 (rankI n' L' Z')) ∧ Below w.heap.size w w') := fun w h => rank_any _ n' cb L' Z' w h bl'
  have HMP : Hid (∀ w, w = v14 → MatAt w ap n (fun _ => L' 0) (fun i j => ((Gm.mp n' (bZ n L Z) (bZ n' L' Z') i j : Nat) : Int))) := fun w e => by rw [e]; exact MP
  generalize rankI n (fun _ => L' 0) (fun i j => ((Gm.mp n' (bZ n L Z) (bZ n' L' Z') i j : Nat) : Int)) = rp at hrm KRP
  generalize rankI n' L' Z' = rb at hrm KRB
  obtain ⟨hm1, hm2⟩ := hrm
  clear HMP
  go_wp2_with fail
  refine Calls.mono (KRP.out _ MP) ?_
  rintro e v15 ⟨rfl, b15⟩
  replace MA := MA.below b15
  replace MB := MB.below b15
  replace MP := MP.below b15
  replace cum := below2 cum b15
  clear b15
  go_wp2_with fail
  refine Calls.mono (KRA.out _ MA) ?_
  rintro e v16 ⟨rfl, b16⟩
  replace MB := MB.below b16
  replace MP := MP.below b16
  replace cum := below2 cum b16
  clear b16 MA
  go_wp2_with fail
  refine Calls.mono (KRP.out _ MP) ?_
  rintro e v17 ⟨rfl, b17⟩
  replace MB := MB.below b17
  replace cum := below2 cum b17
  clear b17 MP
  go_wp2_with fail
  refine Calls.mono (KRB.out _ MB) ?_
  rintro e v18 ⟨rfl, b18⟩
  replace cum := below2 cum b18
  clear b18 MB
  go_wp2
  go_ret
  exact ⟨rfl, cum⟩
end Go.Proofs.Ytmggogdnfgkljaa
namespace Go.Proofs.Ytmggogdnfgkljaa.fnTurned
open Go.ChangeShapes Go.WideShapes Go.ChangeAt Go.RowKit
open Go.ChangeMaps (open_string shut_string)
set_option linter.unusedVariables false
theorem own : ownKnob Try.prog.godebug = none := by kernel_rfl
theorem laidOut : laidOutB Try.prog = true := by kernel_rfl
set_option maxRecDepth 100000 in
theorem lifted (os : Os) (started : os.Started) (H : Type) (enc : TypeId × Value → H) :
    ReturnsInHanded {} Try.checked os 4 .any (Rows.fnTurnedSpec.pre6 enc Try.prog Try.f4 Rows.fnTurnedRow.domain false) (Rows.fnTurnedSpec.post enc Try.prog Try.f4 false true false false) := by
  refine returnsInHanded_of_change (C := Try.checked) own started (by kernel_rfl) Try.func4
    (ChangeSpec.witness6 (enc := enc) (C := Try.checked) false ⟨#[], #[.slice none 0 0], []⟩ 8 (by kernel_rfl) (by kernel_rfl) (by kernel_rfl) (by kernel_rfl)) ?_
  intro W base args ds gs before hval0 hW hcnd _
  have hval : ∀ (j : Nat) t v, Try.f4.params[j]? = some t → args[j]? = some v → Value.okWide Try.prog W .any base t v := hval0
  have hW' := hW
  obtain ⟨p, q, hA0, hV, rfl, hfz, hnd⟩ := hW
  have hA : DataW.TrodAll enc Try.prog W 0 (fun _ => true) true Try.f4.params.toList args.toList ds p := hA0
  rw [Try.params4] at hA hval
  obtain ⟨v0, vs0, d0, ds0, p0, q0, hargs, rfl, rfl, h0, r0⟩ := trodAll_cons hA
  obtain ⟨rfl, rfl, rfl⟩ := trodAll_nil r0
  obtain rfl : args = #[v0] := by cases args; simp_all
  obtain ⟨rfl, rfl⟩ := trodVars_none hV
  obtain ⟨a0, len0, cap0, rfl⟩ := okWide_slice Try.underlying22 (hval 0 22 v0 rfl rfl)
  have k0 := h0
  have lt0 : ∀ x ∈ p0, x.block < W.heap.size := by obtain ⟨m, hm⟩ := k0; exact DataW.trod_lt m _ _ _ hm
  obtain ⟨z0, w0⟩ : ∃ zs, IsRow .u8 W a0 len0 cap0 zs := by
    obtain ⟨fuel, hf⟩ := h0
    rcases open_ints Try.underlying22 Try.underlying5 (by kernel_rfl) hf with ⟨hcs, _⟩ | ⟨x, l, c, zs, hcs, _, hl, hm, hz, _, hcell, hwz⟩
    · simp [Value.cells] at hcs
      obtain ⟨rfl, rfl, rfl⟩ := hcs
      exact ⟨[], .inl ⟨rfl, rfl, rfl, rfl⟩⟩
    · simp [Value.cells] at hcs
      obtain ⟨rfl, rfl, rfl⟩ := hcs
      exact ⟨zs, .inr ⟨_, rfl, hl, hm, by simpa using hz, hcell, hwz⟩⟩
  clear hA0 hval0
  refine (walk_FnTurned a0 len0 cap0 z0 W w0).mono fun e W' ⟨he, bel⟩ => ?_
  subst he
  exact ⟨_, rfl, _, _, _, [], _, [], hW', trodAll_mk1 (shut_bool Try.underlying4 _), (trodAll_cons_mk (Below.trod laidOut (by kernel_rfl) (of_decide_eq_true (by kernel_rfl)) k0 bel lt0) trodAll_mk0), rfl, bel.frame _, fun h => by cases h⟩
theorem over : Rows.fnTurnedRow.holds Try.pinned (OpenSpec.ofChange Rows.fnTurnedSpec) :=
  OpenClaim.holds_of_wide 4 Try.f4 rfl rfl rfl rfl rfl rfl rfl ⟨rfl, rfl, rfl, rfl, rfl⟩ rfl rfl rfl rfl rfl (by kernel_rfl) Try.func4 (by kernel_rfl)
    (of_decide_eq_true (by kernel_rfl)) (by unfold Func.isWrapper; first | (rw [if_pos (by decide +kernel)]; kernel_rfl) | (rw [if_neg (by decide +kernel)]; exact ⟨rfl, rfl⟩))
    (fun os started H enc _ => lifted os started H enc)
theorem proved : Rows.FnTurnedSaid := over
#print axioms proved
end Go.Proofs.Ytmggogdnfgkljaa.fnTurned
