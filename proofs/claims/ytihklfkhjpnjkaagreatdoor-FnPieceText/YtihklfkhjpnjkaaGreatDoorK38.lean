import Derived.Test.YtihklfkhjpnjkaaGreatDoorK32
import Derived.Test.YtihklfkhjpnjkaaGreatDoorK37
import Derived.Test.YtihklfkhjpnjkaaGreatDoorK19
import Derived.Test.YtihklfkhjpnjkaaGreatDoorK36
import Derived.Deep.RegionHeld3
set_option maxHeartbeats 8000000
set_option maxRecDepth 2000
open Go.ChangeShapes Go.WideShapes Go.ChangeAt Go.RowKit
namespace Go.Proofs.YtihklfkhjpnjkaaGreatDoor
theorem two_mid : ∀ n : Nat, n < 100 → ¬ n < 10 → (32 : UInt8) ∉ [UInt8.ofNat (48 + n / 10), UInt8.ofNat (48 + n % 10)] ∧ Lib.atoiAll [UInt8.ofNat (48 + n / 10), UInt8.ofNat (48 + n % 10)] = .ok (n : Int) := by decide +kernel
theorem one_mid : ∀ n : Nat, n < 10 → (32 : UInt8) ∉ [UInt8.ofNat (48 + n)] ∧ Lib.atoiAll [UInt8.ofNat (48 + n)] = .ok (n : Int) := by decide +kernel
theorem its_mid (v : Int) (h0 : -2 ≤ v) (h1 : v ≤ 99) : (32 : UInt8) ∉ (its v).data.toList ∧ Lib.atoiAll (its v).data.toList = .ok v := by
 by_cases hv : v < 0
 ·have e : (its v).data.toList = 45 :: Lib.decDigits v.natAbs := by
   show Lib.itoa v = _
   unfold Lib.itoa
   rw [if_pos hv]
  rw [e]
  have h2 : v = -1 ∨ v = -2 := by omega
  rcases h2 with rfl | rfl
  ·rw [Lib.decDigits_one (by decide)]
   exact ⟨by decide, by decide⟩
  ·rw [Lib.decDigits_one (by decide)]
   exact ⟨by decide, by decide⟩
 ·obtain ⟨n, rfl⟩ := Int.eq_ofNat_of_zero_le (by omega : 0 ≤ v)
  have e : (its (n : Int)).data.toList = Lib.decDigits n := by
   show Lib.itoa (n : Int) = _
   unfold Lib.itoa
   rw [if_neg hv]
   rfl
  rw [e]
  by_cases h : n < 10
  ·rw [Lib.decDigits_one h]
   exact one_mid n h
  ·rw [Lib.decDigits_two h (by omega)]
   exact two_mid n (by omega) h
theorem its_inj {v v' : Int} (h0 : -2 ≤ v) (h1 : v ≤ 99) (h0' : -2 ≤ v') (h1' : v' ≤ 99) (e : its v = its v') : v = v' := by
 have a := (its_mid v h0 h1).2
 rw [e, (its_mid v' h0' h1').2] at a
 cases a
 rfl
theorem words_mid {q : Pc} (h : PcS q) : wn (txQ q) = 6 + q.m ∧ ∀ j, j < 6 + q.m → wq (txQ q) j = pts q.r q.k q.n q.i q.b q.m q.S j := by
 have hz := h.z
 have hm := h.m
 have hfree : ∀ j, j ≤ 5 + q.m → (32 : UInt8) ∉ (pts q.r q.k q.n q.i q.b q.m q.S j).data.toList := fun j _ => by
  match j with
  | 0 => exact hxd_free q.r
  | 1 => exact (its_mid q.k (by omega) (by omega)).1
  | 2 => exact (its_mid q.n (by omega) (by omega)).1
  | 3 => exact (its_mid q.i (by omega) (by omega)).1
  | 4 => exact hxd_free q.b
  | 5 => exact (its_mid (q.m : Int) (by omega) (by omega)).1
  | j + 6 => exact hxd_free (q.S j)
 have e : wds (txQ q) = (List.range (6 + q.m)).map (pts q.r q.k q.n q.i q.b q.m q.S) := by
  unfold txQ pieceT
  rw [show 6 + q.m = (5 + q.m) + 1 by omega]
  exact wd_jp _ _ hfree
 refine ⟨by unfold wn; rw [e]; simp, fun j hj => ?_⟩
 unfold wq
 rw [e, List.getD_eq_getElem?_getD, List.getElem?_map, List.getElem?_range hj]
 rfl
theorem hyv_all (s : ByteArray) : hyv (hxd s) = s := by
 by_cases h : s.size = 0
 ·have e : hxd s = ⟨#[45]⟩ := if_pos h
  rw [e]
  have e2 : hyv ⟨#[45]⟩ = ByteArray.empty := if_pos rfl
  rw [e2]
  obtain ⟨⟨l⟩⟩ := s
  have hl : l.length = 0 := h
  rw [List.length_eq_zero_iff.1 hl]
  rfl
 ·exact hyv_back s (by omega)
theorem hxd_inj {s s' : ByteArray} (e : hxd s = hxd s') : s = s' := by rw [← hyv_all s, e, hyv_all s']
theorem tx_same {q p : Pc} (hq : PcS q) (hp : okQ p = true) (e : txQ q = txQ p) : sameQ q p := by
 obtain ⟨a1, a2⟩ := words_mid hq
 obtain ⟨b1, b2⟩ := words_of (show okP p.r p.k p.n p.i p.b p.m p.S = true from hp)
 obtain ⟨⟨hk1, hk2, hk3, _, _⟩, hi0, hi1, _, hm, _⟩ := okP_parts (show okP p.r p.k p.n p.i p.b p.m p.S = true from hp)
 have hz := hq.z
 rw [e] at a1 a2
 have hme : q.m = p.m := by
  have : wn (txQ p) = 6 + p.m := b1
  omega
 have hw : ∀ j, j < 6 + p.m → pts q.r q.k q.n q.i q.b q.m q.S j = pts p.r p.k p.n p.i p.b p.m p.S j := fun j hj => (a2 j (by omega)).symm.trans (b2 j hj)
 refine ⟨hxd_inj (hw 0 (by omega)), its_inj (by omega) (by omega) (by omega) (by omega) (hw 1 (by omega)), its_inj (by omega) (by omega) (by omega) (by omega) (hw 2 (by omega)), its_inj (by omega) (by omega) (by omega) (by omega) (hw 3 (by omega)), hxd_inj (hw 4 (by omega)), hme, fun j hj => hxd_inj (hw (j + 6) (by omega))⟩
theorem ok_of_text {q p : Pc} {b : Bool} (hq : PcS q) (h : RdS (txQ q) p b) : b = okQ q := by
 rcases h with ⟨rfl, h1, h2⟩ | ⟨rfl, _, hno⟩
 ·have := (tx_same hq h1 h2.symm).eqs.1
  rw [this, h1]
 ·cases hb : okQ q with
  | false => rfl
  | true => exact absurd rfl (hno q hb)
theorem sum_mid {q : Pc} (h : PcS q) : q.r.size + q.b.size + (q.m + tot (fun j => (q.S j).size) q.m) ≤ 280000 := by
 have key : ∀ c, c ≤ q.m → tot (fun j => (q.S j).size) c ≤ c * 4096 := fun c => by
  induction c with
  | zero => intro _; exact Nat.le_refl _
  | succ c ih =>
   intro hc
   have a1 := ih (by omega)
   have a2 := h.s c (by omega)
   show tot _ c + (q.S c).size ≤ _
   omega
 have h2 := key q.m (Nat.le_refl _)
 have h3 := h.m
 have h4 := h.r
 have h5 := h.b
 have h6 : q.m * 4096 ≤ 64 * 4096 := Nat.mul_le_mul_right _ h3
 omega
theorem text_mid {q : Pc} (h : PcS q) : (txQ q).size ≤ 600000 := by
 have hz := h.z
 have hm := h.m
 have h1 := jp_size (r := q.r) (b := q.b) (S := q.S) (its_size q.k (by omega) (by omega)).1 (its_size q.n (by omega) (by omega)).1 (its_size q.i (by omega) (by omega)).1 (its_size (q.m : Int) (by omega) (by omega)).1 q.m
 have h2 := sum_mid h
 unfold txQ pieceT
 omega
theorem drawPieceOk_any (a : Option Addr) (n cap : Nat) (w : World) (hc : CodeAt w a n) :
  Calls Tryz.prog 21 #[.slice a n cap] w fun e w' => ∃ (p : Pc) (ap : Option Addr) (cp : Nat), e = .returned (pcV p.r p.k p.n p.i p.b (.slice ap p.m cp)) ∧ PcS p ∧ TxtAt w' ap p.m p.S ∧ Below w.heap.size w w' := by
 obtain ⟨w0, HW0⟩ : ∃ x, Hid (x = w.alloc (.cells #[.string ⟨#[]⟩, .int .i64 0, .int .i64 0, .int .i64 0, .string ⟨#[]⟩, .slice none 0 0] 33)) := ⟨_, rfl⟩
 obtain ⟨D, HD⟩ : ∃ x, Hid (x = w.heap.size) := ⟨_, rfl⟩
 have hDw : w.heap.size ≤ D := by rw [HD.out]; exact Nat.le_refl _
 have HR0 : Hid (Row w0 D 33 #[.string ⟨#[]⟩, .int .i64 0, .int .i64 0, .int .i64 0, .string ⟨#[]⟩, .slice none 0 0]) := by show Row _ _ _ _; rw [HW0.out, HD.out]; exact Row.new w _ _
 have hb0 : Below w.heap.size w w0 := by rw [HW0.out]; exact (Below.refl _ _).alloc (Nat.le_refl _) _
 have KB0 : Hid (Below w.heap.size w w0) := hb0
 have hc0 : CodeAt w0 a n := hc.below hb0
 clear hc hb0
 go_enter Tryz.func21, Tryz.ntmps21
 go_wp2_with fail
 rw [← HW0.out, ← HD.out]
 refine (new_any a n cap _ hc0.1 hc0.bytes).mono ?_
 rintro e w1 ⟨g, rfl, hg, hb1, hc1⟩
 have hab := hc0.under hg
 clear hc0
 go_wp2_with fail
 refine (piece07_any g n cap a _ hc1 hab).mono ?_
 rintro e w2 ⟨p, ap, cp, rfl, hP, hO, hg2, hc2⟩
 have B2 : Hid (Below w0.heap.size w0 w2) := belowOf hb1 hg hg2
 have HF : Hid (PcS p ∧ OwnT w2 w1.heap.size ap p.m cp p.S) := ⟨hP, hO⟩
 have hRD := HR0.out.below B2.out HR0.out.lt
 have lD : D < w1.heap.size := by have h1 := hb1.size; have h2 := HR0.out.lt; omega
 obtain ⟨st0, st1, st2, st3, st4, st5, st6, st7, st8, st9, st10, st11⟩ := store_facts hRD
 clear hP hO hg2 hc2 hb1 hc1 hab
 go_wp2
 exact bodyPost_ret (results_cell_row Tryz.results21 _ _ D 33 _ (0, 0) _ (by rfl) (store_done hRD _ _ _ _ _ _) Tryz.underlying33 (by rfl) Tryz.infoPc) rfl ⟨p, ap, cp, rfl, HF.out.1, (own_six HF.out.2 lD _ _ _ _ _ _).at, below_six (below2 KB0.out B2.out) hDw _ _ _ _ _ _⟩
theorem drawReadPiece_any (a : Option Addr) (n cap : Nat) (w : World) (hc : CodeAt w a n) :
  Calls Tryz.prog 19 #[.slice a n cap] w fun e w' => ∃ u : ByteArray, u.size ≤ 700000 ∧ e = .returned (.string u) ∧ Below w.heap.size w w' := by
 go_enter Tryz.func19, Tryz.ntmps19
 go_wp2_with fail
 refine (new_any a n cap _ hc.1 hc.bytes).mono ?_
 rintro e w1 ⟨g, rfl, hg, hb1, hc1⟩
 have hab := hc.under hg
 clear hc
 go_wp2_with fail
 refine (piece07_any g n cap a _ hc1 hab).mono ?_
 rintro e w2 ⟨p, ap, cp, rfl, hP, hO, hg2, hc2⟩
 have hz := hP.z
 have KTX : Hid (Calls Tryz.prog 22 #[pcV p.r p.k p.n p.i p.b (.slice ap p.m cp)] w2 fun e w' => e = .returned (.string (txQ p)) ∧ Below w2.heap.size w2 w') := sPieceText_any p.r p.k p.n p.i p.b ap p.m cp p.S w2 hO.at (Nat.le_trans (sum_mid hP) (by omega)) (by omega) (by omega) (by omega)
 have hu := text_mid hP
 clear hP hO hz
 go_wp2_with fail
 refine Calls.mono KTX.out ?_
 rintro e w4 ⟨rfl, hb4⟩
 have hg4 := grownB g hb4
 have hc4 : Cur w4 g a n cap := curBelow hc2 hb4
 generalize txQ p = u at hu ⊢
 obtain ⟨l, hl⟩ : ∃ l, u.size = l := ⟨_, rfl⟩
 rw [hl] at hu
 have hwl : IntKind.i64.wrap ((l : Int) + 1) = (l : Int) + 1 := by rw [IntKind.wrap_i64]; omega
 clear KTX hb4
 go_wp2_with fail
 refine (belowN_any g n cap a _ _ hc4).mono ?_
 rintro e w5 ⟨y, y0, y1, _, rfl, hg5, hc5⟩
 have y2 := y1 (by omega)
 clear y1
 obtain ⟨i, rfl⟩ := Int.eq_ofNat_of_zero_le y0
 have hiu : i ≤ l := by omega
 go_wp2_with fail
 refine (belowN_any g n cap a _ _ hc5).mono ?_
 rintro e w6 ⟨q, q0, _, _, rfl, hg6, hc6⟩
 have hg16 := grownBy_trans hg2 (grownBy_trans hg4 (grownBy_trans hg5 hg6))
 have hlt := hc6.lt
 have i1 : (i : Int) ≤ (l : Int) := by omega
 have i2 : (0 : Int) ≤ (i : Int) := by omega
 clear hc1 hc2 hc4 hc5 hg2 hg4 hg5 hg6 hwl
 by_cases e0 : q = 0
 ·subst e0
  go_wp2
  go_ret
  exact ⟨_, by simp [ByteArray.size_extract]; omega, rfl, below_g hb1 hg hg16⟩
 ·have b0 : (q == 0) = false := by simpa using e0
  by_cases e1 : q = 1
  ·subst e1
   have KC : Hid (Cur (w6.drew.alloc (.cells #[.string ⟨#[32]⟩, .string ⟨#[48]⟩, .string ⟨#[45]⟩, .string ⟨#[102]⟩] 9)) g a n cap) := Cur.alloc (show Cur w6.drew g a n cap from hc6) _
   have KL : Hid (∀ i, i < 4 → ∃ t : ByteArray, t.size = 1 ∧ (w6.drew.alloc (.cells #[.string ⟨#[32]⟩, .string ⟨#[48]⟩, .string ⟨#[45]⟩, .string ⟨#[102]⟩] 9)).cell? ⟨w6.heap.size, 0 + i, none⟩ = some (.string t)) := by
    intro i hi
    have hr := (Row.new w6.drew #[.string ⟨#[32]⟩, .string ⟨#[48]⟩, .string ⟨#[45]⟩, .string ⟨#[102]⟩] 9).cell i
    rw [Nat.zero_add]
    match i, hi with
    | 0, _ => exact ⟨_, rfl, hr⟩
    | 1, _ => exact ⟨_, rfl, hr⟩
    | 2, _ => exact ⟨_, rfl, hr⟩
    | 3, _ => exact ⟨_, rfl, hr⟩
   have KG : Hid (w1.grownBy (w6.drew.alloc (.cells #[.string ⟨#[32]⟩, .string ⟨#[48]⟩, .string ⟨#[45]⟩, .string ⟨#[102]⟩] 9)) (some g)) := grownBy_trans hg16 ⟨rfl, rfl, rfl, by simp, fun j hj _ => Below.heap_alloc w6.drew _ j hj⟩
   clear hc6 hg16
   have k1 : (9223372036854775807 < i + 1) = False := by simp; omega
   have k2 : (9223372036854775807 < i + 1 + (l - i)) = False := by simp; omega
   have k3 : (9223372036854775806 < i) = False := by simp; omega
   have s1 : (u.extract 0 i).size = i := by simp [ByteArray.size_extract]; omega
   have s2 : (u.extract i l).size = l - i := by simp [ByteArray.size_extract]; omega
   go_wp2_with fail
   go_region_held3 (fun _ => True) (trivial) ((go_at_call 53; refine Calls.mono (pickS_any g n cap a w6.heap.size 0 4 4 _ KC.out (by omega) (by omega) (by omega) KL.out) ?_; rintro e w7 ⟨t, ht, rfl, hg7, hc7⟩; have s3 : (u.extract 0 i ++ t).size = i + 1 := (by rw [ByteArray.size_append, s1, ht]); have KG7 : Hid (w1.grownBy w7 (some g)) := grownBy_trans KG.out hg7; clear hg7 hc7))
   all_goals
    go_wp2
    go_ret
    exact ⟨_, by rw [ByteArray.size_append, s3, s2]; omega, rfl, below_g hb1 hg KG7.out⟩
  ·have b1 : (q == 1) = false := by simpa using e1
   go_wp2
   go_ret
   exact ⟨u, by omega, rfl, below_g hb1 hg hg16⟩
end Go.Proofs.YtihklfkhjpnjkaaGreatDoor
