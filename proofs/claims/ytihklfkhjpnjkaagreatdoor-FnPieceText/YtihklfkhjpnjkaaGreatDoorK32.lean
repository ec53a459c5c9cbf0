import Derived.Test.YtihklfkhjpnjkaaGreatDoorK31
import Derived.Test.YtihklfkhjpnjkaaGreatDoorK9
import Derived.Test.YtihklfkhjpnjkaaGreatDoorShelf
import Derived.Test.YtihklfkhjpnjkaaGreatDoorK20
set_option maxHeartbeats 8000000
set_option maxRecDepth 2000
open Go.ChangeShapes Go.WideShapes Go.ChangeAt Go.RowKit
namespace Go.Proofs.YtihklfkhjpnjkaaGreatDoor
def atv (u : ByteArray) : Int := match Lib.atoiAll u.data.toList with
 | .ok v => v
 | .«syntax» => 0
 | .range => Lib.atoiSat u.data.toList
def atb (u : ByteArray) : Bool := match Lib.atoiAll u.data.toList with
 | .ok _ => true
 | _ => false
theorem atv_its (v : Int) (h0 : 0 ≤ v) (h1 : v ≤ 16) : atv (its v) = v ∧ atb (its v) = true := by
 have h := (its_small v h0 h1).2
 unfold atv atb
 rw [h]
 exact ⟨rfl, rfl⟩
theorem hxd_back (s : ByteArray) (h : 1 ≤ s.size) : hbS (hxd s) = s ∧ hbF (hxd s) = true := by
 have e : hxd s = hexT s := if_neg (by omega)
 rw [e]
 exact ⟨hex_back s, hex_ok s⟩
noncomputable def hyv (u : ByteArray) : ByteArray := if u = ⟨#[45]⟩ then ByteArray.empty else hbS u
theorem hyv_le (u : ByteArray) : (hyv u).size ≤ u.size := by
 unfold hyv
 split
 ·exact Nat.zero_le _
 ·exact hbS_le u
theorem hyv_back (s : ByteArray) (h : 1 ≤ s.size) : hyv (hxd s) = s := by
 have e : hxd s = hexT s := if_neg (by omega)
 unfold hyv
 rw [e, if_neg, hex_back]
 intro h1
 have h2 := congrArg ByteArray.size h1
 rw [hexT_size] at h2
 have h3 : (⟨#[45]⟩ : ByteArray).size = 1 := rfl
 omega
def dgB (l : List UInt8) : Bool := l.all fun c => decide (48 ≤ c.toNat) && decide (c.toNat ≤ 57)
def nmf (l : List UInt8) : Nat := l.foldl (fun v c => 10 * v + (c.toNat - 48)) 0
def nmv (u : ByteArray) : Int := if u.size = 0 ∨ 9 < u.size ∨ dgB u.data.toList = false then -1 else if its ((nmf u.data.toList : Nat) : Int) = u then ((nmf u.data.toList : Nat) : Int) else -1
theorem nmv_its (v : Int) (h0 : 0 ≤ v) (h1 : v ≤ 16) : nmv (its v) = v := by
 obtain ⟨n, rfl⟩ := Int.eq_ofNat_of_zero_le h0
 have hn : n ≤ 16 := by omega
 have e : (its (n : Int)).data.toList = Lib.decDigits n := by
  show Lib.itoa (n : Int) = _
  unfold Lib.itoa
  rw [if_neg (by omega)]
  rfl
 have key : dgB (Lib.decDigits n) = true ∧ nmf (Lib.decDigits n) = n ∧ (Lib.decDigits n).length ≠ 0 ∧ (Lib.decDigits n).length ≤ 9 := by
  by_cases h : n < 10
  ·rw [Lib.decDigits_one h]
   match n, h with
   | 0, _ | 1, _ | 2, _ | 3, _ | 4, _ | 5, _ | 6, _ | 7, _ | 8, _ | 9, _ => exact ⟨by decide, by decide, by decide, by decide⟩
  ·rw [Lib.decDigits_two h (by omega)]
   match n, hn, h with
   | 10, _, _ | 11, _, _ | 12, _, _ | 13, _, _ | 14, _, _ | 15, _, _ | 16, _, _ => exact ⟨by decide, by decide, by decide, by decide⟩
   | n + 17, hn, _ => omega
 have hs : (its (n : Int)).size = (Lib.decDigits n).length := by rw [← e]; rfl
 obtain ⟨k1, k2, k3, k4⟩ := key
 have hno : ¬ ((its (n : Int)).size = 0 ∨ 9 < (its (n : Int)).size ∨ dgB (its (n : Int)).data.toList = false) := by
  rw [hs, e, k1]
  rintro (h | h | h)
  ·exact k3 h
  ·omega
  ·cases h
 unfold nmv
 rw [if_neg hno, e, k2, if_pos rfl]
def rdP (s : ByteArray) : Pc := ⟨hbS (wq s 0), atv (wq s 1), atv (wq s 2), atv (wq s 3), hbS (wq s 4), wn s - 6, fun j => hbS (wq s (j + 6))⟩
noncomputable def rdM (s : ByteArray) : Pc := ⟨hyv (wq s 0), nmv (wq s 1), nmv (wq s 2), nmv (wq s 3), hyv (wq s 4), wn s - 6, fun j => hyv (wq s (j + 6))⟩
noncomputable def okQ (p : Pc) : Bool := okP p.r p.k p.n p.i p.b p.m p.S
noncomputable def txQ (p : Pc) : ByteArray := pieceT p.r p.k p.n p.i p.b p.m p.S
def sameQ (p q : Pc) : Prop := p.r = q.r ∧ p.k = q.k ∧ p.n = q.n ∧ p.i = q.i ∧ p.b = q.b ∧ p.m = q.m ∧ ∀ j, j < q.m → p.S j = q.S j
def rdOk (s : ByteArray) : Prop := 6 ≤ wn s ∧ hbF (wq s 0) = true ∧ atb (wq s 1) = true ∧ atb (wq s 2) = true ∧ atb (wq s 3) = true ∧ hbF (wq s 4) = true ∧ ∀ j, j < wn s - 6 → hbF (wq s (j + 6)) = true
theorem reads_back (q : Pc) (h : okQ q = true) : rdOk (txQ q) ∧ sameQ (rdP (txQ q)) q ∧ sameQ (rdM (txQ q)) q := by
 obtain ⟨⟨hk1, hk2, hk3, hb1, hb2⟩, hi0, hi1, hr, hm, hS⟩ := okP_parts h
 obtain ⟨h1, h2⟩ := words_of h
 have h1' : wn (txQ q) = 6 + q.m := h1
 have w0 : wq (txQ q) 0 = hxd q.r := h2 0 (by omega)
 have w1 : wq (txQ q) 1 = its q.k := h2 1 (by omega)
 have w2 : wq (txQ q) 2 = its q.n := h2 2 (by omega)
 have w3 : wq (txQ q) 3 = its q.i := h2 3 (by omega)
 have w4 : wq (txQ q) 4 = hxd q.b := h2 4 (by omega)
 have w6 : ∀ j, j < q.m → wq (txQ q) (j + 6) = hxd (q.S j) := fun j hj => h2 (j + 6) (by omega)
 have e6 : wn (txQ q) - 6 = q.m := by omega
 have s6 : ∀ j, j < q.m → 1 ≤ (q.S j).size := fun j hj => by have := hS j hj; omega
 refine ⟨⟨by omega, ?_, ?_, ?_, ?_, ?_, fun j hj => ?_⟩, ⟨?_, ?_, ?_, ?_, ?_, e6, fun j hj => ?_⟩, ⟨?_, ?_, ?_, ?_, ?_, e6, fun j hj => ?_⟩⟩
 ·rw [w0]; exact (hxd_back _ (by omega)).2
 ·rw [w1]; exact (atv_its _ (by omega) (by omega)).2
 ·rw [w2]; exact (atv_its _ (by omega) (by omega)).2
 ·rw [w3]; exact (atv_its _ (by omega) (by omega)).2
 ·rw [w4]; exact (hxd_back _ hb1).2
 ·rw [w6 j (by omega)]; exact (hxd_back _ (s6 j (by omega))).2
 ·show hbS (wq (txQ q) 0) = _; rw [w0]; exact (hxd_back _ (by omega)).1
 ·show atv (wq (txQ q) 1) = _; rw [w1]; exact (atv_its _ (by omega) (by omega)).1
 ·show atv (wq (txQ q) 2) = _; rw [w2]; exact (atv_its _ (by omega) (by omega)).1
 ·show atv (wq (txQ q) 3) = _; rw [w3]; exact (atv_its _ (by omega) (by omega)).1
 ·show hbS (wq (txQ q) 4) = _; rw [w4]; exact (hxd_back _ hb1).1
 ·show hbS (wq (txQ q) (j + 6)) = _; rw [w6 j hj]; exact (hxd_back _ (s6 j hj)).1
 ·show hyv (wq (txQ q) 0) = _; rw [w0]; exact hyv_back _ (by omega)
 ·show nmv (wq (txQ q) 1) = _; rw [w1]; exact nmv_its _ (by omega) (by omega)
 ·show nmv (wq (txQ q) 2) = _; rw [w2]; exact nmv_its _ (by omega) (by omega)
 ·show nmv (wq (txQ q) 3) = _; rw [w3]; exact nmv_its _ (by omega) (by omega)
 ·show hyv (wq (txQ q) 4) = _; rw [w4]; exact hyv_back _ hb1
 ·show hyv (wq (txQ q) (j + 6)) = _; rw [w6 j hj]; exact hyv_back _ (s6 j hj)
end Go.Proofs.YtihklfkhjpnjkaaGreatDoor
namespace Go.Proofs.YtihklfkhjpnjkaaGreatDoor
open Gt (pl pr_congr)
theorem aS_congr {m : Nat} {S S' : Nat → ByteArray} (h : ∀ j, j < m → S j = S' j) : aS m S = aS m S' := by
 have key : ∀ {S S' : Nat → ByteArray}, (∀ j, j < m → S j = S' j) → aS m S = true → aS m S' = true := fun {S S'} h h1 => by
  refine aS_yes fun i hi => ?_
  unfold aS at h1
  have h2 : ∀ i, i < m → (S i).size = 16 := by simpa using h1
  rw [← h i hi]
  exact h2 i hi
 cases h1 : aS m S <;> cases h2 : aS m S'
 ·rfl
 ·rw [key (fun j hj => (h j hj).symm) h2] at h1; cases h1
 ·rw [key h h1] at h2; cases h2
 ·rfl
theorem prB_congr {x : ByteArray} {i n : Int} {m : Nat} {S S' : Nat → ByteArray} (h : ∀ j, j < m → S j = S' j) : prB x i n m S = prB x i n m S' := by
 unfold prB
 rw [aS_congr h]
theorem pvB_congr {r x : ByteArray} {i n : Int} {m : Nat} {S S' : Nat → ByteArray} (h : ∀ j, j < m → S j = S' j) : pvB r x i n m S = pvB r x i n m S' := by
 unfold pvB
 rw [prB_congr h]
 cases hb : prB x i n m S'
 ·rw [Bool.false_and, Bool.false_and]
 ·have hb' : prB x i n m S = true := by rw [prB_congr h]; exact hb
  have hm : m = pl i.toNat n.toNat := by
   have h1 := hb
   unfold prB at h1
   simp only [Bool.and_eq_true, decide_eq_true_eq] at h1
   have h2 := h1.1.2
   unfold plI at h2
   split at h2 <;> omega
  have e : prS x i n m S = prS x i n m S' := by
   unfold prS
   rw [if_pos hb', if_pos hb]
   refine pr_congr x i.toNat 0 0 fun j hj => ?_
   simpa using h j (by omega)
  rw [e]
theorem okP_congr {r : ByteArray} {k n i : Int} {b : ByteArray} {m : Nat} {S S' : Nat → ByteArray} (h : ∀ j, j < m → S j = S' j) : okP r k n i b m S = okP r k n i b m S' := by
 by_cases hk : kOk k n b
 ·rw [okP_yes hk, okP_yes hk, pvB_congr h]
 ·rw [okP_no hk, okP_no hk]
theorem jp_congr {P P' : Nat → ByteArray} : ∀ n, (∀ j, j < n → P j = P' j) → jp P n = jp P' n
 | 0, _ => rfl
 | n + 1, h => by
  by_cases hn : n = 0
  ·subst hn
   exact h 0 (by omega)
  ·rw [jp_s P n hn, jp_s P' n hn, jp_congr n (fun j hj => h j (by omega)), h n (by omega)]
theorem pieceT_congr {r : ByteArray} {k n i : Int} {b : ByteArray} {m : Nat} {S S' : Nat → ByteArray} (h : ∀ j, j < m → S j = S' j) : pieceT r k n i b m S = pieceT r k n i b m S' := by
 unfold pieceT
 refine jp_congr _ fun j hj => ?_
 match j with
 | 0 | 1 | 2 | 3 | 4 | 5 => rfl
 | j + 6 => show hxd (S j) = hxd (S' j); rw [h j (by omega)]
theorem sameQ.eqs {p q : Pc} (h : sameQ p q) : okQ p = okQ q ∧ txQ p = txQ q := by
 obtain ⟨r, k, n, i, b, m, S⟩ := p
 obtain ⟨r', k', n', i', b', m', S'⟩ := q
 obtain ⟨h1, h2, h3, h4, h5, h6, h7⟩ := h
 dsimp only at h1 h2 h3 h4 h5 h6 h7
 subst h1; subst h2; subst h3; subst h4; subst h5; subst h6
 exact ⟨okP_congr h7, pieceT_congr h7⟩
def NoQ (s : ByteArray) : Prop := ∀ q, okQ q = true → txQ q ≠ s
theorem no_words {s : ByteArray} (h : ¬ rdOk s) : NoQ s := fun q hq e => h (e ▸ (reads_back q hq).1)
theorem no_prog {s : ByteArray} (h : ¬ (okQ (rdP s) = true ∧ txQ (rdP s) = s)) : NoQ s := fun q hq e => by
 have h1 := (reads_back q hq).2.1
 rw [e] at h1
 obtain ⟨h2, h3⟩ := h1.eqs
 exact h ⟨h2.trans hq, h3.trans e⟩
theorem no_model {s : ByteArray} (h : ¬ (okQ (rdM s) = true ∧ txQ (rdM s) = s)) : NoQ s := fun q hq e => by
 have h1 := (reads_back q hq).2.2
 rw [e] at h1
 obtain ⟨h2, h3⟩ := h1.eqs
 exact h ⟨h2.trans hq, h3.trans e⟩
theorem no_long {s : ByteArray} (h : 9000 < s.size) : NoQ s := fun q hq e => by
 have h1 : (txQ q).size ≤ 9000 := text_short hq
 rw [e] at h1
 omega
theorem no_few {s : ByteArray} (h : wn s < 6) : NoQ s := no_words fun h1 => by have := h1.1; omega
def pz : Pc := ⟨ByteArray.empty, 0, 0, 0, ByteArray.empty, 0, fun _ => ByteArray.empty⟩
def RdS (s : ByteArray) (p : Pc) (b : Bool) : Prop := (b = true ∧ okQ p = true ∧ txQ p = s) ∨ (b = false ∧ p = pz ∧ NoQ s)
theorem RdS.one {s : ByteArray} {p p' : Pc} {b b' : Bool} (h : RdS s p b) (h' : RdS s p' b') : b = b' ∧ sameQ p p' := by
 rcases h with ⟨hb, h1, h2⟩ | ⟨hb, h1, h2⟩
 ·rcases h' with ⟨hb', h1', h2'⟩ | ⟨hb', h1', h2'⟩
  ·refine ⟨hb.trans hb'.symm, ?_⟩
   have a := (reads_back p h1).2.1
   have a' := (reads_back p' h1').2.1
   rw [h2] at a
   rw [h2'] at a'
   obtain ⟨c1, c2, c3, c4, c5, c6, c7⟩ := a
   obtain ⟨d1, d2, d3, d4, d5, d6, d7⟩ := a'
   exact ⟨c1.symm.trans d1, c2.symm.trans d2, c3.symm.trans d3, c4.symm.trans d4, c5.symm.trans d5, c6.symm.trans d6, fun j hj => (c7 j (by omega)).symm.trans (d7 j hj)⟩
  ·exact absurd h2 (h2' p h1)
 ·rcases h' with ⟨hb', h1', h2'⟩ | ⟨hb', h1', h2'⟩
  ·exact absurd h2' (h2 p' h1')
  ·subst h1; subst h1'
   exact ⟨hb.trans hb'.symm, rfl, rfl, rfl, rfl, rfl, rfl, fun _ _ => rfl⟩
end Go.Proofs.YtihklfkhjpnjkaaGreatDoor
namespace Go.Proofs.YtihklfkhjpnjkaaGreatDoor
structure NumW (w : World) : Prop where
 s : ∃ t p, w.cell? ⟨3, 0, none⟩ = some (.iface t p)
 r : ∃ t p, w.cell? ⟨4, 0, none⟩ = some (.iface t p)
 m : ∃ z, w.cell? ⟨2, 0, none⟩ = some (.int .i64 z)
theorem NumW.below {w w' : World} (h : NumW w) (hb : Below w.heap.size w w') : NumW w' := by
 obtain ⟨⟨t, p, h1⟩, ⟨t', p', h2⟩, ⟨z, h3⟩⟩ := h
 exact ⟨⟨t, p, (hb.cell (p := ⟨3, 0, none⟩) (block_lt_of_cell h1)).trans h1⟩, ⟨t', p', (hb.cell (p := ⟨4, 0, none⟩) (block_lt_of_cell h2)).trans h2⟩, ⟨z, (hb.cell (p := ⟨2, 0, none⟩) (block_lt_of_cell h3)).trans h3⟩⟩
theorem readHex_any (u : ByteArray) (w : World) (hs : u.size ≤ 1048576) :
  Calls Tryz.prog 83 #[.string u] w fun e w' => ((e = .returned (.string (hbS u)) ∧ hbF u = true) ∨ (e = .panicked (failC 2) ∧ hbF u = false)) ∧ Below w.heap.size w w' := by
 have K : Hid _ := hexBytes_any u w hs
 generalize hbS u = v at K
 cases hf : hbF u
 all_goals rw [hf] at K
 all_goals clear hf
 ·go_enter Tryz.func83, Tryz.ntmps83
  go_wp2_with fail
  refine Calls.mono K.out ?_
  rintro e w1 ⟨rfl, hb⟩
  go_wp2_with fail
  refine Calls.mono (need_no 2 w1) ?_
  rintro e w2 ⟨rfl, rfl⟩
  go_wp2
  simp [bodyPost]
  exact hb
 ·go_enter Tryz.func83, Tryz.ntmps83
  go_wp2_with fail
  refine Calls.mono K.out ?_
  rintro e w1 ⟨rfl, hb⟩
  go_wp2_with fail
  refine Calls.mono (need_ok 2 w1) ?_
  rintro e w2 ⟨rfl, rfl⟩
  go_wp2
  simp [bodyPost, results, go_sem]
  exact hb
theorem atoi_any (u : ByteArray) (w : World) (hs : u.size ≤ 1048576) (hN : NumW w) :
  Calls Tryz.prog 126 #[.string u] w fun e w' => ((e = .returned (.tuple #[.int .i64 (atv u), .nilIface]) ∧ atb u = true) ∨ ((∃ t p, e = .returned (.tuple #[.int .i64 (atv u), .iface t p])) ∧ atb u = false)) ∧ Below w.heap.size w w' := by
 obtain ⟨⟨t, p, h1⟩, ⟨t', p', h2⟩, _⟩ := hN
 cases hc : Lib.atoiAll u.data.toList with
 | ok v =>
  refine (Tryz.strconv_Atoi_ok u (by omega) v hc w).mono ?_
  rintro e w' ⟨rfl, hw⟩
  have e1 : atv u = v := by unfold atv; rw [hc]
  have e2 : atb u = true := by unfold atb; rw [hc]
  rw [e1]
  refine ⟨Or.inl ⟨rfl, e2⟩, ?_⟩
  rcases hw with rfl | ⟨t, rfl⟩
  ·exact Below.refl _ _
  ·exact ⟨rfl, rfl, rfl, by rw [Lib.bytesWorld_size]; omega, fun j hj => Lib.bytesWorld_at_old w _ _ j hj⟩
 | «syntax» =>
  refine (Tryz.strconv_Atoi_syntax u (by omega) hc (.iface t p) w h1 (Or.inr ⟨_, _, rfl⟩)).mono ?_
  rintro e w' ⟨N, rfl, _, _, hb⟩
  have e1 : atv u = 0 := by unfold atv; rw [hc]
  have e2 : atb u = false := by unfold atb; rw [hc]
  rw [e1]
  exact ⟨Or.inr ⟨⟨_, _, rfl⟩, e2⟩, hb⟩
 | range =>
  refine (Tryz.strconv_Atoi_range u (by omega) hc (.iface t' p') w h2 (Or.inr ⟨_, _, rfl⟩)).mono ?_
  rintro e w' ⟨N, rfl, _, _, hb⟩
  have e1 : atv u = Lib.atoiSat u.data.toList := by unfold atv; rw [hc]
  have e2 : atb u = false := by unfold atb; rw [hc]
  rw [e1]
  exact ⟨Or.inr ⟨⟨_, _, rfl⟩, e2⟩, hb⟩
theorem readNumber_any (u : ByteArray) (w : World) (hs : u.size ≤ 1048576) (hN : NumW w) :
  Calls Tryz.prog 84 #[.string u] w fun e w' => ((e = .returned (.int .i64 (atv u)) ∧ atb u = true) ∨ (e = .panicked (failC 2) ∧ atb u = false)) ∧ Below w.heap.size w w' := by
 have K : Hid _ := atoi_any u w hs hN
 clear hN
 generalize atv u = v at K
 generalize atb u = c at K
 go_enter Tryz.func84, Tryz.ntmps84
 go_wp2_with fail
 refine Calls.mono K.out ?_
 rintro e w1 ⟨⟨rfl, rfl⟩ | ⟨⟨t, p, rfl⟩, rfl⟩, hb⟩
 ·go_wp2_with fail
  refine Calls.mono (need_ok 2 w1) ?_
  rintro e w2 ⟨rfl, rfl⟩
  go_wp2
  simp [bodyPost, results, go_sem]
  exact hb
 ·go_wp2_with fail
  refine Calls.mono (need_no 2 w1) ?_
  rintro e w2 ⟨rfl, rfl⟩
  go_wp2
  simp [bodyPost]
  exact hb
theorem sBytes07_any (u : ByteArray) (w : World) (hs : u.size ≤ 1048576) :
  Calls Tryz.prog 55 #[.string u] w fun e w' => e = .returned (.string (hyv u)) ∧ Below w.heap.size w w' := by
 by_cases h : u = ⟨#[45]⟩
 ·subst h
  have e : hyv ⟨#[45]⟩ = ByteArray.empty := if_pos rfl
  rw [e]
  go_enter Tryz.func55, Tryz.ntmps55
  go_wp2
  go_ret
  exact ⟨rfl, Below.refl _ _⟩
 ·have e : hyv u = hbS u := if_neg h
  have hne := ba_ne h
  have e45 : (⟨#[45]⟩ : ByteArray).toList = [45] := by rw [ByteArray.toList_eq]
  have hne' : (u.toList == [45]) = false := by rw [← e45]; exact hne
  have K : Hid _ := sHexBytes_any u w hs
  rw [e]
  generalize hbS u = v at K
  generalize hbF u = c at K
  clear h e
  go_enter Tryz.func55, Tryz.ntmps55
  go_wp2_with fail
  refine Calls.mono K.out ?_
  rintro e w1 ⟨rfl, hb⟩
  go_wp2
  go_ret
  exact ⟨rfl, hb⟩
theorem nmf_snoc (l : List UInt8) (i : Nat) (h : i < l.length) : nmf (l.take (i + 1)) = 10 * nmf (l.take i) + (l[i].toNat - 48) := by
 unfold nmf
 rw [List.take_add_one, List.getElem?_eq_getElem h]
 rw [List.foldl_append]
 rfl
theorem dgB_snoc (l : List UInt8) (i : Nat) (h : i < l.length) : dgB (l.take (i + 1)) = (dgB (l.take i) && (decide (48 ≤ l[i].toNat) && decide (l[i].toNat ≤ 57))) := by
 unfold dgB
 rw [List.take_add_one, List.getElem?_eq_getElem h]
 rw [List.all_append]
 simp
theorem dgB_no (l : List UInt8) (i : Nat) (h : i < l.length) (hx : ¬ (48 ≤ l[i].toNat ∧ l[i].toNat ≤ 57)) : dgB l = false := by
 cases hd : dgB l
 ·rfl
 ·unfold dgB at hd
  rw [List.all_eq_true] at hd
  have := hd l[i] (List.getElem_mem h)
  simp at this
  exact absurd this hx
theorem nmf_lt (l : List UInt8) : ∀ i, i ≤ l.length → dgB (l.take i) = true → nmf (l.take i) < 10 ^ i := by
 intro i
 induction i with
 | zero => intro _ _; simp [nmf]
 | succ i ih =>
  intro hi hd
  rw [dgB_snoc l i (by omega)] at hd
  simp only [Bool.and_eq_true, decide_eq_true_eq] at hd
  have h1 := ih (by omega) hd.1
  rw [nmf_snoc l i (by omega), Nat.pow_succ]
  omega
theorem sNum07_any (u : ByteArray) (w : World) (hs : u.size ≤ 1048576) :
  Calls Tryz.prog 56 #[.string u] w fun e w' => e = .returned (.int .i64 (nmv u)) ∧ Below w.heap.size w w' := by
 have KI : Hid (∀ x a b W, Calls Tryz.prog 60 #[.int .i64 x, .int .i64 a, .int .i64 b] W fun e w' => e = .returned (.bool (inB x a b)) ∧ w' = W) := sIn_any
 obtain ⟨n, HN⟩ : ∃ x, Hid (u.size = x) := ⟨_, rfl⟩
 have hsn : (u.size : Int) = (n : Int) := by rw [HN.out]
 have hlen : u.data.toList.length = n := HN.out
 rw [HN.out] at hs
 go_enter Tryz.func56, Tryz.ntmps56
 go_wp2_with fail
 go_loopw [3, 4] (fun v3 v4 wr => ∃ i : Nat, i ≤ n ∧ v3 = .int .i64 ((nmf (u.data.toList.take i) : Nat) : Int) ∧ v4 = .int .i64 (i : Int) ∧ wr = w ∧ Hid (dgB (u.data.toList.take i) = true ∧ (0 < i → n ≤ 9))) (fun _ v4 _ => n - (intOf v4).toNat)
 case atStart => exact ⟨0, Nat.zero_le _, rfl, rfl, rfl, rfl, fun h => absurd h (Nat.lt_irrefl _)⟩
 case round =>
  obtain ⟨i, hin, rfl, rfl, hw, HR⟩ := hrel
  obtain rfl := hw.symm
  clear hw
  by_cases hlt : i < n
  ·have hki : (i : Int) < (n : Int) := by omega
   have hks : i < u.size := by rw [HN.out]; exact hlt
   have hkl : i < u.data.toList.length := hks
   obtain ⟨x, HX⟩ : ∃ x : Nat, Hid (tat u i = x) := ⟨_, rfl⟩
   have hx8 : x < 256 := by rw [← HX.out]; exact tat_lt u i
   have hget : u[i].toNat = x := by rw [← HX.out]; exact (tat_in u i hks).symm
   have HG : Hid (u.data.toList[i].toNat = x) := by show _ = _; rw [← HX.out]; exact (tat_in u i hks).symm
   have HSn : Hid (nmf (u.data.toList.take (i + 1)) = 10 * nmf (u.data.toList.take i) + (x - 48)) := by show _ = _; rw [nmf_snoc _ i hkl, HG.out]
   have HDg : Hid (48 ≤ x ∧ x ≤ 57 → dgB (u.data.toList.take (i + 1)) = true) := fun hd => by rw [dgB_snoc _ i hkl, HR.out.1, HG.out]; simp [hd]
   have hL := nmf_lt u.data.toList i (by omega) HR.out.1
   have HNo : Hid (¬ (48 ≤ x ∧ x ≤ 57) ∨ 9 < n → nmv u = -1) := fun h => if_pos (by
    rcases h with h | h
    ·exact Or.inr (Or.inr (dgB_no _ i hkl (by rw [HG.out]; exact h)))
    ·exact Or.inr (Or.inl (by rw [HN.out]; exact h)))
   obtain ⟨v, HV⟩ : ∃ z, Hid (nmf (u.data.toList.take i) = z) := ⟨_, rfl⟩
   rw [HV.out] at hL HSn ⊢
   by_cases hx : 48 ≤ x ∧ x ≤ 57
   ·have e1 : inB (x : Int) 48 57 = true := inB_true (by omega)
    by_cases h9 : 9 < n
    ·have h9i : (9 : Int) < (n : Int) := by omega
     have hv := HNo.out (Or.inr h9)
     go_wp2_with (go_at_call 60; refine Calls.mono (KI.out _ _ _ _) ?_; rintro e w' ⟨rfl, hw⟩; obtain rfl := hw.symm; clear hw)
     go_ret
     exact ⟨by rw [hv]; rfl, Below.refl _ _⟩
    ·have h9i : ¬ (9 : Int) < (n : Int) := by omega
     have hp : (10 : Nat) ^ i ≤ 10 ^ 9 := Nat.pow_le_pow_right (by omega) (by omega)
     have hp9 : (10 : Nat) ^ 9 = 1000000000 := by decide
     have hv9 : v < 1000000000 := by omega
     have k1 : IntKind.i64.wrap (10 * (v : Int)) = 10 * (v : Int) := by rw [IntKind.wrap_i64]; omega
     have k2 : IntKind.i64.wrap (10 * (v : Int) + (x : Int)) = 10 * (v : Int) + (x : Int) := by rw [IntKind.wrap_i64]; omega
     have k3 : IntKind.i64.wrap (10 * (v : Int) + (x : Int) - 48) = 10 * (v : Int) + (x : Int) - 48 := by rw [IntKind.wrap_i64]; omega
     have HR1 : Hid (dgB (u.data.toList.take (i + 1)) = true ∧ (0 < i + 1 → n ≤ 9)) := ⟨HDg.out hx, fun _ => by omega⟩
     clear hL hp hp9 HNo
     go_wp2_with (go_at_call 60; refine Calls.mono (KI.out _ _ _ _) ?_; rintro e w' ⟨rfl, hw⟩; obtain rfl := hw.symm; clear hw)
     go_roundw
     case rel => exact ⟨i + 1, by omega, by rw [HSn.out]; congr 1; omega, by go_num, trivial, HR1.out⟩
     case measure => simp [intOf]; omega
   ·have e1 : inB (x : Int) 48 57 = false := inB_false (by omega)
    have hv := HNo.out (Or.inl hx)
    go_wp2_with (go_at_call 60; refine Calls.mono (KI.out _ _ _ _) ?_; rintro e w' ⟨rfl, hw⟩; obtain rfl := hw.symm; clear hw)
    go_ret
    exact ⟨by rw [hv]; rfl, Below.refl _ _⟩
  ·obtain rfl : i = n := by omega
   have hnn : ¬ (i : Int) < (i : Int) := by omega
   have ht : u.data.toList.take i = u.data.toList := List.take_of_length_le (by omega)
   have hd := HR.out.1
   rw [ht] at hd ⊢
   have hL := nmf_lt u.data.toList i (by omega) HR.out.1
   rw [ht] at hL
   by_cases h0 : i = 0
   ·have hv : nmv u = -1 := if_pos (Or.inl (by rw [HN.out]; exact h0))
    have hue : u.toList.isEmpty = true := by
     rw [ByteArray.toList_eq]
     have : u.data.toList = [] := List.length_eq_zero_iff.1 (by omega)
     rw [this]; rfl
    subst h0
    obtain rfl : u = ⟨#[]⟩ := by
     apply ByteArray.ext
     exact Array.eq_empty_of_size_eq_zero HN.out
    clear HR hd hL ht hlen
    go_wp2_with fail
    go_ret
    refine ⟨?_, Below.refl _ _⟩
    first | rfl | (rw [hv]; rfl) | simp [hv]
   ·have h9 : i ≤ 9 := HR.out.2 (by omega)
    have hp : (10 : Nat) ^ i ≤ 10 ^ 9 := Nat.pow_le_pow_right (by omega) h9
    have hp9 : (10 : Nat) ^ 9 = 1000000000 := by decide
    have hne : u ≠ ⟨#[]⟩ := fun e => h0 (by rw [← HN.out, e]; rfl)
    have hne' : u.toList.isEmpty = false := by
     rw [ByteArray.toList_eq]
     cases hq : u.data.toList with
     | nil => exact absurd (by rw [← hlen, hq]; rfl) h0
     | cons _ _ => rfl
    obtain ⟨v, HV⟩ : ∃ z, Hid (nmf u.data.toList = z) := ⟨_, rfl⟩
    have hnv : nmv u = if its (v : Int) = u then (v : Int) else -1 := by
     unfold nmv
     rw [if_neg (by rw [HN.out, hd]; rintro (h | h | h) <;> first | omega | cases h), HV.out]
    have KDe : Hid (Calls Tryz.prog 58 #[.int .i64 (v : Int)] w fun e w' => e = .returned (.string (its (v : Int))) ∧ Below w.heap.size w w') := (sDecI_any (v : Int) w (by omega) (by rw [HV.out] at hL; omega)).mono fun e w' ⟨he, hw⟩ => ⟨he, hw ▸ Below.refl _ _⟩
    rw [HV.out]
    generalize its (v : Int) = z at KDe hnv
    clear hne HR hd hL hp hp9 hlen
    by_cases hz : z = u
    ·subst hz
     rw [if_pos rfl] at hnv
     go_wp2_with (go_at_call 58; refine Calls.mono KDe.out ?_; rintro e w1 ⟨rfl, hb⟩)
     go_ret
     exact ⟨by rw [hnv]; rfl, hb⟩
    ·have hz1 := ba_ne hz
     rw [if_neg hz] at hnv
     go_wp2_with (go_at_call 58; refine Calls.mono KDe.out ?_; rintro e w1 ⟨rfl, hb⟩)
     go_ret
     exact ⟨by rw [hnv]; rfl, hb⟩
def WdR (s : ByteArray) (c p i : Nat) : Prop := p ≤ i ∧ i ≤ s.size ∧ c ≤ wn s ∧ (wd [] s.data.toList).drop c = wd ((s.data.toList.take i).drop p) (s.data.toList.drop i)
theorem wds_at {s : ByteArray} {c : Nat} {x : List UInt8} {r : List (List UInt8)} (h : (wd [] s.data.toList).drop c = x :: r) : wq s c = ⟨x.toArray⟩ ∧ (wd [] s.data.toList).drop (c + 1) = r ∧ wn s = c + 1 + r.length := by
 have h1 : (wd [] s.data.toList)[c]? = some x := by
  have := congrArg (fun l => l[0]?) h
  simpa using this
 refine ⟨?_, ?_, ?_⟩
 ·unfold wq wds
  rw [List.getD_eq_getElem?_getD, List.getElem?_map, h1]
  rfl
 ·have := congrArg List.tail h
  simpa [List.tail_drop] using this
 ·have := congrArg List.length h
  unfold wn wds
  simp at this ⊢
  omega
theorem ext_list (s : ByteArray) (p i : Nat) : s.extract p i = ⟨((s.data.toList.take i).drop p).toArray⟩ := by
 apply ByteArray.ext
 apply Array.ext'
 simp [List.drop_take]
theorem WdR.start (s : ByteArray) : WdR s 0 0 0 := ⟨Nat.le_refl _, Nat.zero_le _, Nat.zero_le _, by simp⟩
theorem WdR.blank {s : ByteArray} {c p i : Nat} (h : WdR s c p i) (hi : i < s.size) (hb : s.data.toList.getD i 0 = 32) : WdR s (c + 1) (i + 1) (i + 1) ∧ wq s c = s.extract p i ∧ c < wn s := by
 obtain ⟨h1, h2, h3, h4⟩ := h
 have hl : i < s.data.toList.length := hi
 have e : s.data.toList.drop i = 32 :: s.data.toList.drop (i + 1) := by
  rw [List.drop_eq_getElem_cons hl]
  rw [List.getD_eq_getElem?_getD, List.getElem?_eq_getElem hl] at hb
  simp at hb ⊢
  exact hb
 rw [e] at h4
 have e2 : wd ((s.data.toList.take i).drop p) (32 :: s.data.toList.drop (i + 1)) = (s.data.toList.take i).drop p :: wd [] (s.data.toList.drop (i + 1)) := by
  show (if (32 : UInt8) = 32 then _ else _) = _
  rw [if_pos rfl]
 rw [e2] at h4
 obtain ⟨a1, a2, a3⟩ := wds_at h4
 refine ⟨⟨Nat.le_refl _, by omega, by omega, ?_⟩, by rw [a1, ext_list], by omega⟩
 have e3 : (s.data.toList.take (i + 1)).drop (i + 1) = [] := List.drop_eq_nil_of_le (by rw [List.length_take]; omega)
 rw [a2, e3]
theorem WdR.other {s : ByteArray} {c p i : Nat} (h : WdR s c p i) (hi : i < s.size) (hb : s.data.toList.getD i 0 ≠ 32) : WdR s c p (i + 1) := by
 obtain ⟨h1, h2, h3, h4⟩ := h
 have hl : i < s.data.toList.length := hi
 have e : s.data.toList.drop i = s.data.toList[i] :: s.data.toList.drop (i + 1) := List.drop_eq_getElem_cons hl
 have hb' : ¬ s.data.toList[i] = 32 := by
  rw [List.getD_eq_getElem?_getD, List.getElem?_eq_getElem hl] at hb
  exact hb
 rw [e] at h4
 refine ⟨by omega, by omega, h3, h4.trans ?_⟩
 show (if s.data.toList[i] = 32 then _ else _) = _
 rw [if_neg hb', List.take_add_one, List.getElem?_eq_getElem hl, List.drop_append_of_le_length (by rw [List.length_take]; omega)]
 rfl
theorem WdR.done {s : ByteArray} {c p : Nat} (h : WdR s c p s.size) : wn s = c + 1 ∧ wq s c = s.extract p s.size := by
 obtain ⟨h1, h2, h3, h4⟩ := h
 have e : s.data.toList.drop s.size = [] := List.drop_eq_nil_of_le (Nat.le_refl _)
 rw [e] at h4
 obtain ⟨a1, a2, a3⟩ := wds_at (r := []) h4
 exact ⟨by simpa using a3, by rw [a1, ext_list]⟩
end Go.Proofs.YtihklfkhjpnjkaaGreatDoor
