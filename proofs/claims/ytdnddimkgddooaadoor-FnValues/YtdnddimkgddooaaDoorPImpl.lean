/- The program's functions over polynomials as they are called: what each answers at any lists of at most 2^20 numbers, in memory of its own; nothing that was there turns. -/
import Derived.Test.YtdnddimkgddooaaDoorPRoot
namespace Go.Proofs.YtdnddimkgddooaaDoor
open Go.ChangeShapes Go.WideShapes Go.ChangeAt Go.RowKit

def addP (xs ys : List Int) : List Int × Bool :=
  if okB xs = true ∧ okB ys = true then (eI (Gp.ad (coP xs) (coP ys)) (Gp.tl (Gp.ad (coP xs) (coP ys)) (max xs.length ys.length)), true) else ([], false)
def mulP (xs ys : List Int) : List Int × Bool :=
  if okB xs = true ∧ okB ys = true ∧ Gp.tl (Gp.cv (coP xs) (coP ys) xs.length) (xs.length + ys.length) ≤ 40 then (eI (Gp.cv (coP xs) (coP ys) xs.length) (Gp.tl (Gp.cv (coP xs) (coP ys) xs.length) (xs.length + ys.length)), true) else ([], false)
def divQ (xs ys : List Int) : Nat → Nat := Gp.dq (coP xs) (coP ys) (Gf.inv (coP ys (ys.length - 1))) ys.length (xs.length - ys.length + 1) (xs.length - ys.length + 1)
def divR (xs ys : List Int) : Nat → Nat := Gp.dr (coP xs) (coP ys) (Gf.inv (coP ys (ys.length - 1))) ys.length (xs.length - ys.length + 1) (xs.length - ys.length + 1)
def divP (xs ys : List Int) : List Int × List Int × Bool :=
  if okB xs = true ∧ okB ys = true ∧ 0 < ys.length then
    if ys.length ≤ xs.length then (eI (divQ xs ys) (Gp.tl (divQ xs ys) (xs.length - ys.length + 1)), eI (divR xs ys) (Gp.tl (divR xs ys) xs.length), true)
    else ([], eI (coP xs) (Gp.tl (coP xs) xs.length), true)
  else ([], [], false)
def atP (xs : List Int) (x : Int) : Int := if okB xs = true ∧ isB x = true then ((Gp.ev (coP xs) x.toNat xs.length : Nat) : Int) else -1

set_option maxHeartbeats 400000 in
theorem readTwo_yes (a b : Option Addr) (n m ca cb : Nat) (xs ys : List Int) (w : World) (ha : IntsAt w a n xs) (hb : IntsAt w b m ys) (hx : okB xs = true) (hy : okB ys = true) :
    Calls Tryd.prog 38 #[.slice a n ca, .slice b m cb] w fun e w' => ∃ g1 g2, e = .returned (.tuple #[.slice (some ⟨g1, 0, none⟩) n n, .slice (some ⟨g2, 0, none⟩) m m, .bool true]) ∧ Els w' (some ⟨g1, 0, none⟩) n n (coP xs) ∧ Els w' (some ⟨g2, 0, none⟩) m m (coP ys) ∧ Below w.heap.size w w' := by
  go_enter Tryd.func38, Tryd.ntmps38
  go_wp2_with fail
  refine (readP_yes a n ca xs _ ha hx).mono ?_
  rintro e w1 ⟨rfl, o1, b1⟩
  have hb' := hb.below b1
  have e1 := OwnU.els o1
  clear o1 ha hb
  go_wp2_with fail
  refine (readP_yes b m cb ys _ hb' hy).mono ?_
  rintro e w2 ⟨rfl, o2, b2⟩
  have H : Hid _ := And.intro (e1.below b2) (And.intro (OwnU.els o2) (below2 b1 b2))
  clear o2 e1 hb' b1 b2
  go_wp2
  go_ret3
  exact ⟨_, _, rfl, H.out⟩
set_option maxHeartbeats 400000 in
theorem readTwo_no (a b : Option Addr) (n m ca cb : Nat) (xs ys : List Int) (w : World) (ha : IntsAt w a n xs) (hb : IntsAt w b m ys) (hn : n ≤ 1048576) (hm : m ≤ 1048576) (h : ¬ (okB xs = true ∧ okB ys = true)) :
    Calls Tryd.prog 38 #[.slice a n ca, .slice b m cb] w fun e w' => ∃ v1 v2, e = .returned (.tuple #[v1, v2, .bool false]) ∧ Below w.heap.size w w' := by
  by_cases hx : okB xs = true
  · have hy : okB ys = false := by simpa [hx] using h
    go_enter Tryd.func38, Tryd.ntmps38
    go_wp2_with fail
    refine (readP_yes a n ca xs _ ha hx).mono ?_
    rintro e w1 ⟨rfl, o1, b1⟩
    have hb' := hb.below b1
    clear o1 ha hb h
    go_wp2_with fail
    refine (readP_no b m cb ys _ hb' hm hy).mono ?_
    rintro e w2 ⟨rfl, b2⟩
    have H : Hid _ := (below2 b1 b2)
    clear hb' b1 b2
    go_wp2
    go_ret3
    exact ⟨_, _, rfl, H.out⟩
  · have hx' : okB xs = false := by simpa using hx
    by_cases hy : okB ys = true
    · go_enter Tryd.func38, Tryd.ntmps38
      go_wp2_with fail
      refine (readP_no a n ca xs _ ha hn hx').mono ?_
      rintro e w1 ⟨rfl, b1⟩
      have hb' := hb.below b1
      clear ha hb h
      go_wp2_with fail
      refine (readP_yes b m cb ys _ hb' hy).mono ?_
      rintro e w2 ⟨rfl, o2, b2⟩
      have H : Hid _ := (below2 b1 b2)
      clear o2 hb' b1 b2
      go_wp2
      go_ret3
      exact ⟨_, _, rfl, H.out⟩
    · have hy' : okB ys = false := by simpa using hy
      go_enter Tryd.func38, Tryd.ntmps38
      go_wp2_with fail
      refine (readP_no a n ca xs _ ha hn hx').mono ?_
      rintro e w1 ⟨rfl, b1⟩
      have hb' := hb.below b1
      clear ha hb h
      go_wp2_with fail
      refine (readP_no b m cb ys _ hb' hm hy').mono ?_
      rintro e w2 ⟨rfl, b2⟩
      have H : Hid _ := (below2 b1 b2)
      clear hb' b1 b2
      go_wp2
      go_ret3
      exact ⟨_, _, rfl, H.out⟩

set_option maxHeartbeats 400000 in
theorem ok_any (a : Option Addr) (n ca : Nat) (xs : List Int) (w : World) (ha : IntsAt w a n xs) (hn : n ≤ 1048576) :
    Calls Tryd.prog 21 #[.slice a n ca] w fun e w' => e = .returned (.bool (okB xs)) ∧ Below w.heap.size w w' := by
  by_cases hx : okB xs = true
  · go_enter Tryd.func21, Tryd.ntmps21
    go_wp2_with fail
    refine (readP_yes a n ca xs _ ha hx).mono ?_
    rintro e w1 ⟨rfl, o1, b1⟩
    clear o1 ha
    go_wp2
    go_ret
    exact ⟨ret_bool hx.symm, b1⟩
  · have hx' : okB xs = false := by simpa using hx
    go_enter Tryd.func21, Tryd.ntmps21
    go_wp2_with fail
    refine (readP_no a n ca xs _ ha hn hx').mono ?_
    rintro e w1 ⟨rfl, b1⟩
    clear ha
    go_wp2
    go_ret
    exact ⟨ret_bool hx'.symm, b1⟩

set_option maxHeartbeats 400000 in
theorem polyAt_any (a : Option Addr) (n ca : Nat) (xs : List Int) (x : Int) (w : World) (ha : IntsAt w a n xs) (hn : n ≤ 1048576) :
    Calls Tryd.prog 9 #[.slice a n ca, .int .i64 x] w fun e w' => e = .returned (.int .i64 (atP xs x)) ∧ Below w.heap.size w w' := by
  by_cases hx : okB xs = true
  · by_cases hb : isB x = true
    · obtain ⟨X, hX, rfl⟩ := isB_nat hb
      have hl := ha.1
      have hp := (okB_parts hx).2.2.1
      have hev := Gp.hn_lt hp.1 X n 0
      go_enter Tryd.func9, Tryd.ntmps9
      go_wp2_with fail
      refine (readP_yes a n ca xs _ ha hx).mono ?_
      rintro e w1 ⟨rfl, o1, b1⟩
      have e1 := OwnU.els o1
      clear o1 ha
      go_wp2_with fail
      refine (isByte_any _ _).mono ?_
      rintro e w2 ⟨rfl, hw⟩
      obtain rfl := hw.symm
      go_wp2_with fail
      refine (at_any _ n n (coP xs) X _ e1 hn hp.1 hX).mono ?_
      rintro e w3 ⟨rfl, b3⟩
      have HE : Hid (Gp.ev (coP xs) X n < 256) := hev
      have H : Hid _ := below2 b1 b3
      have HR : Hid (atP xs (X : Int) = ((Gp.ev (coP xs) X n : Nat) : Int)) := by
        show _ = _
        unfold atP
        rw [if_pos ⟨hx, hb⟩, hl]
        rfl
      clear e1 b1 b3 hev hp hl
      have hE := HE.out
      generalize Gp.ev (coP xs) X n = V at *
      go_wp2
      go_ret
      exact ⟨ret_int HR.out.symm, H.out⟩
    · have hb' : isB x = false := by simpa using hb
      have HR : Hid (atP xs x = -1) := by
        show _ = _
        unfold atP
        rw [if_neg (fun h => hb h.2)]
      go_enter Tryd.func9, Tryd.ntmps9
      go_wp2_with fail
      refine (readP_yes a n ca xs _ ha hx).mono ?_
      rintro e w1 ⟨rfl, o1, b1⟩
      clear o1 ha
      go_wp2_with fail
      refine (isByte_any _ _).mono ?_
      rintro e w2 ⟨rfl, hw⟩
      obtain rfl := hw.symm
      go_wp2
      go_ret
      exact ⟨ret_int HR.out.symm, b1⟩
  · have hx' : okB xs = false := by simpa using hx
    have HR : Hid (atP xs x = -1) := by
      show _ = _
      unfold atP
      rw [if_neg (fun h => hx h.1)]
    go_enter Tryd.func9, Tryd.ntmps9
    go_wp2_with fail
    refine (readP_no a n ca xs _ ha hn hx').mono ?_
    rintro e w1 ⟨rfl, b1⟩
    clear ha
    go_wp2
    go_ret
    exact ⟨ret_int HR.out.symm, b1⟩
end Go.Proofs.YtdnddimkgddooaaDoor
