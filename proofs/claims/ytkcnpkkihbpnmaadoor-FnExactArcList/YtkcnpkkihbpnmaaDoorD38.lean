/- The list of an archive (ArcList), in the program and in the model. Conditions: texts and lists of at most 2^20; the library's table of powers of ten stands as its text lays it. -/
import Derived.Test.YtkcnpkkihbpnmaaDoorD9
import Derived.Test.YtkcnpkkihbpnmaaDoorD37
import Derived.Test.YtkcnpkkihbpnmaaDoorD7
import Derived.Test.YtkcnpkkihbpnmaaDoorD13
import Derived.Deep.CutRange
namespace Go.Proofs.YtkcnpkkihbpnmaaDoor
set_option maxRecDepth 2000
open Go.ChangeShapes Go.WideShapes Go.ChangeAt Go.RowKit

/-- The line of an entry. -/
def lnE (d : En) : ByteArray := d.nm ++ ⟨#[32]⟩ ++ its d.sz ++ ⟨#[32]⟩ ++ hexT d.rt ++ ⟨#[10]⟩
def alS (E : Nat → En) : Nat → ByteArray
  | 0 => ByteArray.empty
  | k + 1 => alS E k ++ lnE (E k)
/-- What the machine can bear of an entry. -/
structure EnL (d : En) : Prop where
  n : d.nm.size ≤ 1048576
  r : d.rt.size ≤ 1048576
  z : -9223372036854775808 ≤ d.sz ∧ d.sz ≤ 9223372036854775807
theorem tot_mono2 (L : Nat → Nat) {i n : Nat} (h : i ≤ n) : tot L i ≤ tot L n := by
  induction n with
  | zero =>
    have e : i = 0 := by omega
    rw [e]
    exact Nat.le_refl _
  | succ n ih =>
    by_cases e : i = n + 1
    · rw [e]
      exact Nat.le_refl _
    · have h1 := ih (by omega)
      have h2 : tot L (n + 1) = tot L n + L n := rfl
      omega
theorem hexT_len (s : ByteArray) : (hexT s).size = 2 * s.size := by unfold hexT; rw [strOfNums_size, hxL_len]
theorem lnE_size {d : En} (h : EnL d) : (lnE d).size ≤ 2 * wtE d + 24 := by
  have h1 := (its_size d.sz h.z.1 h.z.2).1
  have h2 := hexT_len d.rt
  have sp : (⟨#[32]⟩ : ByteArray).size = 1 := rfl
  have nl : (⟨#[10]⟩ : ByteArray).size = 1 := rfl
  unfold lnE wtE
  simp only [ByteArray.size_append, sp, nl]
  omega
theorem alS_size {E : Nat → En} {n : Nat} (h : ∀ i, i < n → EnL (E i)) : ∀ k, k ≤ n → (alS E k).size ≤ 2 * tot (fun i => wtE (E i)) k + 24 * k := by
  intro k
  induction k with
  | zero => intro _; exact Nat.zero_le _
  | succ k ih =>
    intro hk
    have h1 := ih (by omega)
    have h2 := lnE_size (h k (by omega))
    have h3 : tot (fun i => wtE (E i)) (k + 1) = tot (fun i => wtE (E i)) k + wtE (E k) := rfl
    show (alS E k ++ lnE (E k)).size ≤ _
    rw [ByteArray.size_append, h3]
    omega
theorem ba_assoc (a b c : ByteArray) : a ++ b ++ c = a ++ (b ++ c) := by
  apply ByteArray.ext
  simp [Array.append_assoc]
theorem alS_out (o nm D X : ByteArray) : o ++ nm ++ ⟨#[32]⟩ ++ D ++ ⟨#[32]⟩ ++ X ++ ⟨#[10]⟩ = o ++ (nm ++ ⟨#[32]⟩ ++ D ++ ⟨#[32]⟩ ++ X ++ ⟨#[10]⟩) := by
  simp only [ba_assoc]
theorem row_of_heap {w w' : World} {g : Nat} {t : TypeId} {cs : Array Value} (h : Row w g t cs) (e : w'.heap[g]? = w.heap[g]?) : Row w' g t cs := e.trans h
set_option maxHeartbeats 4000000 in
theorem arcList_any (f : Int) (v1 v2 v3 v5 : Value) (x : Option Addr) (ne cx : Nat) (E : Nat → En) (w : World) (h : Rd w (ensD ne E) (.slice x ne cx)) (hE : ∀ i, i < ne → EnL (E i)) (hT : tot (fun i => wtE (E i)) ne + ne ≤ 1048576) (htab : TabOk w) :
    Calls Tryd.prog 7 #[arV f v1 v2 v3 (.slice x ne cx) v5] w fun e w' => e = .returned (.string (alS E ne)) ∧ Below w.heap.size w w' := by
  obtain ⟨A, HA⟩ : ∃ z, Hid (z = w.heap.size) := ⟨_, rfl⟩
  obtain ⟨w0, HW0⟩ : ∃ z, Hid (z = w.alloc (.cells #[.int .i64 f, v1, v2, v3, .slice x ne cx, v5] 40)) := ⟨_, rfl⟩
  have hb0 : Below w.heap.size w w0 := by rw [HW0.out]; exact (Below.refl _ _).alloc (Nat.le_refl _) _
  have KB0 : Hid (Below w.heap.size w w0) := hb0
  obtain ⟨Bb, HBb⟩ : ∃ z, Hid (z = A + 1) := ⟨_, rfl⟩
  have HBw : Hid (Bb = w0.heap.size) := by show _ = _; rw [HBb.out, HA.out, HW0.out]; simp
  obtain ⟨w1, HW1⟩ : ∃ z, Hid (z = w0.alloc (.cells #[.pointer none, .slice none 0 0] 57)) := ⟨_, rfl⟩
  have KI0 : Hid (BdX Bb w1.heap.size (alS E 0) w1 ∧ Below w0.heap.size w0 w1) := by
    have h1 := BdX.fresh w0
    rw [← HW1.out, ← HBw.out] at h1
    refine ⟨h1.mono (by rw [HW1.out, HBw.out]; simp), ?_⟩
    rw [HW1.out]
    exact (Below.refl _ _).alloc (Nat.le_refl _) _
  have KH : Hid (Rd w0 (ensD ne E) (.slice x ne cx)) := h.below hb0
  have KT : Hid (TabOk w0) := htab.below hb0
  have KE : Hid (∀ i, i < ne → EnL (E i)) := hE
  have KZ : Hid (∀ k, k ≤ ne → (alS E k).size ≤ 30000000) := fun k hk => by
    have h1 := alS_size hE k hk
    have h2 : tot (fun i => wtE (E i)) k ≤ tot (fun i => wtE (E i)) ne := tot_mono2 _ hk
    show _ ≤ _
    omega
  have hne : ne ≤ 1048576 := by omega
  clear h hE hT htab hb0
  go_enter Tryd.func7, Tryd.ntmps7
  go_wp2_with fail
  rw [← HW0.out, ← HA.out, ← HW1.out, ← HBb.out]
  go_loopw [9] (fun vi wr => ∃ k : Nat, k ≤ ne ∧ vi = .int .i64 (k : Int) ∧ Hid (BdX Bb wr.heap.size (alS E k) wr ∧ Below w0.heap.size w0 wr)) (fun vi _ => ne - (intOf vi).toNat)
  case atStart => exact ⟨0, Nat.zero_le _, rfl, KI0⟩
  case round =>
    obtain ⟨k, hk, rfl, HJ⟩ := hrel
    clear KI0
    by_cases hlt : k < ne
    · have hki : (k : Int) < (ne : Int) := by omega
      obtain ⟨b1, f1, rfl, _, R1'⟩ := entry_at (KH.out.below HJ.out.2) hlt
      obtain ⟨hnn, hrr, hss⟩ := KE.out k hlt
      obtain ⟨⟨nm, rt, sz⟩, HE⟩ : ∃ z, Hid (E k = z) := ⟨_, rfl⟩
      rw [HE.out] at R1' hnn hrr hss
      replace hnn : nm.size ≤ 1048576 := hnn
      replace hrr : rt.size ≤ 1048576 := hrr
      replace hss : -9223372036854775808 ≤ sz ∧ sz ≤ 9223372036854775807 := hss
      have R1 : Hid (wr.rangeAt b1 (f1 + k * 3) [.string nm, .string rt, .int .i64 sz]) := R1'
      obtain ⟨P, HP⟩ : ∃ z, Hid (z = wr.heap.size) := ⟨_, rfl⟩
      obtain ⟨w2, HW2⟩ : ∃ z, Hid (z = wr.alloc (.cells #[.string nm, .string rt, .int .i64 sz] 48)) := ⟨_, rfl⟩
      have RP : Hid (Row w2 P 48 #[.string nm, .string rt, .int .i64 sz]) := by show Row _ _ _ _; rw [HW2.out, HP.out]; exact Row.new wr _ _
      have hb2 : Below wr.heap.size wr w2 := by rw [HW2.out]; exact (Below.refl _ _).alloc (Nat.le_refl _) _
      obtain ⟨o, HO⟩ : ∃ z, Hid (alS E k = z) := ⟨_, rfl⟩
      obtain ⟨D, HD⟩ : ∃ z, Hid (its sz = z) := ⟨_, rfl⟩
      obtain ⟨X, HX⟩ : ∃ z, Hid (hexT rt = z) := ⟨_, rfl⟩
      obtain ⟨L, HL⟩ : ∃ z : ByteArray, Hid (nm ++ ⟨#[32]⟩ ++ D ++ ⟨#[32]⟩ ++ X ++ ⟨#[10]⟩ = z) := ⟨_, rfl⟩
      have zo : o.size ≤ 30000000 := by rw [← HO.out]; exact KZ.out k hk
      have zD : D.size ≤ 21 := by rw [← HD.out]; exact (its_size sz hss.1 hss.2).1
      have zX : X.size ≤ 2097152 := by rw [← HX.out, hexT_len]; omega
      have hLn : Hid (alS E (k + 1) = o ++ L) := by
        show alS E k ++ lnE (E k) = _
        rw [HO.out, HE.out, ← HL.out, ← HD.out, ← HX.out]
        rfl
      have sp : (⟨#[32]⟩ : ByteArray).size = 1 := rfl
      have nl : (⟨#[10]⟩ : ByteArray).size = 1 := rfl
      have zL : L.size ≤ 4000000 := by rw [← HL.out]; simp only [ByteArray.size_append, sp, nl]; omega
      have KD : Hid (∀ W, Below w2.heap.size w2 W → Calls Tryd.prog 18 #[.int .i64 sz] W fun e w' => e = .returned (.string D) ∧ Below w2.heap.size w2 w') := fun W hW => by
        rw [← HD.out]
        exact (Tryd.strconv_Itoa sz hss.1 hss.2 W (((KT.out.below HJ.out.2).below hb2).below hW)).mono fun e w' ⟨he, q, os, hw⟩ => ⟨he, hW.trans (by rw [hw]; exact (below_growD W _ _).mono hW.size)⟩
      have KX : Hid (∀ W, Below w2.heap.size w2 W → Calls Tryd.prog 19 #[.string rt] W fun e w' => e = .returned (.string X) ∧ Below w2.heap.size w2 w') := fun W hW => by
        rw [← HX.out]
        exact (hexText_any rt W hrr).mono fun e w' ⟨he, hb⟩ => ⟨he, below2 hW hb⟩
      have KWs : Hid (∀ W, Below w2.heap.size w2 W → Calls Tryd.prog 17 #[.pointer (some ⟨Bb, 0, none⟩), .string L] W fun e w' => (∃ r, e = .returned r) ∧ Hid (BdX Bb w'.heap.size (alS E (k + 1)) w' ∧ Below w0.heap.size w0 w') ∧ Row w' P 48 #[.string nm, .string rt, .int .i64 sz]) := fun W hW => by
        have hwr : Below wr.heap.size wr W := below2 hb2 hW
        have hB := HJ.out.1.below hwr
        rw [HO.out] at hB
        refine (bWrite_any Bb wr.heap.size o L W hB hwr.size (by omega)).mono ?_
        rintro e w' ⟨hr, h1, h2, h3⟩
        refine ⟨hr, ⟨by rw [hLn.out]; exact h1, (below2 HJ.out.2 hwr).trans (by rw [← HBw.out]; exact h2)⟩, ?_⟩
        have rP := RP.out.below hW RP.out.lt
        exact row_of_heap rP (h3 P (by rw [HP.out]; exact Nat.le_refl _) rP.lt)
      obtain ⟨a0, e0⟩ : ∃ z, nm.size = z := ⟨_, rfl⟩
      obtain ⟨a1, e1⟩ : ∃ z, D.size = z := ⟨_, rfl⟩
      obtain ⟨a2, e2⟩ : ∃ z, X.size = z := ⟨_, rfl⟩
      have y0 : a0 ≤ 1048576 := by omega
      have y1 : a1 ≤ 21 := by omega
      have y2 : a2 ≤ 2097152 := by omega
      have t0 : (nm ++ ⟨#[32]⟩ : ByteArray).size = a0 + 1 := by simp only [ByteArray.size_append, sp]; omega
      have c1 : (9223372036854775807 < a0 + 1) = False := by simp; omega
      have t2 : (nm ++ ⟨#[32]⟩ ++ D : ByteArray).size = a0 + 1 + a1 := by simp only [ByteArray.size_append, sp]; omega
      have c3 : (9223372036854775807 < a0 + 1 + a1) = False := by simp; omega
      have t4 : (nm ++ ⟨#[32]⟩ ++ D ++ ⟨#[32]⟩ : ByteArray).size = a0 + 1 + a1 + 1 := by simp only [ByteArray.size_append, sp]; omega
      have c5 : (9223372036854775807 < a0 + 1 + a1 + 1) = False := by simp; omega
      have t6 : (nm ++ ⟨#[32]⟩ ++ D ++ ⟨#[32]⟩ ++ X : ByteArray).size = a0 + 1 + a1 + 1 + a2 := by simp only [ByteArray.size_append, sp]; omega
      have c7 : (9223372036854775807 < a0 + 1 + a1 + 1 + a2) = False := by simp; omega
      have t8 : (nm ++ ⟨#[32]⟩ ++ D ++ ⟨#[32]⟩ ++ X ++ ⟨#[10]⟩ : ByteArray).size = a0 + 1 + a1 + 1 + a2 + 1 := by simp only [ByteArray.size_append, sp, nl]; omega
      have c9 : (9223372036854775807 < a0 + 1 + a1 + 1 + a2 + 1) = False := by simp; omega
      have hL := HL.out
      have q0 := RP.out.cell 0
      have q1 := RP.out.cell 1
      have q2 := RP.out.cell 2
      simp at q0 q1 q2
      have KS : Hid (∀ W, Below w2.heap.size w2 W → W.cell? ⟨P, 0, none⟩ = some (.string nm) ∧ W.cell? ⟨P, 1, none⟩ = some (.string rt) ∧ W.cell? ⟨P, 2, none⟩ = some (.int .i64 sz)) := fun W hW => ⟨(hW.cell (p := ⟨P, 0, none⟩) RP.out.lt).trans q0, (hW.cell (p := ⟨P, 1, none⟩) RP.out.lt).trans q1, (hW.cell (p := ⟨P, 2, none⟩) RP.out.lt).trans q2⟩
      have hz : Below w2.heap.size w2 w2.drew := ⟨rfl, rfl, rfl, Nat.le_refl _, fun _ _ => rfl⟩
      clear R1' hb2 zo zD zX zL hnn hrr hss HJ
      go_upto_region 5 with (refine wpList_load_mid (by rfl) 48 _ (by rfl) b1 (f1 + k * 3) (by rfl) [.string nm, .string rt, .int .i64 sz] _ ?_ Tryd.underlying48 (by rfl) Tryd.infoEn ?_; exact R1.out)
      rw [← HW2.out, ← HP.out]
      go_region_held3 (fun w' => w'.cell? ⟨P, 0, none⟩ = some (.string nm) ∧ w'.cell? ⟨P, 1, none⟩ = some (.string rt) ∧ w'.cell? ⟨P, 2, none⟩ = some (.int .i64 sz)) (first | exact ⟨q0, q1, q2⟩ | exact KS.out _ (by with_reducible assumption) | exact ⟨j0, j1, j2⟩) ((first | (go_at_call 18; refine Calls.mono (KD.out _ (by assumption)) ?_; rintro e w' ⟨rfl, hz⟩) | (go_at_call 19; refine Calls.mono (KX.out _ (by assumption)) ?_; rintro e w' ⟨rfl, hz⟩) | (go_at_call 17; (try rw [hL]); refine Calls.mono (KWs.out _ (by assumption)) ?_; rintro e w' ⟨⟨rr, rfl⟩, HJ9, rp9⟩; have j0 := rp9.cell 0; have j1 := rp9.cell 1; have j2 := rp9.cell 2; simp at j0 j1 j2)))
      all_goals
        clear q0 q1 q2 c1 c3 c5 c7 c9 t0 t2 t4 t6 t8
        go_wp2_with fail
        go_roundw
        case rel => exact ⟨k + 1, by omega, by go_num, HJ9⟩
        case measure => simp [intOf]; omega
    · obtain rfl : k = ne := by omega
      have K9 : Hid (Calls Tryd.prog 20 #[.pointer (some ⟨Bb, 0, none⟩)] wr fun e w' => e = .returned (.string (alS E k)) ∧ Below w.heap.size w w') := by
        have h1 := HJ.out.1.is
        rw [Lib.strCells_eq] at h1
        refine (Tryd.Builder_String_any Bb Bb _ wr h1 (by have := HJ.out.2.size; rw [HBw.out]; exact this)).mono ?_
        rintro e w' ⟨rfl, hb⟩
        refine ⟨by simp, (below2 KB0.out HJ.out.2).trans (hb.mono ?_)⟩
        rw [HBw.out]
        exact KB0.out.size
      clear KH KE KZ HJ
      go_wp2_with fail
      refine Calls.mono K9.out ?_
      rintro e w' ⟨rfl, b9⟩
      have KF : Hid (Below w.heap.size w w') := b9
      clear b9
      go_wp2
      go_ret
      exact ⟨rfl, KF.out⟩
end Go.Proofs.YtkcnpkkihbpnmaaDoor
