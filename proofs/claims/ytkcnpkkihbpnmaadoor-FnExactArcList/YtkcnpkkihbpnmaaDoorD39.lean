/- The list of an archive (ArcList), in the model. Conditions: texts and lists of at most 2^20. -/
import Derived.Test.YtkcnpkkihbpnmaaDoorD38
namespace Go.Proofs.YtkcnpkkihbpnmaaDoor
set_option maxRecDepth 2000
open Go.ChangeShapes Go.WideShapes Go.ChangeAt Go.RowKit

set_option maxHeartbeats 4000000 in
theorem sArcList_any (f : Int) (v1 v2 v3 v5 : Value) (x : Option Addr) (ne cx : Nat) (E : Nat → En) (w : World) (h : Rd w (ensD ne E) (.slice x ne cx)) (hE : ∀ i, i < ne → EnL (E i)) (hT : tot (fun i => wtE (E i)) ne + ne ≤ 1048576) :
    Calls Tryd.prog 5 #[arV f v1 v2 v3 (.slice x ne cx) v5] w fun e w' => e = .returned (.string (alS E ne)) ∧ Below w.heap.size w w' := by
  obtain ⟨A, HA⟩ : ∃ z, Hid (z = w.heap.size) := ⟨_, rfl⟩
  obtain ⟨w0, HW0⟩ : ∃ z, Hid (z = w.alloc (.cells #[.int .i64 f, v1, v2, v3, .slice x ne cx, v5] 40)) := ⟨_, rfl⟩
  have RA : Hid (Row w0 A 40 #[.int .i64 f, v1, v2, v3, .slice x ne cx, v5]) := by show Row _ _ _ _; rw [HW0.out, HA.out]; exact Row.new w _ _
  have hb0 : Below w.heap.size w w0 := by rw [HW0.out]; exact (Below.refl _ _).alloc (Nat.le_refl _) _
  have KB0 : Hid (Below w.heap.size w w0) := hb0
  have KH : Hid (Rd w0 (ensD ne E) (.slice x ne cx)) := h.below hb0
  have KE : Hid (∀ i, i < ne → EnL (E i)) := hE
  have KZ : Hid (∀ k, k ≤ ne → (alS E k).size ≤ 30000000) := fun k hk => by
    have h1 := alS_size hE k hk
    have h2 : tot (fun i => wtE (E i)) k ≤ tot (fun i => wtE (E i)) ne := tot_mono2 _ hk
    show _ ≤ _
    omega
  have hne : ne ≤ 1048576 := by omega
  clear h hE hT hb0
  go_enter Tryd.func5, Tryd.ntmps5
  go_wp2_with fail
  rw [← HW0.out, ← HA.out]
  go_loopw [3, 4] (fun vo vi wr => ∃ (k : Nat) (o : ByteArray), k ≤ ne ∧ vo = .string o ∧ vi = .int .i64 (k : Int) ∧ Hid (alS E k = o ∧ Below w0.heap.size w0 wr)) (fun _ vi _ => ne - (intOf vi).toNat)
  case atStart => exact ⟨0, _, Nat.zero_le _, rfl, rfl, rfl, Below.refl _ _⟩
  case round =>
    obtain ⟨k, o, hk, rfl, rfl, HJ⟩ := hrel
    have RAr := RA.out.below HJ.out.2 RA.out.lt
    have z4 := RAr.cell 4
    simp at z4
    clear RAr
    by_cases hlt : k < ne
    · have hki : (k : Int) < (ne : Int) := by omega
      obtain ⟨b1, f1, rfl, _, R1'⟩ := entry_at (KH.out.below HJ.out.2) hlt
      obtain ⟨hnn, hrr, hss⟩ := KE.out k hlt
      obtain ⟨⟨nm, rt, sz⟩, HE⟩ : ∃ z, Hid (E k = z) := ⟨_, rfl⟩
      rw [HE.out] at R1' hnn hrr hss
      replace hnn : nm.size ≤ 1048576 := hnn
      replace hrr : rt.size ≤ 1048576 := hrr
      replace hss : -9223372036854775808 ≤ sz ∧ sz ≤ 9223372036854775807 := hss
      have R1 : Hid (wr.rangeAt b1 (f1 + k * 3) [.string nm, .string rt, .int .i64 sz]) := R1'
      obtain ⟨P, HP⟩ : ∃ z, Hid (z = wr.heap.size) := ⟨_, rfl⟩
      obtain ⟨w2, HW2⟩ : ∃ z, Hid (z = wr.alloc (.cells #[.string nm, .string rt, .int .i64 sz] 48)) := ⟨_, rfl⟩
      have RP : Hid (Row w2 P 48 #[.string nm, .string rt, .int .i64 sz]) := by show Row _ _ _ _; rw [HW2.out, HP.out]; exact Row.new wr _ _
      have hb2 : Below wr.heap.size wr w2 := by rw [HW2.out]; exact (Below.refl _ _).alloc (Nat.le_refl _) _
      have KB2 : Hid (Below w0.heap.size w0 w2) := below2 HJ.out.2 hb2
      obtain ⟨D, HD⟩ : ∃ z, Hid (its sz = z) := ⟨_, rfl⟩
      obtain ⟨X, HX⟩ : ∃ z, Hid (hexT rt = z) := ⟨_, rfl⟩
      have zo : o.size ≤ 30000000 := by rw [← HJ.out.1]; exact KZ.out k hk
      have zD : D.size ≤ 21 := by rw [← HD.out]; exact (its_size sz hss.1 hss.2).1
      have zX : X.size ≤ 2097152 := by rw [← HX.out, hexT_len]; omega
      have hLn : Hid (alS E (k + 1) = o ++ nm ++ ⟨#[32]⟩ ++ D ++ ⟨#[32]⟩ ++ X ++ ⟨#[10]⟩) := by
        show alS E k ++ lnE (E k) = _
        rw [HJ.out.1, HE.out, alS_out, ← HD.out, ← HX.out]
        rfl
      have sp : (⟨#[32]⟩ : ByteArray).size = 1 := rfl
      have nl : (⟨#[10]⟩ : ByteArray).size = 1 := rfl
      have KD : Hid (∀ W, Below w2.heap.size w2 W → Calls Tryd.prog 12 #[.int .i64 sz] W fun e w' => e = .returned (.string D) ∧ Below w2.heap.size w2 w') := fun W hW => by
        rw [← HD.out]
        exact (sDecI_any sz W hss.1 hss.2).mono fun e w' ⟨he, hw⟩ => ⟨he, hw ▸ hW⟩
      have KX : Hid (∀ W, Below w2.heap.size w2 W → Calls Tryd.prog 13 #[.string rt] W fun e w' => e = .returned (.string X) ∧ Below w2.heap.size w2 w') := fun W hW => by
        rw [← HX.out]
        exact (sHexText_any rt W hrr).mono fun e w' ⟨he, hb⟩ => ⟨he, below2 hW hb⟩
      obtain ⟨ao, eo⟩ : ∃ z, o.size = z := ⟨_, rfl⟩
      obtain ⟨a0, e0⟩ : ∃ z, nm.size = z := ⟨_, rfl⟩
      obtain ⟨a1, e1⟩ : ∃ z, D.size = z := ⟨_, rfl⟩
      obtain ⟨a2, e2⟩ : ∃ z, X.size = z := ⟨_, rfl⟩
      have yo : ao ≤ 30000000 := by omega
      have y0 : a0 ≤ 1048576 := by omega
      have y1 : a1 ≤ 21 := by omega
      have y2 : a2 ≤ 2097152 := by omega
      have t0 : (o ++ nm : ByteArray).size = ao + a0 := by simp only [ByteArray.size_append]; omega
      have c1 : (9223372036854775807 < ao + a0) = False := by simp; omega
      have t2 : (o ++ nm ++ ⟨#[32]⟩ : ByteArray).size = ao + a0 + 1 := by simp only [ByteArray.size_append, sp]; omega
      have c3 : (9223372036854775807 < ao + a0 + 1) = False := by simp; omega
      have t4 : (o ++ nm ++ ⟨#[32]⟩ ++ D : ByteArray).size = ao + a0 + 1 + a1 := by simp only [ByteArray.size_append, sp]; omega
      have c5 : (9223372036854775807 < ao + a0 + 1 + a1) = False := by simp; omega
      have t6 : (o ++ nm ++ ⟨#[32]⟩ ++ D ++ ⟨#[32]⟩ : ByteArray).size = ao + a0 + 1 + a1 + 1 := by simp only [ByteArray.size_append, sp]; omega
      have c7 : (9223372036854775807 < ao + a0 + 1 + a1 + 1) = False := by simp; omega
      have t8 : (o ++ nm ++ ⟨#[32]⟩ ++ D ++ ⟨#[32]⟩ ++ X : ByteArray).size = ao + a0 + 1 + a1 + 1 + a2 := by simp only [ByteArray.size_append, sp]; omega
      have c9 : (9223372036854775807 < ao + a0 + 1 + a1 + 1 + a2) = False := by simp; omega
      have t10 : (o ++ nm ++ ⟨#[32]⟩ ++ D ++ ⟨#[32]⟩ ++ X ++ ⟨#[10]⟩ : ByteArray).size = ao + a0 + 1 + a1 + 1 + a2 + 1 := by simp only [ByteArray.size_append, sp, nl]; omega
      have c11 : (9223372036854775807 < ao + a0 + 1 + a1 + 1 + a2 + 1) = False := by simp; omega
      have q0 := RP.out.cell 0
      have q1 := RP.out.cell 1
      have q2 := RP.out.cell 2
      simp at q0 q1 q2
      have KS : Hid (∀ W, Below w2.heap.size w2 W → W.cell? ⟨P, 0, none⟩ = some (.string nm) ∧ W.cell? ⟨P, 1, none⟩ = some (.string rt) ∧ W.cell? ⟨P, 2, none⟩ = some (.int .i64 sz)) := fun W hW => ⟨(hW.cell (p := ⟨P, 0, none⟩) RP.out.lt).trans q0, (hW.cell (p := ⟨P, 1, none⟩) RP.out.lt).trans q1, (hW.cell (p := ⟨P, 2, none⟩) RP.out.lt).trans q2⟩
      have hz : Below w2.heap.size w2 w2.drew := ⟨rfl, rfl, rfl, Nat.le_refl _, fun _ _ => rfl⟩
      clear R1' hb2 zo zD zX hnn hrr hss HJ
      go_upto_region 6 with (refine wpList_load_mid (by rfl) 48 _ (by rfl) b1 (f1 + k * 3) (by rfl) [.string nm, .string rt, .int .i64 sz] _ ?_ Tryd.underlying48 (by rfl) Tryd.infoEn ?_; exact R1.out)
      rw [← HW2.out, ← HP.out]
      clear z4
      go_region_held3 (fun w' => w'.cell? ⟨P, 0, none⟩ = some (.string nm) ∧ w'.cell? ⟨P, 1, none⟩ = some (.string rt) ∧ w'.cell? ⟨P, 2, none⟩ = some (.int .i64 sz)) (first | exact ⟨q0, q1, q2⟩ | exact KS.out _ (by with_reducible assumption)) ((first | (go_at_call 12; refine Calls.mono (KD.out _ (by assumption)) ?_; rintro e w' ⟨rfl, hz⟩) | (go_at_call 13; refine Calls.mono (KX.out _ (by assumption)) ?_; rintro e w' ⟨rfl, hz⟩)))
      all_goals
        have HJ9 : Hid (alS E (k + 1) = o ++ nm ++ ⟨#[32]⟩ ++ D ++ ⟨#[32]⟩ ++ X ++ ⟨#[10]⟩ ∧ Below w0.heap.size w0 w') := ⟨hLn.out, below2 KB2.out hz⟩
        clear q0 q1 q2 c1 c3 c5 c7 c9 c11 t0 t2 t4 t6 t8 t10 hz
        go_wp2_with fail
        go_roundw
        case rel => exact ⟨k + 1, _, by omega, rfl, by go_num, HJ9⟩
        case measure => simp [intOf]; omega
    · obtain rfl : k = ne := by omega
      have HF : Hid (alS E k = o ∧ Below w.heap.size w wr) := ⟨HJ.out.1, below2 KB0.out HJ.out.2⟩
      clear KH KE KZ HJ
      go_wp2
      go_ret
      exact ⟨congrArg (fun z => Ending.returned (.string z)) HF.out.1.symm, HF.out.2⟩
end Go.Proofs.YtkcnpkkihbpnmaaDoor
