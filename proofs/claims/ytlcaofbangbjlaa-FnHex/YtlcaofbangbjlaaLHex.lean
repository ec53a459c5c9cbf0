/- For every input: a text comes back from its hexadecimal digits, and nothing else does; a sum has its length; the program's answers are the model's. No condition. -/
import Derived.Test.YtlcaofbangbjlaaFrom
import Derived.Test.YtlcaofbangbjlaaDrawX
import Derived.Test.YtlcaofbangbjlaaSHexB
import Derived.Test.YtlcaofbangbjlaaSSum
namespace Go.Proofs.Ytlcaofbangbjlaa
open Go.ChangeShapes Go.WideShapes Go.ChangeAt Go.RowKit

theorem hexT_size (s : ByteArray) : (hexT s).size = 2 * s.size := by unfold hexT; rw [strOfNums_size, hxL_len]
theorem hxAt_lt {T : Nat → Nat} (hT : ∀ i, T i < 256) (i : Nat) : hxAt T i < 256 := by
  have := hT (i / 2)
  unfold hxAt
  split <;> exact dg_lt (by omega)
theorem hexT_at (s : ByteArray) (i : Nat) (h : i < 2 * s.size) : tat (hexT s) i = hxAt (tat s) i := by
  unfold hexT
  rw [tat_str, show (hxL (tat s) (2 * s.size)).getD i 0 = ((hxAt (tat s) i : Nat) : Int) by simp [hxL, List.getD, h], Int.toNat_natCast, Nat.mod_eq_of_lt (hxAt_lt (tat_lt s) i)]
theorem hexT_hi (s : ByteArray) (i : Nat) (h : i < s.size) : ix (tat (hexT s) (2 * i)) = ((tat s i / 16 : Nat) : Int) := by
  have := tat_lt s i
  rw [hexT_at s _ (by omega), hxAt, if_pos (by omega), show 2 * i / 2 = i by omega, ix_dg (by omega)]
theorem hexT_lo (s : ByteArray) (i : Nat) (h : i < s.size) : ix (tat (hexT s) (2 * i + 1)) = ((tat s i % 16 : Nat) : Int) := by
  rw [hexT_at s _ (by omega), hxAt, if_neg (by omega), show (2 * i + 1) / 2 = i by omega, ix_dg (by omega)]
/-- The digits of a text are right. -/
theorem hex_ok (s : ByteArray) : hbF (hexT s) = true := by
  unfold hbF
  rw [hexT_size, show 2 * s.size / 2 = s.size by omega, Bool.and_eq_true]
  refine ⟨by simp, oks_iff.2 fun i hi => ?_⟩
  unfold okp
  rw [hexT_hi s i hi, hexT_lo s i hi, Bool.and_eq_true, decide_eq_true_eq, decide_eq_true_eq]
  exact ⟨Int.natCast_nonneg _, Int.natCast_nonneg _⟩
theorem hbL_get (T : Nat → Nat) (m k : Nat) (h : k < m) : tat (strOfNums (hbL T m)) k = hbv T k := by
  rw [tat_str, hbL_at T m k h, Int.toNat_natCast, Nat.mod_eq_of_lt (hbv_lt T k)]
/-- A text comes back from its digits. -/
theorem hex_back (s : ByteArray) : hbS (hexT s) = s := by
  unfold hbS
  rw [if_pos (hex_ok s), hexT_size, show 2 * s.size / 2 = s.size by omega]
  have hz : (strOfNums (hbL (tat (hexT s)) s.size)).size = s.size := by rw [strOfNums_size, hbL_len]
  refine str_ext hz (fun k => ?_)
  by_cases hk : k < s.size
  · rw [hbL_get _ _ _ hk, hbv, hexT_hi s k hk, hexT_lo s k hk, Int.toNat_natCast, Int.toNat_natCast]
    omega
  · rw [tat_out _ k (by omega), tat_out s k hk]
/-- Nothing else does. -/
theorem hex_forth (u : ByteArray) (h : hbF u = true) : hexT (hbS u) = u := by
  have h' := h
  unfold hbF at h'
  rw [Bool.and_eq_true, decide_eq_true_eq] at h'
  obtain ⟨hev, hok⟩ := h'
  have hok := oks_iff.1 hok
  have hs : (hbS u).size = u.size / 2 := by unfold hbS; rw [if_pos h, strOfNums_size, hbL_len]
  have hz : (hexT (hbS u)).size = u.size := by rw [hexT_size, hs]; omega
  have hv : ∀ i, i < u.size / 2 → tat (hbS u) i = hbv (tat u) i := by
    intro i hi
    unfold hbS
    rw [if_pos h]
    exact hbL_get _ _ _ hi
  refine str_ext hz (fun k => ?_)
  by_cases hk : k < u.size
  · have hi : k / 2 < u.size / 2 := by omega
    have ho := hok _ hi
    unfold okp at ho
    rw [Bool.and_eq_true, decide_eq_true_eq, decide_eq_true_eq] at ho
    have l1 := ix_lt (tat u (2 * (k / 2)))
    have l2 := ix_lt (tat u (2 * (k / 2) + 1))
    rw [hexT_at _ _ (by omega), hxAt, hv _ hi, hbv]
    split
    · rename_i h2
      rw [show (16 * (ix (tat u (2 * (k / 2)))).toNat + (ix (tat u (2 * (k / 2) + 1))).toNat) / 16 = (ix (tat u (2 * (k / 2)))).toNat by omega, dg_ix ho.1, show 2 * (k / 2) = k by omega]
    · rename_i h2
      rw [show (16 * (ix (tat u (2 * (k / 2)))).toNat + (ix (tat u (2 * (k / 2) + 1))).toNat) % 16 = (ix (tat u (2 * (k / 2) + 1))).toNat by omega, dg_ix ho.2, show 2 * (k / 2) + 1 = k by omega]
  · rw [tat_out _ k (by omega), tat_out u k hk]
theorem hbS_le (u : ByteArray) : (hbS u).size ≤ u.size := by
  unfold hbS
  split
  · rw [strOfNums_size, hbL_len]; omega
  · exact Nat.zero_le _

set_option maxHeartbeats 4000000 in
theorem walk_FnHex (a0 : Option Addr) (len0 cap0 : Nat) (z0 : List Int) (w : World) (w0 : IsRow .u8 w a0 len0 cap0 z0) :
    Calls Try.prog 4 #[.slice a0 len0 cap0] w fun e w' => e = .returned (.bool true) ∧ Below w.heap.size w w' := by
  by_cases h0 : 1048576 < len0
  · clear w0
    have h0' : (1048576 : Int) < (len0 : Int) := by omega
    go_enter Try.func4, Try.ntmps4
    go_wp2_with (go_at_call 12; refine (big_any _ _ _ _).mono ?_; rintro e w' ⟨rfl, rfl⟩)
    go_ret
    exact ⟨rfl, Below.refl _ _⟩
  · have hc := w0.code (by omega)
    clear w0
    have h0' : ¬ (1048576 : Int) < (len0 : Int) := by omega
    go_enter Try.func4, Try.ntmps4
    go_wp2_with fail
    refine (big_any _ _ _ _).mono ?_
    rintro e w' ⟨rfl, hw⟩
    obtain rfl := hw.symm
    go_wp2_with fail
    refine (drawHexText_any _ _ _ _ hc).mono ?_
    rintro e w1 ⟨s, hs, rfl, hb1⟩
    have hc1 := hc.below hb1
    clear hc
    have hz := hexT_size s
    have hI : ∀ w, Calls Try.prog 23 #[.string s] w _ := fun w => hexText_any s w (by omega)
    have hS : ∀ w, Calls Try.prog 29 #[.string s] w _ := fun w => sHexText_any s w (by omega)
    have hB : ∀ w, Calls Try.prog 24 #[.string (hexT s)] w _ := fun w => hexBytes_any (hexT s) w (by omega)
    rw [hex_back s, hex_ok s] at hB
    have hU : ∀ w, Calls Try.prog 31 #[.string s] w _ := fun w => sum_any s w (by omega)
    have hV : ∀ w, Calls Try.prog 32 #[.string s] w _ := fun w => sSum_any s w (by omega)
    have h16 := sumS_size s
    generalize hexT s = h at hz hI hS hB
    generalize sumS s = g at hU hV h16
    have KI : Hid _ := hI
    have KS : Hid _ := hS
    have KB : Hid _ := hB
    have KU : Hid _ := hU
    have KV : Hid _ := hV
    clear hI hS hB hU hV
    go_wp2_with fail
    refine Calls.mono (KI.out _) ?_
    rintro e w2 ⟨rfl, hb2⟩
    have hc2 := hc1.below hb2
    clear hc1
    go_wp2_with fail
    refine Calls.mono (KB.out _) ?_
    rintro e w3 ⟨rfl, hb3⟩
    have hc3 := hc2.below hb3
    clear hc2
    go_wp2_with fail
    refine (drawHexBytes_any _ _ _ _ hc3).mono ?_
    rintro e w4 ⟨u, hu, rfl, hb4⟩
    have hc4 := hc3.below hb4
    clear hc3
    have hC : ∀ w, Calls Try.prog 24 #[.string u] w _ := fun w => hexBytes_any u w (by omega)
    have hD : ∀ w, Calls Try.prog 26 #[.string u] w _ := fun w => sHexBytes_any u w (by omega)
    have hE : ∀ w, Calls Try.prog 23 #[.string (hbS u)] w _ := fun w => hexText_any (hbS u) w (by have := hbS_le u; omega)
    have hF := hex_forth u
    generalize hbS u = t at hC hD hE hF
    generalize hbF u = f at hC hD hF
    have KC : Hid _ := hC
    have KD : Hid _ := hD
    have KE : Hid _ := hE
    have KF : Hid _ := hF
    clear hC hD hE hF
    go_wp2_with fail
    refine Calls.mono (KC.out _) ?_
    rintro e w5 ⟨rfl, hb5⟩
    have hc5 := hc4.below hb5
    clear hc4
    go_wp2_with fail
    refine Calls.mono (KD.out _) ?_
    rintro e w6 ⟨rfl, hb6⟩
    have hc6 := hc5.below hb6
    clear hc5
    go_wp2_with fail
    refine (drawLong_any _ _ _ _ hc6).mono ?_
    rintro e w7 ⟨x, rfl, hb7⟩
    clear hc6
    have hL : ∀ w, Calls Try.prog 28 #[.int .u64 (Gs.U x)] w _ := fun w => longText_any x w
    have hM : ∀ w, Calls Try.prog 30 #[.int .u64 (Gs.U x)] w _ := fun w => sLongText_any x w
    have h8 := lxs_size x
    generalize strOfNums (lx x) = l at hL hM h8
    have KL : Hid _ := hL
    have KM : Hid _ := hM
    clear hL hM
    go_wp2_with fail
    refine Calls.mono (KL.out _) ?_
    rintro e w8 ⟨rfl, hb8⟩
    have hb18 : Below w.heap.size w w8 := below2 (below2 (below2 hb1 hb2) (below2 hb3 hb4)) (below2 (below2 hb5 hb6) (below2 hb7 hb8))
    clear hb1 hb2 hb3 hb4 hb5 hb6 hb7 hb8
    have n1 : ((h.size : Int) == 2 * (s.size : Int)) = true := by simp; omega
    go_wp2_with fail
    refine Calls.mono (KS.out _) ?_
    rintro e w9 ⟨rfl, hb9⟩
    have hb19 := below2 hb18 hb9
    clear hb18 hb9
    cases f
    · go_wp2_with fail
      refine Calls.mono (KM.out _) ?_
      rintro e w10 ⟨rfl, hb10⟩
      go_wp2_with fail
      refine Calls.mono (KU.out _) ?_
      rintro e w11 ⟨rfl, hb11⟩
      go_wp2_with fail
      refine Calls.mono (KV.out _) ?_
      rintro e w12 ⟨rfl, hb12⟩
      go_wp2_with fail
      refine Calls.mono (KU.out _) ?_
      rintro e w13 ⟨rfl, hb13⟩
      have hb := below2 hb19 (below2 (below2 hb10 hb11) (below2 hb12 hb13))
      go_wp2
      go_ret
      exact ⟨rfl, hb⟩
    · have KE2 := KE
      rw [KF.out rfl] at KE2
      clear KE KF
      go_wp2_with fail
      refine Calls.mono (KE2.out _) ?_
      rintro e w14 ⟨rfl, hb14⟩
      have hb1a := below2 hb19 hb14
      go_wp2_with fail
      refine Calls.mono (KM.out _) ?_
      rintro e w10 ⟨rfl, hb10⟩
      go_wp2_with fail
      refine Calls.mono (KU.out _) ?_
      rintro e w11 ⟨rfl, hb11⟩
      go_wp2_with fail
      refine Calls.mono (KV.out _) ?_
      rintro e w12 ⟨rfl, hb12⟩
      go_wp2_with fail
      refine Calls.mono (KU.out _) ?_
      rintro e w13 ⟨rfl, hb13⟩
      have hb := below2 hb1a (below2 (below2 hb10 hb11) (below2 hb12 hb13))
      go_wp2
      go_ret
      exact ⟨rfl, hb⟩
end Go.Proofs.Ytlcaofbangbjlaa
namespace Go.Proofs.Ytlcaofbangbjlaa.fnHex
open Go.ChangeShapes Go.WideShapes Go.ChangeAt Go.RowKit
open Go.ChangeMaps (open_string shut_string)
set_option linter.unusedVariables false
theorem own : ownKnob Try.prog.godebug = none := by kernel_rfl
theorem laidOut : laidOutB Try.prog = true := by kernel_rfl
set_option maxRecDepth 100000 in
theorem lifted (os : Os) (started : os.Started) (H : Type) (enc : TypeId × Value → H) :
    ReturnsInHanded {} Try.checked os 4 .any (Rows.fnHexSpec.pre6 enc Try.prog Try.f4 Rows.fnHexRow.domain false) (Rows.fnHexSpec.post enc Try.prog Try.f4 false true false false) := by
  refine returnsInHanded_of_change (C := Try.checked) own started (by kernel_rfl) Try.func4
    (ChangeSpec.witness6 (enc := enc) (C := Try.checked) false ⟨#[], #[.slice none 0 0], []⟩ 8 (by kernel_rfl) (by kernel_rfl) (by kernel_rfl) (by kernel_rfl)) ?_
  intro W base args ds gs before hval0 hW hcnd _
  have hval : ∀ (j : Nat) t v, Try.f4.params[j]? = some t → args[j]? = some v → Value.okWide Try.prog W .any base t v := hval0
  have hW' := hW
  obtain ⟨p, q, hA0, hV, rfl, hfz, hnd⟩ := hW
  have hA : DataW.TrodAll enc Try.prog W 0 (fun _ => true) true Try.f4.params.toList args.toList ds p := hA0
  rw [Try.params4] at hA hval
  obtain ⟨v0, vs0, d0, ds0, p0, q0, hargs, rfl, rfl, h0, r0⟩ := trodAll_cons hA
  obtain ⟨rfl, rfl, rfl⟩ := trodAll_nil r0
  obtain rfl : args = #[v0] := by cases args; simp_all
  obtain ⟨rfl, rfl⟩ := trodVars_none hV
  obtain ⟨a0, len0, cap0, rfl⟩ := okWide_slice Try.underlying22 (hval 0 22 v0 rfl rfl)
  have k0 := h0
  have lt0 : ∀ x ∈ p0, x.block < W.heap.size := by obtain ⟨m, hm⟩ := k0; exact DataW.trod_lt m _ _ _ hm
  obtain ⟨z0, w0⟩ : ∃ zs, IsRow .u8 W a0 len0 cap0 zs := by
    obtain ⟨fuel, hf⟩ := h0
    rcases open_ints Try.underlying22 Try.underlying5 (by kernel_rfl) hf with ⟨hcs, _⟩ | ⟨x, l, c, zs, hcs, _, hl, hm, hz, _, hcell, hwz⟩
    · simp [Value.cells] at hcs
      obtain ⟨rfl, rfl, rfl⟩ := hcs
      exact ⟨[], .inl ⟨rfl, rfl, rfl, rfl⟩⟩
    · simp [Value.cells] at hcs
      obtain ⟨rfl, rfl, rfl⟩ := hcs
      exact ⟨zs, .inr ⟨_, rfl, hl, hm, by simpa using hz, hcell, hwz⟩⟩
  clear hA0 hval0
  refine (walk_FnHex a0 len0 cap0 z0 W w0).mono fun e W' ⟨he, bel⟩ => ?_
  subst he
  exact ⟨_, rfl, _, _, _, [], _, [], hW', trodAll_mk1 (shut_bool Try.underlying4 _), (trodAll_cons_mk (Below.trod laidOut (by kernel_rfl) (of_decide_eq_true (by kernel_rfl)) k0 bel lt0) trodAll_mk0), rfl, bel.frame _, fun h => by cases h⟩
theorem over : Rows.fnHexRow.holds Try.pinned (OpenSpec.ofChange Rows.fnHexSpec) :=
  OpenClaim.holds_of_wide 4 Try.f4 rfl rfl rfl rfl rfl rfl rfl ⟨rfl, rfl, rfl, rfl, rfl⟩ rfl rfl rfl rfl rfl (by kernel_rfl) Try.func4 (by kernel_rfl)
    (of_decide_eq_true (by kernel_rfl)) (by unfold Func.isWrapper; first | (rw [if_pos (by decide +kernel)]; kernel_rfl) | (rw [if_neg (by decide +kernel)]; exact ⟨rfl, rfl⟩))
    (fun os started H enc _ => lifted os started H enc)
theorem proved : Rows.FnHexSaid := over
#print axioms proved
end Go.Proofs.Ytlcaofbangbjlaa.fnHex
