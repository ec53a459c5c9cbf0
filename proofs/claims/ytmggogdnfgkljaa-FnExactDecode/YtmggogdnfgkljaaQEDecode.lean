/- For every input: the function Decode of the program answers as its model does, whatever its arguments are, leaves them as they were. No condition. -/
import Derived.Test.YtmggogdnfgkljaaK10
import Derived.Test.YtmggogdnfgkljaaK8
namespace Go.Proofs.Ytmggogdnfgkljaa
open Go.ChangeShapes Go.WideShapes Go.ChangeAt Go.RowKit
set_option maxRecDepth 100000 in
set_option maxHeartbeats 4000000 in
theorem walk_FnExactDecode (a0 : Int) (a1 : Int) (a2 : Option Addr) (len2 cap2 : Nat) (z2 : List Int) (a3 : Option Addr) (len3 cap3 : Nat) (S3 : Nat → ByteArray) (w : World) (_w0 : (Lit.int .i64 a0).wf = true) (_w1 : (Lit.int .i64 a1).wf = true) (w2 : IsRow .i64 w a2 len2 cap2 z2) (w3 : IsTxt w a3 len3 S3) :
    Calls Try.prog 11 #[.int .i64 a0, .int .i64 a1, .slice a2 len2 cap2, .slice a3 len3 cap3] w fun e w' => e = .returned (.bool true) ∧ Below w.heap.size w w' := by
  clear _w0 _w1
  obtain ⟨_, hA2, _⟩ := w2.ints
  clear w2
  by_cases h2 : 1048576 < len2
  case pos =>
    have h2' : (1048576 : Int) < (len2 : Int) := by omega
    clear w3
    go_enter Try.func11, Try.ntmps11
    go_wp2
    go_ret
    exact ⟨rfl, Below.refl _ _⟩
  have h2' : ¬ (1048576 : Int) < (len2 : Int) := by omega
  have n2 : len2 ≤ 1048576 := by omega
  generalize z2.take len2 = zs at hA2
  have A2 := hA2.arg
  have HL2 : Hid (zs.length = len2) := hA2.1
  have hM3 := w3.1
  have hn3 := w3.2.1
  have hl3 := w3.2.2
  clear w3
  have hz3 := fun w h => szT_any a3 len3 cap3 S3 1048576 w h (by omega) hn3 hl3
  by_cases h3 : len3 + tot (fun i => (S3 i).size) len3 ≤ 1048576
  case neg =>
    have e3 : szF (fun i => (S3 i).size) len3 1048576 = -1 := by unfold szF; rw [if_neg h3]
    rw [e3] at hz3
    go_enter Try.func11, Try.ntmps11
    go_wp2_with fail
    refine (hz3 _ hM3).mono ?_
    rintro e w' ⟨rfl, hw⟩
    obtain rfl := hw.symm
    go_wp2
    go_ret
    exact ⟨rfl, Below.refl _ _⟩
  obtain ⟨left3, hleft3⟩ : ∃ q, 1048576 - (len3 + tot (fun i => (S3 i).size) len3) = q := ⟨_, rfl⟩
  have e3 : szF (fun i => (S3 i).size) len3 1048576 = (left3 : Int) := by unfold szF; rw [if_pos h3, hleft3]
  rw [e3] at hz3
  have neg3 : ¬ ((left3 : Int) < 0) := by omega
  have bn3 : len3 ≤ 1048576 := by omega
  have bl3 : ∀ i, i < len3 → (S3 i).size ≤ 1048576 := fun i hi => by have := tot_le (fun i => (S3 i).size) hi; omega
  have b03 : 0 < len3 → (S3 0).size ≤ 1048576 := fun h => bl3 0 h
  have A3 := hM3.arg
  clear e3 h3 hleft3 hn3 hl3
  have hS := fun pa a w hz h => sDecode_any a0 a1 pa len2 len2 zs a len3 len3 S3 w hz h b03
  have hI := fun pa a w hz h => decode_any a0 a1 pa len2 len2 zs a len3 len3 S3 w hz h n2 bn3 b03
  generalize dcB a0 a1 zs len3 S3 = okf at hS hI
  generalize dcS a0 a1 zs len3 S3 = tx at hS hI
  have hfl : (okf != okf) = false := by simp
  have hbq := ba_beq tx
  clear bl3 b03
  go_enter Try.func11, Try.ntmps11
  go_wp2_with fail
  refine (hz3 _ hM3).mono ?_
  rintro e w' ⟨rfl, hw⟩
  obtain rfl := hw.symm
  clear hw hz3 hM3
  go_wp2_with fail
  refine Calls.mono (toIntS_any _ len2 cap2 zs _ A2.1 n2) ?_
  rintro e v1 ⟨rfl, o1, b1⟩
  have p2 := row_toIntS HL2.out o1
  have t1 := (World.ownsRow.lt o1 _ rfl).2
  clear o1
  have s1 := b1.size
  replace A2 := A2.below b1
  replace A3 := A3.below b1
  have cum := b1
  have cumS := cum.size
  clear b1
  go_wp2_with fail
  refine Calls.mono (toT_any _ len3 cap3 S3 _ A3.1 bn3) ?_
  rintro e v2 ⟨rfl, o2, b2⟩
  have p3 := OwnT.row o2
  have t2 := (World.ownsRow.lt o2 _ rfl).2
  clear o2
  have s2 := b2.size
  replace A2 := A2.below b2
  replace A3 := A3.below b2
  replace p2 := p2.below b2
  replace cum := below2 cum b2
  replace cumS := cum.size
  clear b2
  go_wp2_with fail
  refine Calls.mono (hS _ _ _ p2.ints p3.at) ?_
  rintro e v3 ⟨rfl, b3⟩
  have s3 := b3.size
  replace A2 := A2.below b3
  replace A3 := A3.below b3
  replace p2 := p2.below b3
  replace p3 := p3.below b3
  replace cum := below2 cum b3
  replace cumS := cum.size
  clear b3
  clear p2 p3
  go_wp2_with fail
  refine Calls.mono (toIntS_any _ len2 cap2 zs _ A2.1 n2) ?_
  rintro e v4 ⟨rfl, o4, b4⟩
  have x2 := row_toIntS HL2.out o4
  have t4 := (World.ownsRow.lt o4 _ rfl).2
  clear o4
  have s4 := b4.size
  replace A2 := A2.below b4
  replace A3 := A3.below b4
  replace cum := below2 cum b4
  replace cumS := cum.size
  clear b4
  go_wp2_with fail
  refine Calls.mono (toT_any _ len3 cap3 S3 _ A3.1 bn3) ?_
  rintro e v5 ⟨rfl, o5, b5⟩
  have x3 := OwnT.row o5
  have t5 := (World.ownsRow.lt o5 _ rfl).2
  clear o5
  have s5 := b5.size
  replace A2 := A2.below b5
  replace A3 := A3.below b5
  replace x2 := x2.below b5
  replace cum := below2 cum b5
  replace cumS := cum.size
  clear b5
  go_wp2_with fail
  refine Calls.mono (hI _ _ _ x2.ints x3.at) ?_
  rintro e v6 ⟨rfl, b6⟩
  have s6 := b6.size
  replace A2 := A2.below b6
  replace A3 := A3.below b6
  replace x2 := x2.below b6
  replace x3 := x3.below b6
  replace cum := below2 cum b6
  replace cumS := cum.size
  clear b6
  go_wp2_with fail
  refine Calls.mono (toIntS_any _ len2 cap2 zs _ A2.1 n2) ?_
  rintro e v7 ⟨rfl, o7, b7⟩
  have y2 := row_toIntS HL2.out o7
  have t7 := (World.ownsRow.lt o7 _ rfl).2
  clear o7
  have s7 := b7.size
  replace A2 := A2.below b7
  replace A3 := A3.below b7
  replace x2 := x2.below b7
  replace x3 := x3.below b7
  replace cum := below2 cum b7
  replace cumS := cum.size
  clear b7
  go_wp2_with fail
  refine Calls.mono (eqIntS_same _ _ _ _ _ zs _ x2.ints y2.ints n2) ?_
  rintro e v8 ⟨rfl, b8⟩
  have s8 := b8.size
  replace A2 := A2.below b8
  replace A3 := A3.below b8
  replace x2 := x2.below b8
  replace x3 := x3.below b8
  replace y2 := y2.below b8
  replace cum := below2 cum b8
  replace cumS := cum.size
  clear b8
  clear y2
  go_wp2_with fail
  refine Calls.mono (toT_any _ len3 cap3 S3 _ A3.1 bn3) ?_
  rintro e v9 ⟨rfl, o9, b9⟩
  have y3 := OwnT.row o9
  have t9 := (World.ownsRow.lt o9 _ rfl).2
  clear o9
  have s9 := b9.size
  replace A2 := A2.below b9
  replace A3 := A3.below b9
  replace x2 := x2.below b9
  replace x3 := x3.below b9
  replace cum := below2 cum b9
  replace cumS := cum.size
  clear b9
  go_wp2_with fail
  refine Calls.mono (eqT_same _ _ _ _ _ _ _ x3.at y3.at bn3) ?_
  rintro e v10 ⟨rfl, b10⟩
  have s10 := b10.size
  replace A2 := A2.below b10
  replace A3 := A3.below b10
  replace x2 := x2.below b10
  replace x3 := x3.below b10
  replace y3 := y3.below b10
  replace cum := below2 cum b10
  replace cumS := cum.size
  clear b10
  clear y3
  go_wp2
  go_ret
  exact ⟨rfl, cum⟩
end Go.Proofs.Ytmggogdnfgkljaa
namespace Go.Proofs.Ytmggogdnfgkljaa.fnExactDecode
open Go.ChangeShapes Go.WideShapes Go.ChangeAt Go.RowKit
open Go.ChangeMaps (open_string shut_string)
set_option linter.unusedVariables false
theorem own : ownKnob Try.prog.godebug = none := by kernel_rfl
theorem laidOut : laidOutB Try.prog = true := by kernel_rfl
set_option maxRecDepth 100000 in
theorem lifted (os : Os) (started : os.Started) (H : Type) (enc : TypeId × Value → H) :
    ReturnsInHanded {} Try.checked os 11 .any (Rows.fnExactDecodeSpec.pre6 enc Try.prog Try.f11 Rows.fnExactDecodeRow.domain false) (Rows.fnExactDecodeSpec.post enc Try.prog Try.f11 false true false false) := by
  refine returnsInHanded_of_change (C := Try.checked) own started (by kernel_rfl) Try.func11
    (ChangeSpec.witness6 (enc := enc) (C := Try.checked) false ⟨#[], #[.int .i64 0, .int .i64 0, .slice none 0 0, .slice none 0 0], []⟩ 8 (by kernel_rfl) (by kernel_rfl) (by kernel_rfl) (by kernel_rfl)) ?_
  intro W base args ds gs before hval0 hW hcnd _
  have hval : ∀ (j : Nat) t v, Try.f11.params[j]? = some t → args[j]? = some v → Value.okWide Try.prog W .any base t v := hval0
  have hW' := hW
  obtain ⟨p, q, hA0, hV, rfl, hfz, hnd⟩ := hW
  have hA : DataW.TrodAll enc Try.prog W 0 (fun _ => true) true Try.f11.params.toList args.toList ds p := hA0
  rw [Try.params11] at hA hval
  obtain ⟨v0, vs0, d0, ds0, p0, q0, hargs, rfl, rfl, h0, r0⟩ := trodAll_cons hA
  obtain ⟨v1, vs1, d1, ds1, p1, q1, rfl, rfl, rfl, h1, r1⟩ := trodAll_cons r0
  obtain ⟨v2, vs2, d2, ds2, p2, q2, rfl, rfl, rfl, h2, r2⟩ := trodAll_cons r1
  obtain ⟨v3, vs3, d3, ds3, p3, q3, rfl, rfl, rfl, h3, r3⟩ := trodAll_cons r2
  obtain ⟨rfl, rfl, rfl⟩ := trodAll_nil r3
  obtain rfl : args = #[v0, v1, v2, v3] := by cases args; simp_all
  obtain ⟨rfl, rfl⟩ := trodVars_none hV
  obtain ⟨a0, rfl, rfl, rfl, w0⟩ := open_int Try.underlying3 (hval 0 3 v0 rfl rfl) h0
  obtain ⟨a1, rfl, rfl, rfl, w1⟩ := open_int Try.underlying3 (hval 1 3 v1 rfl rfl) h1
  obtain ⟨a2, len2, cap2, rfl⟩ := okWide_slice Try.underlying31 (hval 2 31 v2 rfl rfl)
  have k2 := h2
  have lt2 : ∀ x ∈ p2, x.block < W.heap.size := by obtain ⟨m, hm⟩ := k2; exact DataW.trod_lt m _ _ _ hm
  obtain ⟨z2, w2⟩ : ∃ zs, IsRow .i64 W a2 len2 cap2 zs := by
    obtain ⟨fuel, hf⟩ := h2
    rcases open_ints Try.underlying31 Try.underlying3 (by kernel_rfl) hf with ⟨hcs, _⟩ | ⟨x, l, c, zs, hcs, _, hl, hm, hz, _, hcell, hwz⟩
    · simp [Value.cells] at hcs
      obtain ⟨rfl, rfl, rfl⟩ := hcs
      exact ⟨[], .inl ⟨rfl, rfl, rfl, rfl⟩⟩
    · simp [Value.cells] at hcs
      obtain ⟨rfl, rfl, rfl⟩ := hcs
      exact ⟨zs, .inr ⟨_, rfl, hl, hm, by simpa using hz, hcell, hwz⟩⟩
  obtain ⟨a3, len3, cap3, rfl⟩ := okWide_slice Try.underlying44 (hval 3 44 v3 rfl rfl)
  have k3 := h3
  have lt3 : ∀ x ∈ p3, x.block < W.heap.size := by obtain ⟨m, hm⟩ := k3; exact DataW.trod_lt m _ _ _ hm
  obtain ⟨S3, w3⟩ : ∃ S, IsTxt W a3 len3 S := by
    obtain ⟨fuel, hf⟩ := h3
    rcases Go.Deep.open_strs Try.underlying44 Try.underlying9 (by kernel_rfl) hf with ⟨hcs, _⟩ | ⟨x, l, c, m, Sx, hcs, _, hl, hm, hmm, _, hcell⟩
    · simp [Value.cells] at hcs
      obtain ⟨rfl, rfl, rfl⟩ := hcs
      exact ⟨fun _ => ByteArray.empty, fun i hi => absurd hi (Nat.not_lt_zero _), Nat.zero_le _, fun i hi => absurd hi (Nat.not_lt_zero _)⟩
    · simp [Value.cells] at hcs
      obtain ⟨rfl, rfl, rfl⟩ := hcs
      exact ⟨Sx, isTxt_of hl hm (by rw [hmm]; split <;> omega) hcell⟩
  clear hA0 hval0
  refine (walk_FnExactDecode a0 a1 a2 len2 cap2 z2 a3 len3 cap3 S3 W w0 w1 w2 w3).mono fun e W' ⟨he, bel⟩ => ?_
  subst he
  exact ⟨_, rfl, _, _, _, [], _, [], hW', trodAll_mk1 (shut_bool Try.underlying4 _), (trodAll_cons_mk (shut_int Try.underlying3 w0) (trodAll_cons_mk (shut_int Try.underlying3 w1) (trodAll_cons_mk (Below.trod laidOut (by kernel_rfl) (of_decide_eq_true (by kernel_rfl)) k2 bel lt2) (trodAll_cons_mk (Below.trod laidOut (by kernel_rfl) (of_decide_eq_true (by kernel_rfl)) k3 bel lt3) trodAll_mk0)))), rfl, bel.frame _, fun h => by cases h⟩
theorem over : Rows.fnExactDecodeRow.holds Try.pinned (OpenSpec.ofChange Rows.fnExactDecodeSpec) :=
  OpenClaim.holds_of_wide 11 Try.f11 rfl rfl rfl rfl rfl rfl rfl ⟨rfl, rfl, rfl, rfl, rfl⟩ rfl rfl rfl rfl rfl (by kernel_rfl) Try.func11 (by kernel_rfl)
    (of_decide_eq_true (by kernel_rfl)) (by unfold Func.isWrapper; first | (rw [if_pos (by decide +kernel)]; kernel_rfl) | (rw [if_neg (by decide +kernel)]; exact ⟨rfl, rfl⟩))
    (fun os started H enc _ => lifted os started H enc)
theorem proved : Rows.FnExactDecodeSaid := over
#print axioms proved
end Go.Proofs.Ytmggogdnfgkljaa.fnExactDecode
