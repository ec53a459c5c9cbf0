/- For every input: the function ProofRoot of the program answers as its model does, whatever its arguments are, leaves them as they were. No condition. -/
import Derived.Test.YtlnpjpdphhpomaaTPRootS
import Derived.Test.YtlnpjpdphhpomaaTMarkB
namespace Go.Proofs.Ytlnpjpdphhpomaa
set_option maxRecDepth 2000
open Go.ChangeShapes Go.WideShapes Go.ChangeAt Go.RowKit
set_option maxRecDepth 100000 in
set_option maxHeartbeats 4000000 in
theorem walk_FnExactProofRoot (a0 : ByteArray) (a1 : Int) (a2 : Int) (a3 : Option Addr) (len3 cap3 : Nat) (S3 : Nat → ByteArray) (w : World) (_w0 : a0.size ≤ maxLen) (_w1 : (Lit.int .i64 a1).wf = true) (_w2 : (Lit.int .i64 a2).wf = true) (w3 : IsTxt w a3 len3 S3) :
    Calls Try.prog 8 #[.string a0, .int .i64 a1, .int .i64 a2, .slice a3 len3 cap3] w fun e w' => e = .returned (.bool true) ∧ Below w.heap.size w w' := by
  clear _w0 _w1 _w2
  by_cases h0 : 1048576 < a0.size
  case pos =>
    have h0' : (1048576 : Int) < (a0.size : Int) := by omega
    clear w3
    go_enter Try.func8, Try.ntmps8
    go_wp2
    go_ret
    exact ⟨rfl, Below.refl _ _⟩
  have h0' : ¬ (1048576 : Int) < (a0.size : Int) := by omega
  have hM3 := w3.1
  have hn3 := w3.2.1
  have hl3 := w3.2.2
  clear w3
  have hz3 := fun w h => szT_any a3 len3 cap3 S3 1048576 w h (by omega) hn3 hl3
  by_cases h3 : len3 + tot (fun i => (S3 i).size) len3 ≤ 1048576
  case neg =>
    have e3 : szF (fun i => (S3 i).size) len3 1048576 = -1 := by unfold szF; rw [if_neg h3]
    rw [e3] at hz3
    go_enter Try.func8, Try.ntmps8
    go_wp2_with fail
    refine (hz3 _ hM3).mono ?_
    rintro e w' ⟨rfl, hw⟩
    obtain rfl := hw.symm
    go_wp2
    go_ret
    exact ⟨rfl, Below.refl _ _⟩
  obtain ⟨left3, hleft3⟩ : ∃ q, 1048576 - (len3 + tot (fun i => (S3 i).size) len3) = q := ⟨_, rfl⟩
  have e3 : szF (fun i => (S3 i).size) len3 1048576 = (left3 : Int) := by unfold szF; rw [if_pos h3, hleft3]
  rw [e3] at hz3
  have neg3 : ¬ ((left3 : Int) < 0) := by omega
  have bn3 : len3 ≤ 1048576 := by omega
  have bl3 : ∀ i, i < len3 → (S3 i).size ≤ 1048576 := fun i hi => by have := tot_le (fun i => (S3 i).size) hi; omega
  have b03 : 0 < len3 → (S3 0).size ≤ 1048576 := fun h => bl3 0 h
  have A3 := hM3.arg
  clear e3 h3 hleft3 hn3 hl3
  have bm3 : ∀ i, i < len3 → (S3 i).size ≤ maxLen := fun i hi => by have := bl3 i hi; unfold maxLen; omega
  have hS := fun a w h => sProofRoot_any a0 a1 a2 a len3 len3 S3 w h bn3 bm3
  have hI := fun a w h => proofRoot_any a0 a1 a2 a len3 len3 S3 w h bn3 bm3
  generalize prB a0 a1 a2 len3 S3 = okf at hS hI
  generalize prS a0 a1 a2 len3 S3 = tx at hS hI
  have hfl : (okf != okf) = false := by simp
  have hbq := ba_beq tx
  clear bm3
  clear bl3 b03
  go_enter Try.func8, Try.ntmps8
  go_wp2_with fail
  refine (hz3 _ hM3).mono ?_
  rintro e w' ⟨rfl, hw⟩
  obtain rfl := hw.symm
  clear hw hz3 hM3
  go_wp2_with fail
  refine Calls.mono (toT_any _ len3 cap3 S3 _ A3.1 bn3) ?_
  rintro e v1 ⟨rfl, o1, b1⟩
  have p3 := OwnT.row o1
  have t1 := (World.ownsRow.lt o1 _ rfl).2
  clear o1
  have s1 := b1.size
  replace A3 := A3.below b1
  have cum := b1
  have cumS := cum.size
  clear b1
  go_wp2_with fail
  refine Calls.mono (hS _ _ p3.at) ?_
  rintro e v2 ⟨rfl, b2⟩
  have s2 := b2.size
  replace A3 := A3.below b2
  replace p3 := p3.below b2
  replace cum := below2 cum b2
  replace cumS := cum.size
  clear b2
  clear p3
  go_wp2_with fail
  refine Calls.mono (toT_any _ len3 cap3 S3 _ A3.1 bn3) ?_
  rintro e v3 ⟨rfl, o3, b3⟩
  have x3 := OwnT.row o3
  have t3 := (World.ownsRow.lt o3 _ rfl).2
  clear o3
  have s3 := b3.size
  replace A3 := A3.below b3
  replace cum := below2 cum b3
  replace cumS := cum.size
  clear b3
  go_wp2_with fail
  refine Calls.mono (hI _ _ x3.at) ?_
  rintro e v4 ⟨rfl, b4⟩
  have s4 := b4.size
  replace A3 := A3.below b4
  replace x3 := x3.below b4
  replace cum := below2 cum b4
  replace cumS := cum.size
  clear b4
  go_wp2_with fail
  refine Calls.mono (toT_any _ len3 cap3 S3 _ A3.1 bn3) ?_
  rintro e v5 ⟨rfl, o5, b5⟩
  have y3 := OwnT.row o5
  have t5 := (World.ownsRow.lt o5 _ rfl).2
  clear o5
  have s5 := b5.size
  replace A3 := A3.below b5
  replace x3 := x3.below b5
  replace cum := below2 cum b5
  replace cumS := cum.size
  clear b5
  go_wp2_with fail
  refine Calls.mono (eqT_same _ _ _ _ _ _ _ x3.at y3.at bn3) ?_
  rintro e v6 ⟨rfl, b6⟩
  have s6 := b6.size
  replace A3 := A3.below b6
  replace x3 := x3.below b6
  replace y3 := y3.below b6
  replace cum := below2 cum b6
  replace cumS := cum.size
  clear b6
  clear y3
  go_wp2
  go_ret
  exact ⟨rfl, cum⟩
end Go.Proofs.Ytlnpjpdphhpomaa
namespace Go.Proofs.Ytlnpjpdphhpomaa.fnExactProofRoot
open Go.ChangeShapes Go.WideShapes Go.ChangeAt Go.RowKit
open Go.ChangeMaps (open_string shut_string)
set_option linter.unusedVariables false
theorem own : ownKnob Try.prog.godebug = none := by kernel_rfl
theorem laidOut : laidOutB Try.prog = true := by kernel_rfl
set_option maxRecDepth 100000 in
theorem lifted (os : Os) (started : os.Started) (H : Type) (enc : TypeId × Value → H) :
    ReturnsInHanded {} Try.checked os 8 .any (Rows.fnExactProofRootSpec.pre6 enc Try.prog Try.f8 Rows.fnExactProofRootRow.domain false) (Rows.fnExactProofRootSpec.post enc Try.prog Try.f8 false true false false) := by
  refine returnsInHanded_of_change (C := Try.checked) own started (by kernel_rfl) Try.func8
    (ChangeSpec.witness6 (enc := enc) (C := Try.checked) false ⟨#[], #[.string ByteArray.empty, .int .i64 0, .int .i64 0, .slice none 0 0], []⟩ 8 (by kernel_rfl) (by kernel_rfl) (by kernel_rfl) (by kernel_rfl)) ?_
  intro W base args ds gs before hval0 hW hcnd _
  have hval : ∀ (j : Nat) t v, Try.f8.params[j]? = some t → args[j]? = some v → Value.okWide Try.prog W .any base t v := hval0
  have hW' := hW
  obtain ⟨p, q, hA0, hV, rfl, hfz, hnd⟩ := hW
  have hA : DataW.TrodAll enc Try.prog W 0 (fun _ => true) true Try.f8.params.toList args.toList ds p := hA0
  rw [Try.params8] at hA hval
  obtain ⟨v0, vs0, d0, ds0, p0, q0, hargs, rfl, rfl, h0, r0⟩ := trodAll_cons hA
  obtain ⟨v1, vs1, d1, ds1, p1, q1, rfl, rfl, rfl, h1, r1⟩ := trodAll_cons r0
  obtain ⟨v2, vs2, d2, ds2, p2, q2, rfl, rfl, rfl, h2, r2⟩ := trodAll_cons r1
  obtain ⟨v3, vs3, d3, ds3, p3, q3, rfl, rfl, rfl, h3, r3⟩ := trodAll_cons r2
  obtain ⟨rfl, rfl, rfl⟩ := trodAll_nil r3
  obtain rfl : args = #[v0, v1, v2, v3] := by cases args; simp_all
  obtain ⟨rfl, rfl⟩ := trodVars_none hV
  obtain ⟨a0, rfl, rfl, rfl, w0⟩ := open_string Try.underlying9 (hval 0 9 v0 rfl rfl) h0
  obtain ⟨a1, rfl, rfl, rfl, w1⟩ := open_int Try.underlying3 (hval 1 3 v1 rfl rfl) h1
  obtain ⟨a2, rfl, rfl, rfl, w2⟩ := open_int Try.underlying3 (hval 2 3 v2 rfl rfl) h2
  obtain ⟨a3, len3, cap3, rfl⟩ := okWide_slice Try.underlying24 (hval 3 24 v3 rfl rfl)
  have k3 := h3
  have lt3 : ∀ x ∈ p3, x.block < W.heap.size := by obtain ⟨m, hm⟩ := k3; exact DataW.trod_lt m _ _ _ hm
  obtain ⟨S3, w3⟩ : ∃ S, IsTxt W a3 len3 S := by
    obtain ⟨fuel, hf⟩ := h3
    rcases Go.Deep.open_strs Try.underlying24 Try.underlying9 (by kernel_rfl) hf with ⟨hcs, _⟩ | ⟨x, l, c, m, Sx, hcs, _, hl, hm, hmm, _, hcell⟩
    · simp [Value.cells] at hcs
      obtain ⟨rfl, rfl, rfl⟩ := hcs
      exact ⟨fun _ => ByteArray.empty, fun i hi => absurd hi (Nat.not_lt_zero _), Nat.zero_le _, fun i hi => absurd hi (Nat.not_lt_zero _)⟩
    · simp [Value.cells] at hcs
      obtain ⟨rfl, rfl, rfl⟩ := hcs
      exact ⟨Sx, isTxt_of hl hm (by rw [hmm]; split <;> omega) hcell⟩
  clear hA0 hval0
  refine (walk_FnExactProofRoot a0 a1 a2 a3 len3 cap3 S3 W w0 w1 w2 w3).mono fun e W' ⟨he, bel⟩ => ?_
  subst he
  exact ⟨_, rfl, _, _, _, [], _, [], hW', trodAll_mk1 (shut_bool Try.underlying4 _), (trodAll_cons_mk (shut_string Try.underlying9 w0) (trodAll_cons_mk (shut_int Try.underlying3 w1) (trodAll_cons_mk (shut_int Try.underlying3 w2) (trodAll_cons_mk (Below.trod laidOut (by kernel_rfl) (of_decide_eq_true (by kernel_rfl)) k3 bel lt3) trodAll_mk0)))), rfl, bel.frame _, fun h => by cases h⟩
theorem over : Rows.fnExactProofRootRow.holds Try.pinned (OpenSpec.ofChange Rows.fnExactProofRootSpec) :=
  OpenClaim.holds_of_wide 8 Try.f8 rfl rfl rfl rfl rfl rfl rfl ⟨rfl, rfl, rfl, rfl, rfl⟩ rfl rfl rfl rfl rfl (by kernel_rfl) Try.func8 (by kernel_rfl)
    (of_decide_eq_true (by kernel_rfl)) (by unfold Func.isWrapper; first | (rw [if_pos (by decide +kernel)]; kernel_rfl) | (rw [if_neg (by decide +kernel)]; exact ⟨rfl, rfl⟩))
    (fun os started H enc _ => lifted os started H enc)
theorem proved : Rows.FnExactProofRootSaid := over
#print axioms proved
end Go.Proofs.Ytlnpjpdphhpomaa.fnExactProofRoot
