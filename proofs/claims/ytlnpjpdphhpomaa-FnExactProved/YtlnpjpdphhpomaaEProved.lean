/- For every input: the function Proved of the program answers as its model does, whatever its arguments are, leaves them as they were. No condition. -/
import Derived.Test.YtlnpjpdphhpomaaTProved
import Derived.Test.YtlnpjpdphhpomaaTMarkB
namespace Go.Proofs.Ytlnpjpdphhpomaa
set_option maxRecDepth 2000
open Go.ChangeShapes Go.WideShapes Go.ChangeAt Go.RowKit
set_option maxRecDepth 100000 in
set_option maxHeartbeats 4000000 in
theorem walk_FnExactProved (a0 : ByteArray) (a1 : ByteArray) (a2 : Int) (a3 : Int) (a4 : Option Addr) (len4 cap4 : Nat) (S4 : Nat → ByteArray) (w : World) (_w0 : a0.size ≤ maxLen) (_w1 : a1.size ≤ maxLen) (_w2 : (Lit.int .i64 a2).wf = true) (_w3 : (Lit.int .i64 a3).wf = true) (w4 : IsTxt w a4 len4 S4) :
    Calls Try.prog 9 #[.string a0, .string a1, .int .i64 a2, .int .i64 a3, .slice a4 len4 cap4] w fun e w' => e = .returned (.bool true) ∧ Below w.heap.size w w' := by
  clear _w0 _w1 _w2 _w3
  by_cases h0 : 1048576 < a0.size
  case pos =>
    have h0' : (1048576 : Int) < (a0.size : Int) := by omega
    clear w4
    go_enter Try.func9, Try.ntmps9
    go_wp2
    go_ret
    exact ⟨rfl, Below.refl _ _⟩
  have h0' : ¬ (1048576 : Int) < (a0.size : Int) := by omega
  by_cases h1 : 1048576 < a1.size
  case pos =>
    have h1' : (1048576 : Int) < (a1.size : Int) := by omega
    clear w4
    go_enter Try.func9, Try.ntmps9
    go_wp2
    go_ret
    exact ⟨rfl, Below.refl _ _⟩
  have h1' : ¬ (1048576 : Int) < (a1.size : Int) := by omega
  have hM4 := w4.1
  have hn4 := w4.2.1
  have hl4 := w4.2.2
  clear w4
  have hz4 := fun w h => szT_any a4 len4 cap4 S4 1048576 w h (by omega) hn4 hl4
  by_cases h4 : len4 + tot (fun i => (S4 i).size) len4 ≤ 1048576
  case neg =>
    have e4 : szF (fun i => (S4 i).size) len4 1048576 = -1 := by unfold szF; rw [if_neg h4]
    rw [e4] at hz4
    go_enter Try.func9, Try.ntmps9
    go_wp2_with fail
    refine (hz4 _ hM4).mono ?_
    rintro e w' ⟨rfl, hw⟩
    obtain rfl := hw.symm
    go_wp2
    go_ret
    exact ⟨rfl, Below.refl _ _⟩
  obtain ⟨left4, hleft4⟩ : ∃ q, 1048576 - (len4 + tot (fun i => (S4 i).size) len4) = q := ⟨_, rfl⟩
  have e4 : szF (fun i => (S4 i).size) len4 1048576 = (left4 : Int) := by unfold szF; rw [if_pos h4, hleft4]
  rw [e4] at hz4
  have neg4 : ¬ ((left4 : Int) < 0) := by omega
  have bn4 : len4 ≤ 1048576 := by omega
  have bl4 : ∀ i, i < len4 → (S4 i).size ≤ 1048576 := fun i hi => by have := tot_le (fun i => (S4 i).size) hi; omega
  have b04 : 0 < len4 → (S4 0).size ≤ 1048576 := fun h => bl4 0 h
  have A4 := hM4.arg
  clear e4 h4 hleft4 hn4 hl4
  have bm4 : ∀ i, i < len4 → (S4 i).size ≤ maxLen := fun i hi => by have := bl4 i hi; unfold maxLen; omega
  have hS := fun a w h => sProved_any a0 a1 a2 a3 a len4 len4 S4 w h bn4 bm4
  have hI := fun a w h => proved_any a0 a1 a2 a3 a len4 len4 S4 w h bn4 bm4
  generalize pvB a0 a1 a2 a3 len4 S4 = okf at hS hI
  have hfl : (okf != okf) = false := by simp
  clear bm4
  clear bl4 b04
  go_enter Try.func9, Try.ntmps9
  go_wp2_with fail
  refine (hz4 _ hM4).mono ?_
  rintro e w' ⟨rfl, hw⟩
  obtain rfl := hw.symm
  clear hw hz4 hM4
  go_wp2_with fail
  refine Calls.mono (toT_any _ len4 cap4 S4 _ A4.1 bn4) ?_
  rintro e v1 ⟨rfl, o1, b1⟩
  have p4 := OwnT.row o1
  have t1 := (World.ownsRow.lt o1 _ rfl).2
  clear o1
  have s1 := b1.size
  replace A4 := A4.below b1
  have cum := b1
  have cumS := cum.size
  clear b1
  go_wp2_with fail
  refine Calls.mono (hS _ _ p4.at) ?_
  rintro e v2 ⟨rfl, b2⟩
  have s2 := b2.size
  replace A4 := A4.below b2
  replace p4 := p4.below b2
  replace cum := below2 cum b2
  replace cumS := cum.size
  clear b2
  clear p4
  go_wp2_with fail
  refine Calls.mono (toT_any _ len4 cap4 S4 _ A4.1 bn4) ?_
  rintro e v3 ⟨rfl, o3, b3⟩
  have x4 := OwnT.row o3
  have t3 := (World.ownsRow.lt o3 _ rfl).2
  clear o3
  have s3 := b3.size
  replace A4 := A4.below b3
  replace cum := below2 cum b3
  replace cumS := cum.size
  clear b3
  go_wp2_with fail
  refine Calls.mono (hI _ _ x4.at) ?_
  rintro e v4 ⟨rfl, b4⟩
  have s4 := b4.size
  replace A4 := A4.below b4
  replace x4 := x4.below b4
  replace cum := below2 cum b4
  replace cumS := cum.size
  clear b4
  go_wp2_with fail
  refine Calls.mono (toT_any _ len4 cap4 S4 _ A4.1 bn4) ?_
  rintro e v5 ⟨rfl, o5, b5⟩
  have y4 := OwnT.row o5
  have t5 := (World.ownsRow.lt o5 _ rfl).2
  clear o5
  have s5 := b5.size
  replace A4 := A4.below b5
  replace x4 := x4.below b5
  replace cum := below2 cum b5
  replace cumS := cum.size
  clear b5
  go_wp2_with fail
  refine Calls.mono (eqT_same _ _ _ _ _ _ _ x4.at y4.at bn4) ?_
  rintro e v6 ⟨rfl, b6⟩
  have s6 := b6.size
  replace A4 := A4.below b6
  replace x4 := x4.below b6
  replace y4 := y4.below b6
  replace cum := below2 cum b6
  replace cumS := cum.size
  clear b6
  clear y4
  go_wp2
  go_ret
  exact ⟨rfl, cum⟩
end Go.Proofs.Ytlnpjpdphhpomaa
namespace Go.Proofs.Ytlnpjpdphhpomaa.fnExactProved
open Go.ChangeShapes Go.WideShapes Go.ChangeAt Go.RowKit
open Go.ChangeMaps (open_string shut_string)
set_option linter.unusedVariables false
theorem own : ownKnob Try.prog.godebug = none := by kernel_rfl
theorem laidOut : laidOutB Try.prog = true := by kernel_rfl
set_option maxRecDepth 100000 in
theorem lifted (os : Os) (started : os.Started) (H : Type) (enc : TypeId × Value → H) :
    ReturnsInHanded {} Try.checked os 9 .any (Rows.fnExactProvedSpec.pre6 enc Try.prog Try.f9 Rows.fnExactProvedRow.domain false) (Rows.fnExactProvedSpec.post enc Try.prog Try.f9 false true false false) := by
  refine returnsInHanded_of_change (C := Try.checked) own started (by kernel_rfl) Try.func9
    (ChangeSpec.witness6 (enc := enc) (C := Try.checked) false ⟨#[], #[.string ByteArray.empty, .string ByteArray.empty, .int .i64 0, .int .i64 0, .slice none 0 0], []⟩ 8 (by kernel_rfl) (by kernel_rfl) (by kernel_rfl) (by kernel_rfl)) ?_
  intro W base args ds gs before hval0 hW hcnd _
  have hval : ∀ (j : Nat) t v, Try.f9.params[j]? = some t → args[j]? = some v → Value.okWide Try.prog W .any base t v := hval0
  have hW' := hW
  obtain ⟨p, q, hA0, hV, rfl, hfz, hnd⟩ := hW
  have hA : DataW.TrodAll enc Try.prog W 0 (fun _ => true) true Try.f9.params.toList args.toList ds p := hA0
  rw [Try.params9] at hA hval
  obtain ⟨v0, vs0, d0, ds0, p0, q0, hargs, rfl, rfl, h0, r0⟩ := trodAll_cons hA
  obtain ⟨v1, vs1, d1, ds1, p1, q1, rfl, rfl, rfl, h1, r1⟩ := trodAll_cons r0
  obtain ⟨v2, vs2, d2, ds2, p2, q2, rfl, rfl, rfl, h2, r2⟩ := trodAll_cons r1
  obtain ⟨v3, vs3, d3, ds3, p3, q3, rfl, rfl, rfl, h3, r3⟩ := trodAll_cons r2
  obtain ⟨v4, vs4, d4, ds4, p4, q4, rfl, rfl, rfl, h4, r4⟩ := trodAll_cons r3
  obtain ⟨rfl, rfl, rfl⟩ := trodAll_nil r4
  obtain rfl : args = #[v0, v1, v2, v3, v4] := by cases args; simp_all
  obtain ⟨rfl, rfl⟩ := trodVars_none hV
  obtain ⟨a0, rfl, rfl, rfl, w0⟩ := open_string Try.underlying9 (hval 0 9 v0 rfl rfl) h0
  obtain ⟨a1, rfl, rfl, rfl, w1⟩ := open_string Try.underlying9 (hval 1 9 v1 rfl rfl) h1
  obtain ⟨a2, rfl, rfl, rfl, w2⟩ := open_int Try.underlying3 (hval 2 3 v2 rfl rfl) h2
  obtain ⟨a3, rfl, rfl, rfl, w3⟩ := open_int Try.underlying3 (hval 3 3 v3 rfl rfl) h3
  obtain ⟨a4, len4, cap4, rfl⟩ := okWide_slice Try.underlying24 (hval 4 24 v4 rfl rfl)
  have k4 := h4
  have lt4 : ∀ x ∈ p4, x.block < W.heap.size := by obtain ⟨m, hm⟩ := k4; exact DataW.trod_lt m _ _ _ hm
  obtain ⟨S4, w4⟩ : ∃ S, IsTxt W a4 len4 S := by
    obtain ⟨fuel, hf⟩ := h4
    rcases Go.Deep.open_strs Try.underlying24 Try.underlying9 (by kernel_rfl) hf with ⟨hcs, _⟩ | ⟨x, l, c, m, Sx, hcs, _, hl, hm, hmm, _, hcell⟩
    · simp [Value.cells] at hcs
      obtain ⟨rfl, rfl, rfl⟩ := hcs
      exact ⟨fun _ => ByteArray.empty, fun i hi => absurd hi (Nat.not_lt_zero _), Nat.zero_le _, fun i hi => absurd hi (Nat.not_lt_zero _)⟩
    · simp [Value.cells] at hcs
      obtain ⟨rfl, rfl, rfl⟩ := hcs
      exact ⟨Sx, isTxt_of hl hm (by rw [hmm]; split <;> omega) hcell⟩
  clear hA0 hval0
  refine (walk_FnExactProved a0 a1 a2 a3 a4 len4 cap4 S4 W w0 w1 w2 w3 w4).mono fun e W' ⟨he, bel⟩ => ?_
  subst he
  exact ⟨_, rfl, _, _, _, [], _, [], hW', trodAll_mk1 (shut_bool Try.underlying4 _), (trodAll_cons_mk (shut_string Try.underlying9 w0) (trodAll_cons_mk (shut_string Try.underlying9 w1) (trodAll_cons_mk (shut_int Try.underlying3 w2) (trodAll_cons_mk (shut_int Try.underlying3 w3) (trodAll_cons_mk (Below.trod laidOut (by kernel_rfl) (of_decide_eq_true (by kernel_rfl)) k4 bel lt4) trodAll_mk0))))), rfl, bel.frame _, fun h => by cases h⟩
theorem over : Rows.fnExactProvedRow.holds Try.pinned (OpenSpec.ofChange Rows.fnExactProvedSpec) :=
  OpenClaim.holds_of_wide 9 Try.f9 rfl rfl rfl rfl rfl rfl rfl ⟨rfl, rfl, rfl, rfl, rfl⟩ rfl rfl rfl rfl rfl (by kernel_rfl) Try.func9 (by kernel_rfl)
    (of_decide_eq_true (by kernel_rfl)) (by unfold Func.isWrapper; first | (rw [if_pos (by decide +kernel)]; kernel_rfl) | (rw [if_neg (by decide +kernel)]; exact ⟨rfl, rfl⟩))
    (fun os started H enc _ => lifted os started H enc)
theorem proved : Rows.FnExactProvedSaid := over
#print axioms proved
end Go.Proofs.Ytlnpjpdphhpomaa.fnExactProved
