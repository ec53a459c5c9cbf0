/- For every input: the function ArchiveOk of the program answers as its model does, whatever its archive is, and leaves it as it was. No condition. -/
import Derived.Test.YtpomffkpjldloaaGreatI44
import Derived.Test.YtpomffkpjldloaaGreatRows
namespace Go.Proofs.YtpomffkpjldloaaGreat.fnExactArchiveOk
open Go.ChangeShapes Go.WideShapes Go.ChangeAt Go.RowKit
open Go.ChangeMaps (open_string shut_string)
set_option linter.unusedVariables false
theorem own : ownKnob Tryz.prog.godebug = none := by kernel_rfl
theorem laidOut : laidOutB Tryz.prog = true := by kernel_rfl
set_option maxRecDepth 100000 in
theorem lifted (os : Os) (started : os.Started) (H : Type) (enc : TypeId × Value → H) :
    ReturnsInHanded {} Tryz.checked os 3 .any (Rows.fnExactArchiveOkSpec.pre6 enc Tryz.prog Tryz.f3 Rows.fnExactArchiveOkRow.domain false) (Rows.fnExactArchiveOkSpec.post enc Tryz.prog Tryz.f3 false true false false) := by
  refine returnsInHanded_of_change (C := Tryz.checked) own started (by kernel_rfl) Tryz.func3
    (ChangeSpec.witness6 (enc := enc) (C := Tryz.checked) false ⟨#[], #[.agg #[.int .i64 0, .slice none 0 0, .slice none 0 0, .slice none 0 0, .slice none 0 0, .slice none 0 0]], []⟩ 8 (by kernel_rfl) (by kernel_rfl) (by kernel_rfl) (by kernel_rfl)) ?_
  intro W base args ds gs before hval0 hW hcnd _
  have hval : ∀ (j : Nat) t v, Tryz.f3.params[j]? = some t → args[j]? = some v → Value.okWide Tryz.prog W .any base t v := hval0
  have hW' := hW
  obtain ⟨p, q, hA0, hV, rfl, hfz, hnd⟩ := hW
  have hA : DataW.TrodAll enc Tryz.prog W 0 (fun _ => true) true Tryz.f3.params.toList args.toList ds p := hA0
  rw [Tryz.params3] at hA hval
  obtain ⟨v0, vs0, d0, ds0, p0, q0, hargs, rfl, rfl, h0, r0⟩ := trodAll_cons hA
  obtain ⟨rfl, rfl, rfl⟩ := trodAll_nil r0
  obtain rfl : args = #[v0] := by cases args; simp_all
  obtain ⟨rfl, rfl⟩ := trodVars_none hV
  obtain ⟨cs0, rfl, _, _⟩ : ∃ cs, v0 = .agg cs ∧ cs.size = Tryz.prog.cellsOf 30 ∧ Row.okWide Tryz.prog W .any base 30 cs := by
    have := hval 0 30 v0 rfl rfl
    simpa [Value.okWide, Tryz.underlying30] using this
  have k0 := h0
  have lt0 : ∀ x ∈ p0, x.block < W.heap.size := by obtain ⟨m, hm⟩ := k0; exact DataW.trod_lt m _ _ _ hm
  obtain ⟨r0f, r0a, r0n, r0c, r0l, r0z, r0d, r0e, r0m, r0g, r0N, r0Y, r0x, r0j, r0k, r0E, r0y, r0p, r0q, r0M, hcs0, w0⟩ : ∃ (f : Int) (a : Option Addr) (n c : Nat) (l : Option Addr) (zs : List Int) (d : Nat) (e : Option Addr) (m g : Nat) (N : Nat → Nd) (Y : Nat → Sy) (x : Option Addr) (ne cx : Nat) (E : Nat → En) (y : Option Addr) (nm cy : Nat) (M : Nat → Ma), cs0.toList = [.int .i64 f, .slice a n c, .slice l zs.length d, .slice e m g, .slice x ne cx, .slice y nm cy] ∧ ArcA W a n c l zs e m g N Y x ne cx E y nm cy M := by
    obtain ⟨fuel, hf⟩ := h0
    exact open_archive (by simpa [Value.cells] using hf)
  obtain ⟨l0⟩ := cs0
  obtain rfl : l0 = _ := hcs0
  clear hA0 hval0
  refine (walk_FnExactArchiveOk r0f r0a r0n r0c r0l r0z r0d r0e r0m r0g r0N r0Y r0x r0j r0k r0E r0y r0p r0q r0M W w0).mono fun e W' ⟨he, bel⟩ => ?_
  subst he
  exact ⟨_, rfl, _, _, _, [], _, [], hW', trodAll_mk1 (shut_bool Tryz.underlying4 _), (trodAll_cons_mk (Below.trod laidOut (by kernel_rfl) (of_decide_eq_true (by kernel_rfl)) k0 bel lt0) trodAll_mk0), rfl, bel.frame _, fun h => by cases h⟩
theorem over : Rows.fnExactArchiveOkRow.holds Tryz.pinned (OpenSpec.ofChange Rows.fnExactArchiveOkSpec) :=
  OpenClaim.holds_of_wide 3 Tryz.f3 rfl rfl rfl rfl rfl rfl rfl ⟨rfl, rfl, rfl, rfl, rfl⟩ rfl rfl rfl rfl rfl (by kernel_rfl) Tryz.func3 (by kernel_rfl)
    (of_decide_eq_true (by kernel_rfl)) (by unfold Func.isWrapper; first | (rw [if_pos (by decide +kernel)]; kernel_rfl) | (rw [if_neg (by decide +kernel)]; exact ⟨rfl, rfl⟩))
    (fun os started H enc _ => lifted os started H enc)
theorem proved : Rows.FnExactArchiveOkSaid := over
#print axioms proved
end Go.Proofs.YtpomffkpjldloaaGreat.fnExactArchiveOk
