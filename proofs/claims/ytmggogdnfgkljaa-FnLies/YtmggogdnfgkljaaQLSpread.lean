/- For every input: any k rows of a spread have an inverse and full rank, and the program's answers are the model's. No condition. -/
import Derived.Test.YtmggogdnfgkljaaQLTurned
import Derived.Test.YtmggogdnfgkljaaQMInvS
import Derived.Test.YtmggogdnfgkljaaQDrawR
import Derived.Test.YtmggogdnfgkljaaK3
namespace Go.Proofs.Ytmggogdnfgkljaa
open Go.ChangeShapes Go.WideShapes Go.ChangeAt Go.RowKit

/-- The rows of a spread at places that differ. -/
theorem spread_pick {n k : Nat} {zs : List Int} (h : Diff n zs) (hl : zs.length = k) (hk : 1 ≤ k) (hkn : k ≤ n) (hn : n ≤ 16) :
    pkOk n (fun _ => k) (fun i j => ((Gm.sprd k i j : Nat) : Int)) zs = true ∧ pkR n (fun _ => k) (fun i j => ((Gm.sprd k i j : Nat) : Int)) zs = k ∧
    InvOk k (fun _ => k) (fun i j => ((pkF (bZ n (fun _ => k) (fun i j => ((Gm.sprd k i j : Nat) : Int))) zs i j : Nat) : Int)) ∧
    (∀ i j, i < k → j < k → bZ k (fun _ => k) (fun i j => ((pkF (bZ n (fun _ => k) (fun i j => ((Gm.sprd k i j : Nat) : Int))) zs i j : Nat) : Int)) i j = Gm.sprd k ((zs.getD i 0).toNat) j) := by
  have ok1 : OkM n (fun _ => k) (fun i j => ((Gm.sprd k i j : Nat) : Int)) := okM_of (by omega) hn hk (by omega) (Gm.sprd_byt k)
  have pl : Places n zs := ⟨by omega, by omega, fun i hi => h.at hi⟩
  have h1 := pkOk_yes (zs := zs) ⟨ok1, pl⟩
  have hFb : Gm.Byt (pkF (bZ n (fun _ => k) (fun i j => ((Gm.sprd k i j : Nat) : Int))) zs) := fun i j => bZ_byt _ _ _ _ _
  have ok2 : OkM k (fun _ => k) (fun i j => ((pkF (bZ n (fun _ => k) (fun i j => ((Gm.sprd k i j : Nat) : Int))) zs i j : Nat) : Int)) := okM_of hk (by omega) hk (by omega) hFb
  have hb : ∀ i j, i < k → j < k → bZ k (fun _ => k) (fun i j => ((pkF (bZ n (fun _ => k) (fun i j => ((Gm.sprd k i j : Nat) : Int))) zs i j : Nat) : Int)) i j = Gm.sprd k ((zs.getD i 0).toNat) j := fun i j hi hj => by
    rw [bZ_at hi hj (hFb i j)]
    unfold pkF
    have := h.at (i := i) (by omega)
    exact bZ_at (by omega) hj (Gm.sprd_byt k _ _)
  refine ⟨h1, by unfold pkR; rw [if_pos h1]; exact hl, ⟨ok2, rfl, ?_⟩, hb⟩
  rw [rk_congr (bZ_byt _ _ _) (fun i j => Gm.sprd_byt k _ _) hb]
  exact pick_rk h hl (by omega) hkn
set_option maxRecDepth 100000 in
set_option maxHeartbeats 8000000 in
theorem walk_FnSpread (a0 : Option Addr) (len0 cap0 : Nat) (z0 : List Int) (w : World) (w0 : IsRow .u8 w a0 len0 cap0 z0) :
    Calls Try.prog 5 #[.slice a0 len0 cap0] w fun e w' => e = .returned (.bool true) ∧ Below w.heap.size w w' := by
  by_cases h0 : 1048576 < len0
  · clear w0
    have h0' : (1048576 : Int) < (len0 : Int) := by omega
    go_enter Try.func5, Try.ntmps5
    go_wp2_with (go_at_call 14; refine (big_any _ _ _ _).mono ?_; rintro e w' ⟨rfl, rfl⟩)
    go_ret
    exact ⟨rfl, Below.refl _ _⟩
  have hc := w0.code (by omega)
  clear w0
  have h0' : ¬ (1048576 : Int) < (len0 : Int) := by omega
  go_enter Try.func5, Try.ntmps5
  go_wp2_with fail
  refine (big_any _ _ _ _).mono ?_
  rintro e w' ⟨rfl, hw⟩
  obtain rfl := hw.symm
  go_wp2_with fail
  refine (drawRows_any _ _ _ _ hc).mono ?_
  rintro e v1 ⟨k, n, G, c, zs, rfl, ⟨hk1, hkn, hn16⟩, hzl, ZP, hdf, cum⟩
  have KC : Hid (CodeAt v1 a0 len0) := hc.below cum
  have KDF : Hid (Diff n zs) := hdf
  have KZL : Hid (zs.length = k) := hzl
  clear hc hw hdf hzl
  have hok : sprOk (k : Int) (n : Int) = true := by unfold sprOk side; simp; omega
  have hR : sprR (k : Int) (n : Int) = n := by unfold sprR; rw [if_pos hok]; simp
  have KSP : Hid (∀ w, Calls Try.prog 29 #[.int .i64 (k : Int), .int .i64 (n : Int)] w fun e w' => ∃ v, e = .returned (.tuple #[v, .bool true]) ∧ ResM w w' v n k (Gm.sprd k) ∧ Below w.heap.size w w') := fun w => by
    have := spread_any (k : Int) (n : Int) w
    rw [hok, hR, Int.toNat_natCast] at this
    exact this
  have KSS : Hid (∀ w, Calls Try.prog 30 #[.int .i64 (k : Int), .int .i64 (n : Int)] w fun e w' => ∃ v, e = .returned (.tuple #[v, .bool true]) ∧ ResM w w' v n k (Gm.sprd k) ∧ Below w.heap.size w w') := fun w => by
    have := sSpread_any (k : Int) (n : Int) w
    rw [hok, hR, Int.toNat_natCast] at this
    exact this
  clear hok hR
  go_wp2_with fail
  refine Calls.mono (KSP.out _) ?_
  rintro e v2 ⟨um, rfl, RM, b2⟩
  obtain ⟨am, cm, rfl, MM⟩ := RM.at
  replace ZP := ZP.below b2
  have KC2 : Hid (CodeAt v2 a0 len0) := KC.out.below b2
  replace cum := below2 cum b2
  clear RM b2 KC KSP
  go_wp2_with fail
  refine Calls.mono (KSS.out _) ?_
  rintro e v3 ⟨uw, rfl, RW, b3⟩
  obtain ⟨aw, cw, rfl, MW⟩ := RW.at
  replace ZP := ZP.below b3
  replace MM := MM.below b3
  have KC3 : Hid (CodeAt v3 a0 len0) := KC2.out.below b3
  replace cum := below2 cum b3
  clear RW b3 KC2 KSS
  obtain ⟨e1, e2, io, hbz⟩ := spread_pick KDF.out KZL.out hk1 hkn hn16
  have KPI : Hid (∀ w, MatAt w am n (fun _ => k) (fun i j => ((Gm.sprd k i j : Nat) : Int)) → IntsAt w (some ⟨G, 0, none⟩) k zs → Calls Try.prog 31 #[.slice am n cm, .slice (some ⟨G, 0, none⟩) k c] w fun e w' => ∃ v, e = .returned (.tuple #[v, .bool true]) ∧ ResM w w' v k k (pkF (bZ n (fun _ => k) (fun i j => ((Gm.sprd k i j : Nat) : Int))) zs) ∧ Below w.heap.size w w') := fun w h hz => by
    have := pickM_any am n cm (fun _ => k) (fun i j => ((Gm.sprd k i j : Nat) : Int)) (some ⟨G, 0, none⟩) k c zs w h hz (fun i _ => by omega) (by omega)
    rw [e1, e2] at this
    exact this
  have KPS : Hid (∀ w, MatAt w aw n (fun _ => k) (fun i j => ((Gm.sprd k i j : Nat) : Int)) → IntsAt w (some ⟨G, 0, none⟩) k zs → Calls Try.prog 32 #[.slice aw n cw, .slice (some ⟨G, 0, none⟩) k c] w fun e w' => ∃ v, e = .returned (.tuple #[v, .bool true]) ∧ ResM w w' v k k (pkF (bZ n (fun _ => k) (fun i j => ((Gm.sprd k i j : Nat) : Int))) zs) ∧ Below w.heap.size w w') := fun w h hz => by
    have := sPick_any aw n cw (fun _ => k) (fun i j => ((Gm.sprd k i j : Nat) : Int)) (some ⟨G, 0, none⟩) k c zs w h hz (fun i _ => by omega) (by omega)
    rw [e1, e2] at this
    exact this
  generalize hPF : pkF (bZ n (fun _ => k) (fun i j => ((Gm.sprd k i j : Nat) : Int))) zs = PF at io hbz KPI KPS
  have hrk : rankI k (fun _ => k) (fun i j => ((PF i j : Nat) : Int)) = (k : Int) := by
    unfold rankI
    rw [if_pos (okM_yes io.1)]
    show ((Gm.rk (bZ k (fun _ => k) (fun i j => ((PF i j : Nat) : Int))) k k : Nat) : Int) = (k : Int)
    rw [io.2.2]
  have KIN : Hid (∀ w a ca, MatAt w a k (fun _ => k) (fun i j => ((PF i j : Nat) : Int)) → Calls Try.prog 16 #[.slice a k ca] w fun e w' => ∃ v, e = .returned (.tuple #[v, .bool true]) ∧ Below w.heap.size w w') := fun w a ca h => by
    have := inv_any' a k ca (fun _ => k) (fun i j => ((PF i j : Nat) : Int)) w h (fun i _ => by omega)
    rw [ivOk_yes io] at this
    refine Calls.mono this ?_
    rintro e w' ⟨v, he, _, hb⟩
    exact ⟨v, he, hb⟩
  have KRK : Hid (∀ w a ca, MatAt w a k (fun _ => k) (fun i j => ((PF i j : Nat) : Int)) → Calls Try.prog 19 #[.slice a k ca] w fun e w' => e = .returned (.int .i64 (k : Int)) ∧ Below w.heap.size w w') := fun w a ca h => by
    have := rank_any a k ca (fun _ => k) (fun i j => ((PF i j : Nat) : Int)) w h (fun i _ => by omega)
    rw [hrk] at this
    exact this
  clear e1 e2 io hbz hPF hrk
  go_wp2_with fail
  refine Calls.mono (KPI.out _ MM ZP) ?_
  rintro e v4 ⟨ur, rfl, RR, b4⟩
  obtain ⟨ar, cr, rfl, MR⟩ := RR.at
  replace ZP := ZP.below b4
  replace MM := MM.below b4
  replace MW := MW.below b4
  have KC4 : Hid (CodeAt v4 a0 len0) := KC3.out.below b4
  replace cum := below2 cum b4
  clear RR b4 KC3 KPI
  go_wp2_with fail
  refine Calls.mono (KPS.out _ MW ZP) ?_
  rintro e v5 ⟨uq, rfl, RQ, b5⟩
  obtain ⟨aq, cq, rfl, MQ⟩ := RQ.at
  replace MM := MM.below b5
  replace MW := MW.below b5
  replace MR := MR.below b5
  have KC5 : Hid (CodeAt v5 a0 len0) := KC4.out.below b5
  replace cum := below2 cum b5
  clear RQ b5 KC4 KPS ZP
  go_wp2_with fail
  refine Calls.mono (KIN.out _ _ _ MR) ?_
  rintro e v6 ⟨ui, rfl, b6⟩
  replace MM := MM.below b6
  replace MW := MW.below b6
  replace MR := MR.below b6
  replace MQ := MQ.below b6
  have KC6 : Hid (CodeAt v6 a0 len0) := KC5.out.below b6
  replace cum := below2 cum b6
  clear b6 KC5 KIN
  go_wp2_with fail
  refine Calls.mono (drawSpread_any _ _ _ _ KC6.out) ?_
  rintro e v7 ⟨x, y, rfl, b7⟩
  replace MM := MM.below b7
  replace MW := MW.below b7
  replace MR := MR.below b7
  replace MQ := MQ.below b7
  replace cum := below2 cum b7
  clear b7 KC6
  obtain ⟨may, em⟩ : ∃ b, sprOk x y = b := ⟨_, rfl⟩
  have KM1 : Hid (∀ w, Calls Try.prog 29 #[.int .i64 x, .int .i64 y] w fun e w' => ∃ v, e = .returned (.tuple #[v, .bool may]) ∧ Below w.heap.size w w') := fun w => by
    have := spread_any x y w
    rw [em] at this
    refine Calls.mono this ?_
    rintro e w' ⟨v, he, _, hb⟩
    exact ⟨v, he, hb⟩
  have KM2 : Hid (∀ w, Calls Try.prog 30 #[.int .i64 x, .int .i64 y] w fun e w' => ∃ v, e = .returned (.tuple #[v, .bool may]) ∧ Below w.heap.size w w') := fun w => by
    have := sSpread_any x y w
    rw [em] at this
    refine Calls.mono this ?_
    rintro e w' ⟨v, he, _, hb⟩
    exact ⟨v, he, hb⟩
  have hmm : (may == may) = true := by simp
  clear em
  go_wp2_with fail
  refine Calls.mono (KM1.out _) ?_
  rintro e v8 ⟨us, rfl, b8⟩
  replace MM := MM.below b8
  replace MW := MW.below b8
  replace MR := MR.below b8
  replace MQ := MQ.below b8
  replace cum := below2 cum b8
  clear b8 KM1
  go_wp2_with fail
  refine Calls.mono (KM2.out _) ?_
  rintro e v9 ⟨ut, rfl, b9⟩
  replace MM := MM.below b9
  replace MW := MW.below b9
  replace MR := MR.below b9
  replace MQ := MQ.below b9
  replace cum := below2 cum b9
  clear b9 KM2
  go_wp2_with fail
  refine Calls.mono (sameRows_z _ _ _ _ _ _ _ _ MM MW (by omega) (fun i _ => by omega)) ?_
  rintro e v10 ⟨rfl, b10⟩
  replace MR := MR.below b10
  replace MQ := MQ.below b10
  replace cum := below2 cum b10
  clear b10 MM MW
  go_wp2_with fail
  refine Calls.mono (sameRows_z _ _ _ _ _ _ _ _ MR MQ (by omega) (fun i _ => by omega)) ?_
  rintro e v11 ⟨rfl, b11⟩
  replace MR := MR.below b11
  replace cum := below2 cum b11
  clear b11 MQ
  go_wp2_with fail
  refine Calls.mono (KRK.out _ _ _ MR) ?_
  rintro e v12 ⟨rfl, b12⟩
  replace cum := below2 cum b12
  clear b12 MR
  go_wp2
  go_ret
  exact ⟨rfl, cum⟩
end Go.Proofs.Ytmggogdnfgkljaa
namespace Go.Proofs.Ytmggogdnfgkljaa.fnSpread
open Go.ChangeShapes Go.WideShapes Go.ChangeAt Go.RowKit
open Go.ChangeMaps (open_string shut_string)
set_option linter.unusedVariables false
theorem own : ownKnob Try.prog.godebug = none := by kernel_rfl
theorem laidOut : laidOutB Try.prog = true := by kernel_rfl
set_option maxRecDepth 100000 in
theorem lifted (os : Os) (started : os.Started) (H : Type) (enc : TypeId × Value → H) :
    ReturnsInHanded {} Try.checked os 5 .any (Rows.fnSpreadSpec.pre6 enc Try.prog Try.f5 Rows.fnSpreadRow.domain false) (Rows.fnSpreadSpec.post enc Try.prog Try.f5 false true false false) := by
  refine returnsInHanded_of_change (C := Try.checked) own started (by kernel_rfl) Try.func5
    (ChangeSpec.witness6 (enc := enc) (C := Try.checked) false ⟨#[], #[.slice none 0 0], []⟩ 8 (by kernel_rfl) (by kernel_rfl) (by kernel_rfl) (by kernel_rfl)) ?_
  intro W base args ds gs before hval0 hW hcnd _
  have hval : ∀ (j : Nat) t v, Try.f5.params[j]? = some t → args[j]? = some v → Value.okWide Try.prog W .any base t v := hval0
  have hW' := hW
  obtain ⟨p, q, hA0, hV, rfl, hfz, hnd⟩ := hW
  have hA : DataW.TrodAll enc Try.prog W 0 (fun _ => true) true Try.f5.params.toList args.toList ds p := hA0
  rw [Try.params5] at hA hval
  obtain ⟨v0, vs0, d0, ds0, p0, q0, hargs, rfl, rfl, h0, r0⟩ := trodAll_cons hA
  obtain ⟨rfl, rfl, rfl⟩ := trodAll_nil r0
  obtain rfl : args = #[v0] := by cases args; simp_all
  obtain ⟨rfl, rfl⟩ := trodVars_none hV
  obtain ⟨a0, len0, cap0, rfl⟩ := okWide_slice Try.underlying22 (hval 0 22 v0 rfl rfl)
  have k0 := h0
  have lt0 : ∀ x ∈ p0, x.block < W.heap.size := by obtain ⟨m, hm⟩ := k0; exact DataW.trod_lt m _ _ _ hm
  obtain ⟨z0, w0⟩ : ∃ zs, IsRow .u8 W a0 len0 cap0 zs := by
    obtain ⟨fuel, hf⟩ := h0
    rcases open_ints Try.underlying22 Try.underlying5 (by kernel_rfl) hf with ⟨hcs, _⟩ | ⟨x, l, c, zs, hcs, _, hl, hm, hz, _, hcell, hwz⟩
    · simp [Value.cells] at hcs
      obtain ⟨rfl, rfl, rfl⟩ := hcs
      exact ⟨[], .inl ⟨rfl, rfl, rfl, rfl⟩⟩
    · simp [Value.cells] at hcs
      obtain ⟨rfl, rfl, rfl⟩ := hcs
      exact ⟨zs, .inr ⟨_, rfl, hl, hm, by simpa using hz, hcell, hwz⟩⟩
  clear hA0 hval0
  refine (walk_FnSpread a0 len0 cap0 z0 W w0).mono fun e W' ⟨he, bel⟩ => ?_
  subst he
  exact ⟨_, rfl, _, _, _, [], _, [], hW', trodAll_mk1 (shut_bool Try.underlying4 _), (trodAll_cons_mk (Below.trod laidOut (by kernel_rfl) (of_decide_eq_true (by kernel_rfl)) k0 bel lt0) trodAll_mk0), rfl, bel.frame _, fun h => by cases h⟩
theorem over : Rows.fnSpreadRow.holds Try.pinned (OpenSpec.ofChange Rows.fnSpreadSpec) :=
  OpenClaim.holds_of_wide 5 Try.f5 rfl rfl rfl rfl rfl rfl rfl ⟨rfl, rfl, rfl, rfl, rfl⟩ rfl rfl rfl rfl rfl (by kernel_rfl) Try.func5 (by kernel_rfl)
    (of_decide_eq_true (by kernel_rfl)) (by unfold Func.isWrapper; first | (rw [if_pos (by decide +kernel)]; kernel_rfl) | (rw [if_neg (by decide +kernel)]; exact ⟨rfl, rfl⟩))
    (fun os started H enc _ => lifted os started H enc)
theorem proved : Rows.FnSpreadSaid := over
#print axioms proved
end Go.Proofs.Ytmggogdnfgkljaa.fnSpread
