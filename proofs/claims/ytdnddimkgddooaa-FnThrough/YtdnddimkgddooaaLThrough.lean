/- For every input: a polynomial goes through its places and is no longer than there are; of one that is as short as that it is itself; the program's answers are the model's. No condition. -/
import Derived.Test.YtdnddimkgddooaaDrawI
import Derived.Test.YtdnddimkgddooaaPMath
import Derived.Test.YtdnddimkgddooaaPInterT
namespace Go.Proofs.Ytdnddimkgddooaa
open Go.ChangeShapes Go.WideShapes Go.ChangeAt Go.RowKit

theorem OwnI.sight {w : World} {B : Nat} {v : Value} {zs : List Int} (h : OwnI w B v zs) : ∃ a cap, v = .slice a zs.length cap ∧ IntsAt w a zs.length zs := by
  obtain ⟨a, cap, e, hi, _⟩ := h.view
  exact ⟨a, cap, e, hi⟩
theorem ints_drew {w : World} {a : Option Addr} {n : Nat} {zs : List Int} (h : IntsAt w a n zs) : IntsAt w.drew a n zs := h
/-- The values of a polynomial at the first places. -/
def vsL (qs xs : List Int) (k : Nat) : List Int := (List.range k).map fun i => atP qs (xs.getD i 0)
theorem vsL_len (qs xs : List Int) (k : Nat) : (vsL qs xs k).length = k := by simp [vsL]
theorem vsL_get (qs xs : List Int) (k i : Nat) (h : i < k) : (vsL qs xs k).getD i 0 = atP qs (xs.getD i 0) := by simp [vsL, List.getD, h]
theorem vsL_snoc (qs xs : List Int) (k : Nat) : vsL qs xs (k + 1) = vsL qs xs k ++ [atP qs (xs.getD k 0)] := by
  unfold vsL
  rw [List.range_succ, List.map_append]
  rfl
theorem ints_far {w w' : World} {b n g : Nat} {zs : List Int} (h : IntsAt w (some ⟨b, 0, none⟩) n zs) (hg : w.grownBy w' (some g)) (hb : 0 < n → b ≠ g) : IntsAt w' (some ⟨b, 0, none⟩) n zs := by
  by_cases h0 : 0 < n
  · exact ints_grown h hg (hb h0)
  · exact ⟨h.1, fun i hi => by omega⟩
theorem cellD {w : World} {b n k : Nat} {zs : List Int} (h : IntsAt w (some ⟨b, 0, none⟩) n zs) (hk : k < n) : w.cell? ⟨b, k, none⟩ = some (.int .i64 (zs.getD k 0)) := by
  obtain ⟨b', off, e, hc⟩ := h.2 k hk
  cases e
  rw [Nat.zero_add] at hc
  exact hc

set_option maxRecDepth 100000 in
set_option maxHeartbeats 8000000 in
theorem walk_FnThrough (a0 : Option Addr) (len0 cap0 : Nat) (z0 : List Int) (w : World) (w0 : IsRow .u8 w a0 len0 cap0 z0) :
    Calls Try.prog 4 #[.slice a0 len0 cap0] w fun e w' => e = .returned (.bool true) ∧ Below w.heap.size w w' := by
  by_cases h0 : 1048576 < len0
  · clear w0
    have h0' : (1048576 : Int) < (len0 : Int) := by omega
    go_enter Try.func4, Try.ntmps4
    go_wp2_with (go_at_call 12; refine (big_any _ _ _ _).mono ?_; rintro e w' ⟨rfl, rfl⟩)
    go_ret
    exact ⟨rfl, Below.refl _ _⟩
  · have hc := w0.code (by omega)
    clear w0
    have h0' : ¬ (1048576 : Int) < (len0 : Int) := by omega
    obtain ⟨i0, hi, hz0, hz1, hz2⟩ := info_parts Try.infoInt
    go_enter Try.func4, Try.ntmps4
    go_wp2_with fail
    refine (big_any _ _ _ _).mono ?_
    rintro e w' ⟨rfl, hw⟩
    obtain rfl := hw.symm
    clear hw
    go_wp2_with fail
    refine (drawInter_any _ _ _ _ hc).mono ?_
    rintro e v1 ⟨g1, c1, n, g2, c2, m, xs, ys, rfl, hn, hm, A, B, cum⟩
    replace hc := hc.below cum
    have hPl := interP_len xs ys
    have HLa : Hid (xs.length = n) := A.1
    have HLb : Hid (ys.length = m) := B.1
    have hF := fun a b n m ca cb w ha hb hn hm => inter_any a b n m ca cb xs ys w ha hb hn hm
    have hS := fun a b n m ca cb w ha hb hn hm => sInter_any a b n m ca cb xs ys w ha hb hn hm
    have h1 := fun h => interP_false (xs := xs) (ys := ys) h
    have h2 := fun h => through (xs := xs) (ys := ys) h
    have h3 := fun h => interP_true (xs := xs) (ys := ys) h
    have h4 := fun h qs vs => again (xs := xs) (ys := ys) (qs := qs) (vs := vs) h
    obtain ⟨L, eL⟩ : ∃ L, (interP xs ys).1 = L := ⟨_, rfl⟩
    obtain ⟨fl, eF⟩ : ∃ L, (interP xs ys).2 = L := ⟨_, rfl⟩
    simp only [eL, eF] at hF hS h1 h2 h3 h4 hPl
    have KF : Hid _ := hF
    have KS : Hid _ := hS
    have K1 : Hid _ := h1
    have K2 : Hid _ := h2
    have K3 : Hid _ := h3
    have K4 : Hid _ := h4
    clear hF hS h1 h2 h3 h4 eL eF
    have nA : n ≤ 1048576 := by omega
    have nB : m ≤ 1048576 := by omega
    have ffl : (fl != fl) = false := by simp
    go_wp2_with fail
    refine (KF.out _ _ _ _ _ _ _ A B nA nB).mono ?_
    rintro e v2 ⟨p1, rfl, op, b2⟩
    obtain ⟨aP, cP, rfl, Pv⟩ := op.sight
    replace A := A.below b2
    replace B := B.below b2
    replace hc := hc.below b2
    replace cum := below2 cum b2
    clear op b2
    go_wp2_with fail
    refine (KS.out _ _ _ _ _ _ _ A B nA nB).mono ?_
    rintro e v3 ⟨p2, rfl, op, b3⟩
    obtain ⟨aW, cW, rfl, Wv⟩ := op.sight
    replace A := A.below b3
    replace B := B.below b3
    replace hc := hc.below b3
    replace Pv := Pv.below b3
    replace cum := below2 cum b3
    clear op b3
    go_wp2_with fail
    refine (same_any _ _ _ _ _ L _ Pv Wv hPl).mono ?_
    rintro e v4 ⟨rfl, b4⟩
    replace A := A.below b4
    replace B := B.below b4
    replace hc := hc.below b4
    replace Pv := Pv.below b4
    replace cum := below2 cum b4
    clear Wv b4
    cases fl
    · obtain rfl := K1.out (by first | rfl | trivial)
      clear KF KS K1 K2 K3 K4 A B Pv hc HLa HLb
      go_wp2
      go_ret
      exact ⟨rfl, cum⟩
    · obtain ⟨t1, t2, t3⟩ := K2.out (by first | rfl | trivial)
      have hnm : n = m := by
        have := (K3.out (by first | rfl | trivial)).1
        rw [HLa.out, HLb.out] at this
        exact this
      subst hnm
      rw [HLa.out] at t2 t3
      have T3 : Hid _ := t3
      have K5 : Hid (∀ qs : List Int, okB qs = true → qs.length ≤ n → interP xs (vsL qs xs n) = (qs, true)) := fun qs hq hl => K4.out (by first | rfl | trivial) qs (vsL qs xs n) hq (by rw [HLa.out]; exact hl) (by rw [vsL_len, HLa.out]) (fun i hi => vsL_get _ _ _ _ (by rw [HLa.out] at hi; exact hi))
      have H0 : Hid _ := And.intro hc (And.intro A (And.intro B (And.intro Pv cum)))
      clear t3 KF KS K1 K2 K3 K4 A B Pv hc cum HLa HLb
      go_wp2
      go_loopw [9] (fun i wr => ∃ k : Nat, k ≤ n ∧ i = .int .i64 k ∧ CodeAt wr a0 len0 ∧ IntsAt wr (some ⟨g1, 0, none⟩) n xs ∧ IntsAt wr (some ⟨g2, 0, none⟩) n ys ∧ IntsAt wr aP L.length L ∧ Below w.heap.size w wr) (fun i _ => n - (intOf i).toNat)
      case atStart => exact ⟨0, Nat.zero_le _, rfl, H0.out⟩
      case round =>
        obtain ⟨k, hk, rfl, hc, A, B, Pv, cum⟩ := hrel
        clear H0
        by_cases hlt : k < n
        · have hltI : (k : Int) < (n : Int) := by omega
          have hcx := cellD A hlt
          have hcy := cellD B hlt
          have hxy := T3.out k hlt
          generalize xs.getD k 0 = x at hcx hxy
          generalize ys.getD k 0 = y at hcy hxy
          have HC : Hid _ := And.intro hc (And.intro A (And.intro B (And.intro Pv cum)))
          have HP : Hid (IntsAt wr.drew aP L.length L) := ints_drew Pv
          clear A B hc cum Pv T3 K5
          go_wp2_with fail
          go_region_with ((go_at_call 25; refine (polyAt_any _ _ _ L x _ HP.out hPl).mono ?_; rintro e w5 ⟨rfl, hb5'⟩; have hb5 := below_of_drew hb5'; clear hb5'; have hcy5 := (hb5.cell (p := ⟨g2, k, none⟩) (block_lt_of_cell hcy)).trans hcy))
          all_goals
            obtain ⟨q1, q2, q3, q4, q5⟩ := HC.out
            have HD : Hid _ := And.intro (q1.below hb5) (And.intro (q2.below hb5) (And.intro (q3.below hb5) (And.intro (q4.below hb5) (below2 q5 hb5))))
            clear q1 q2 q3 q4 q5 hb5 HC HP
            go_wp2
            go_roundw
            case rel => exact ⟨k + 1, by omega, by go_num, HD.out⟩
            case measure => simp [intOf] <;> omega
        · obtain rfl : k = n := by omega
          clear T3 B
          go_wp2_with fail
          refine (drawPAdd_any _ _ _ _ hc).mono ?_
          rintro e v5 ⟨g3, c3, m3, g4, c4, m4, qs, us, rfl, hm3, _, Qv, _, b5⟩
          replace A := A.below b5
          replace Pv := Pv.below b5
          replace cum := below2 cum b5
          have HLq : Hid (qs.length = m3) := Qv.1
          clear hc b5
          have hOk := sOk_any _ m3 c3 qs v5 Qv (by omega)
          have hPk := ok_any aP L.length cP L v5 Pv hPl
          rw [t1] at hPk
          have t2I : (L.length : Int) ≤ (k : Int) := by omega
          by_cases hq : okB qs = true
          · rw [hq] at hOk
            by_cases hle : m3 ≤ k
            · have hleI : ¬ (k : Int) < (m3 : Int) := by omega
              have e5 := K5.out qs hq (by rw [HLq.out]; exact hle)
              have hIn := fun a b n m ca cb w ha hb hn hm => inter_any a b n m ca cb xs (vsL qs xs k) w ha hb hn hm
              simp only [e5] at hIn
              have KIn : Hid _ := hIn
              have H0 : Hid _ := And.intro ((World.ownsRow_lit (base := w.heap.size) (e := 3) (size := 1) v5 #[] 0 cum.size (by unfold maxLen; omega) rfl : (v5.alloc (.cells #[] 3)).ownsRow w.heap.size 3 1 (.slice (some ⟨v5.heap.size, 0, none⟩) 0 0) 0 ((vsL qs xs 0).map (Value.int .i64)))) (And.intro (A.below ((Below.refl _ _).alloc (Nat.le_refl _) (.cells #[] 3))) (And.intro (Qv.below ((Below.refl _ _).alloc (Nat.le_refl _) (.cells #[] 3))) (cum.alloc cum.size (.cells #[] 3))))
              have hg1s : 0 < k → g1 < v5.heap.size := fun h => block_lt_of_cell (cellD A h)
              have hg3s : 0 < m3 → g3 < v5.heap.size := fun h => block_lt_of_cell (cellD Qv h)
              clear hIn e5 K5 hPk Pv A Qv cum
              go_wp2_with fail
              refine hOk.mono ?_
              rintro e w' ⟨rfl, hw⟩
              obtain rfl := hw.symm
              clear hOk hw
              go_wp2
              simp only [show (decide (k < m3)) = false from decide_eq_false (by omega)]
              go_loopw [12, 13] (fun v i wr => ∃ c gg cap2 : Nat, c ≤ k ∧ i = .int .i64 c ∧ v = .slice (some ⟨gg, 0, none⟩) c cap2 ∧ wr.ownsRow w.heap.size 3 1 (.slice (some ⟨gg, 0, none⟩) c cap2) c ((vsL qs xs c).map (Value.int .i64)) ∧ IntsAt wr (some ⟨g1, 0, none⟩) k xs ∧ IntsAt wr (some ⟨g3, 0, none⟩) m3 qs ∧ (0 < k → g1 ≠ gg) ∧ (0 < m3 → g3 ≠ gg) ∧ Below w.heap.size w wr) (fun _ i _ => k - (intOf i).toNat)
              case atStart => exact ⟨0, _, _, Nat.zero_le _, rfl, rfl, H0.out.1, H0.out.2.1, H0.out.2.2.1, (fun h => by have := hg1s h; omega), (fun h => by have := hg3s h; omega), H0.out.2.2.2⟩
              case round =>
                obtain ⟨c, gg, cap2, hcn, rfl, rfl, hown, A, Qv, hg1n, hg3n, cum⟩ := hrel
                clear H0
                by_cases hlt2 : c < k
                · have hlt2I : (c : Int) < (k : Int) := by omega
                  have hcx := cellD A hlt2
                  have HE : Hid (vsL qs xs (c + 1) = vsL qs xs c ++ [atP qs (xs.getD c 0)]) := vsL_snoc qs xs c
                  generalize xs.getD c 0 = x at hcx HE
                  go_wp2_with fail
                  refine (polyAt_any _ _ _ qs x _ Qv (by omega)).mono ?_
                  rintro e w6 ⟨rfl, b6⟩
                  replace A := A.below b6
                  replace Qv := Qv.below b6
                  replace cum := below2 cum b6
                  have hown6 := ownsRow_below hown b6
                  have hgg := (hown6.lt gg rfl).1
                  have hsz := cum.size
                  clear hown b6 hcx
                  generalize atP qs x = V at *
                  go_wp2_with (at_builtin; refine wpList_append_lies _ (by rfl) _ _ 24 (by rfl) w.heap.size 3 i0 (.int .i64 0) 1 8 Try.underlying24 hi hz0 hz1 hz2 rfl (by decide) (.slice (some ⟨gg, 0, none⟩) c cap2) c _ (by rfl) (hown6.alloc _) ⟨w6.heap.size, 0, none⟩ 1 1 [.int .i64 V] (by rfl) (by rfl) (World.news_of_block (cs := #[.int .i64 V]) (t := 3) (fr := (0, 0)) (heap_alloc_new w6 _)) (by simp [Value.oneCell']) (by omega) (by unfold maxLen; omega) (by omega) (by simp; omega) (w6.heap.size + 1) (by simp) ?_; intro g5 cap3 w7 hown2 hgrow hat hltg)
                  have hgrow' : (w6.alloc (.cells #[.int .i64 V] 3)).grownBy w7 (some gg) := hgrow
                  have hb7 : Below w.heap.size w w7 := (cum.alloc hsz _).grown hgrow' (by simp; omega) (fun j hj => by cases hj; exact hgg)
                  have HO : Hid (w7.ownsRow w.heap.size 3 1 (.slice (some ⟨g5, 0, none⟩) (c + 1) cap3) (c + 1) ((vsL qs xs (c + 1)).map (Value.int .i64))) := by
                    rw [HE.out, List.map_append]
                    exact hown2
                  have hA7 : IntsAt w7 (some ⟨g1, 0, none⟩) k xs := by
                    have h1 := A.below ((Below.refl w6.heap.size w6).alloc (Nat.le_refl _) (.cells #[.int .i64 V] 3))
                    exact ints_far h1 hgrow' hg1n
                  have hQ7 : IntsAt w7 (some ⟨g3, 0, none⟩) m3 qs := by
                    have h1 := Qv.below ((Below.refl w6.heap.size w6).alloc (Nat.le_refl _) (.cells #[.int .i64 V] 3))
                    exact ints_far h1 hgrow' hg3n
                  have HR : Hid _ := And.intro hA7 (And.intro hQ7 hb7)
                  have hB7 := (hown2.lt g5 rfl).1
                  have hg1w : 0 < k → g1 < w6.heap.size := fun h => block_lt_of_cell (cellD A h)
                  have hg3w : 0 < m3 → g3 < w6.heap.size := fun h => block_lt_of_cell (cellD Qv h)
                  have hg5n : (0 < k → g1 ≠ g5) ∧ (0 < m3 → g3 ≠ g5) := by
                    rcases hat with e | e
                    · cases e; exact ⟨hg1n, hg3n⟩
                    · exact ⟨fun h => by have := hg1w h; omega, fun h => by have := hg3w h; omega⟩
                  have HN5 : Hid _ := hg5n
                  clear hown2 hgrow hgrow' hat hltg hown6 A Qv cum hb7 hA7 hQ7 HE hg1w hg3w hg5n hg1n hg3n
                  go_roundw
                  case rel => exact ⟨c + 1, g5, cap3, by omega, by go_num, rfl, HO.out, HR.out.1, HR.out.2.1, HN5.out.1, HN5.out.2, HR.out.2.2⟩
                  case measure => simp [intOf] <;> omega
                · obtain rfl : c = k := by omega
                  have Vv := ownsRow.ints hown
                  clear hown
                  go_wp2_with fail
                  refine (KIn.out _ _ _ _ _ _ _ A Vv nA nA).mono ?_
                  rintro e v7 ⟨p3, rfl, op, b7⟩
                  obtain ⟨aG, cG, rfl, Gv⟩ := op.sight
                  replace Qv := Qv.below b7
                  replace cum := below2 cum b7
                  rw [HLq.out] at Gv
                  simp only [HLq.out]
                  clear op b7 A Vv KIn
                  go_wp2_with fail
                  refine (same_any _ _ _ _ _ qs _ Gv Qv (by omega)).mono ?_
                  rintro e v8 ⟨rfl, b8⟩
                  replace cum := below2 cum b8
                  clear Gv Qv b8
                  go_wp2
                  go_ret
                  exact ⟨rfl, cum⟩
            · have hleI : (k : Int) < (m3 : Int) := by omega
              have HPk : Hid _ := hPk
              clear A Qv Pv K5 hPk
              go_wp2_with fail
              refine hOk.mono ?_
              rintro e w' ⟨rfl, hw⟩
              obtain rfl := hw.symm
              clear hOk hw
              go_wp2_with fail
              refine Calls.mono HPk.out ?_
              rintro e v6 ⟨rfl, b6⟩
              replace cum := below2 cum b6
              clear HPk b6
              go_wp2
              go_ret
              exact ⟨rfl, cum⟩
          · have hq' : okB qs = false := by simpa using hq
            rw [hq'] at hOk
            have HPk : Hid _ := hPk
            clear A Qv Pv K5 hPk
            go_wp2_with fail
            refine hOk.mono ?_
            rintro e w' ⟨rfl, hw⟩
            obtain rfl := hw.symm
            clear hOk hw
            go_wp2_with fail
            refine Calls.mono HPk.out ?_
            rintro e v6 ⟨rfl, b6⟩
            replace cum := below2 cum b6
            clear HPk b6
            go_wp2
            go_ret
            exact ⟨rfl, cum⟩
end Go.Proofs.Ytdnddimkgddooaa
namespace Go.Proofs.Ytdnddimkgddooaa.fnThrough
open Go.ChangeShapes Go.WideShapes Go.ChangeAt Go.RowKit
open Go.ChangeMaps (open_string shut_string)
set_option linter.unusedVariables false
theorem own : ownKnob Try.prog.godebug = none := by kernel_rfl
theorem laidOut : laidOutB Try.prog = true := by kernel_rfl
set_option maxRecDepth 100000 in
theorem lifted (os : Os) (started : os.Started) (H : Type) (enc : TypeId × Value → H) :
    ReturnsInHanded {} Try.checked os 4 .any (Rows.fnThroughSpec.pre6 enc Try.prog Try.f4 Rows.fnThroughRow.domain false) (Rows.fnThroughSpec.post enc Try.prog Try.f4 false true false false) := by
  refine returnsInHanded_of_change (C := Try.checked) own started (by kernel_rfl) Try.func4
    (ChangeSpec.witness6 (enc := enc) (C := Try.checked) false ⟨#[], #[.slice none 0 0], []⟩ 8 (by kernel_rfl) (by kernel_rfl) (by kernel_rfl) (by kernel_rfl)) ?_
  intro W base args ds gs before hval0 hW hcnd _
  have hval : ∀ (j : Nat) t v, Try.f4.params[j]? = some t → args[j]? = some v → Value.okWide Try.prog W .any base t v := hval0
  have hW' := hW
  obtain ⟨p, q, hA0, hV, rfl, hfz, hnd⟩ := hW
  have hA : DataW.TrodAll enc Try.prog W 0 (fun _ => true) true Try.f4.params.toList args.toList ds p := hA0
  rw [Try.params4] at hA hval
  obtain ⟨v0, vs0, d0, ds0, p0, q0, hargs, rfl, rfl, h0, r0⟩ := trodAll_cons hA
  obtain ⟨rfl, rfl, rfl⟩ := trodAll_nil r0
  obtain rfl : args = #[v0] := by cases args; simp_all
  obtain ⟨rfl, rfl⟩ := trodVars_none hV
  obtain ⟨a0, len0, cap0, rfl⟩ := okWide_slice Try.underlying22 (hval 0 22 v0 rfl rfl)
  have k0 := h0
  have lt0 : ∀ x ∈ p0, x.block < W.heap.size := by obtain ⟨m, hm⟩ := k0; exact DataW.trod_lt m _ _ _ hm
  obtain ⟨z0, w0⟩ : ∃ zs, IsRow .u8 W a0 len0 cap0 zs := by
    obtain ⟨fuel, hf⟩ := h0
    rcases open_ints Try.underlying22 Try.underlying5 (by kernel_rfl) hf with ⟨hcs, _⟩ | ⟨x, l, c, zs, hcs, _, hl, hm, hz, _, hcell, hwz⟩
    · simp [Value.cells] at hcs
      obtain ⟨rfl, rfl, rfl⟩ := hcs
      exact ⟨[], .inl ⟨rfl, rfl, rfl, rfl⟩⟩
    · simp [Value.cells] at hcs
      obtain ⟨rfl, rfl, rfl⟩ := hcs
      exact ⟨zs, .inr ⟨_, rfl, hl, hm, by simpa using hz, hcell, hwz⟩⟩
  clear hA0 hval0
  refine (walk_FnThrough a0 len0 cap0 z0 W w0).mono fun e W' ⟨he, bel⟩ => ?_
  subst he
  exact ⟨_, rfl, _, _, _, [], _, [], hW', trodAll_mk1 (shut_bool Try.underlying4 _), (trodAll_cons_mk (Below.trod laidOut (by kernel_rfl) (of_decide_eq_true (by kernel_rfl)) k0 bel lt0) trodAll_mk0), rfl, bel.frame _, fun h => by cases h⟩
theorem over : Rows.fnThroughRow.holds Try.pinned (OpenSpec.ofChange Rows.fnThroughSpec) :=
  OpenClaim.holds_of_wide 4 Try.f4 rfl rfl rfl rfl rfl rfl rfl ⟨rfl, rfl, rfl, rfl, rfl⟩ rfl rfl rfl rfl rfl (by kernel_rfl) Try.func4 (by kernel_rfl)
    (of_decide_eq_true (by kernel_rfl)) (by unfold Func.isWrapper; first | (rw [if_pos (by decide +kernel)]; kernel_rfl) | (rw [if_neg (by decide +kernel)]; exact ⟨rfl, rfl⟩))
    (fun os started H enc _ => lifted os started H enc)
theorem proved : Rows.FnThroughSaid := over
#print axioms proved
end Go.Proofs.Ytdnddimkgddooaa.fnThrough
