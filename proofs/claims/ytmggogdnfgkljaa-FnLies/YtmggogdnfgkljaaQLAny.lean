/- For every input: any k bodies of a text, at places that differ, lead back to the text and to all its bodies, and all of them agree. No condition. -/
import Derived.Test.YtmggogdnfgkljaaK11
namespace Go.Proofs.Ytmggogdnfgkljaa
open Go.ChangeShapes Go.WideShapes Go.ChangeAt Go.RowKit

theorem OwnT.cap {w : World} {B : Nat} {a : Option Addr} {n cap : Nat} {S : Nat → ByteArray} (h : OwnT w B a n cap S) : n ≤ cap ∧ cap ≤ maxLen := by
  rcases h.2 with ⟨h', h0⟩ | ⟨g, cap', cur, h', _, _, hn, hm, _⟩
  · cases h'; exact ⟨Nat.le_refl _, Nat.zero_le _⟩
  · cases h'; exact ⟨hn, hm⟩
theorem bdR_is {k n : Int} {zs : List Int} {nb : Nat} {S : Nat → ByteArray} (h : Rgt k n zs nb S) : bdR k n zs nb S = n.toNat := by unfold bdR; rw [if_pos (rgt_yes h)]
set_option maxRecDepth 100000 in
set_option maxHeartbeats 8000000 in
theorem walk_FnAny (a0 : Option Addr) (len0 cap0 : Nat) (z0 : List Int) (w : World) (w0 : IsRow .u8 w a0 len0 cap0 z0) :
    Calls Try.prog 6 #[.slice a0 len0 cap0] w fun e w' => e = .returned (.bool true) ∧ Below w.heap.size w w' := by
  obtain ⟨i0, hi, hz0, hz1, hz2⟩ := info_parts Try.infoStr
  by_cases h0 : 1048576 < len0
  · clear w0
    have h0' : (1048576 : Int) < (len0 : Int) := by omega
    go_enter Try.func6, Try.ntmps6
    go_wp2_with (go_at_call 14; refine (big_any _ _ _ _).mono ?_; rintro e w' ⟨rfl, rfl⟩)
    go_ret
    exact ⟨rfl, Below.refl _ _⟩
  have hc := w0.code (by omega)
  clear w0
  have h0' : ¬ (1048576 : Int) < (len0 : Int) := by omega
  go_enter Try.func6, Try.ntmps6
  go_wp2_with fail
  refine (big_any _ _ _ _).mono ?_
  rintro e w' ⟨rfl, hw⟩
  obtain rfl := hw.symm
  go_wp2_with fail
  refine (drawKept_any _ _ _ _ hc).mono ?_
  rintro e v1 ⟨s, k, n, G, c, zs, rfl, hs60, ⟨hk1, hkn, hn16⟩, hzl, ZP, hdf, cum⟩
  clear hc hw
  have kp : Kept s k n zs := ⟨by omega, hk1, hkn, hn16, hzl, hdf⟩
  have hok : encOk s (k : Int) (n : Int) = true := by unfold encOk; rw [sprOk_of hk1 hkn hn16]; simp; omega
  have hR : encR s (k : Int) (n : Int) = n := by unfold encR; rw [if_pos hok]; simp
  obtain ⟨z, hz⟩ : ∃ z, s.size = z := ⟨_, rfl⟩
  have hB := fun w => bodyLen_any (z : Int) (k : Int) w
  rw [blI_yes (by omega) hk1 (by omega)] at hB
  obtain ⟨l, hl⟩ : ∃ l, blen z k = l := ⟨_, rfl⟩
  rw [hl] at hB
  have hlb : 1 ≤ l ∧ l ≤ 1000 := by
    have h1 := blen_pos (s := z) hk1
    have h2 := blen_le (s := z) hk1
    omega
  have KSI : Hid (∀ i, (encS s k i).size = l) := fun i => by rw [encS_size, hz, hl]
  have KEI : Hid (∀ w, Calls Try.prog 35 #[.string s, .int .i64 (k : Int), .int .i64 (n : Int)] w fun e w' => ∃ v, e = .returned (.tuple #[v, .bool true]) ∧ ResT w w' v n (encS s k) ∧ Below w.heap.size w w') := fun w => by
    have := encode_any s (k : Int) (n : Int) w (by omega)
    rw [hok, hR, Int.toNat_natCast] at this
    exact this
  have KES : Hid (∀ w, Calls Try.prog 36 #[.string s, .int .i64 (k : Int), .int .i64 (n : Int)] w fun e w' => ∃ v, e = .returned (.tuple #[v, .bool true]) ∧ ResT w w' v n (encS s k) ∧ Below w.heap.size w w') := fun w => by
    have := sEncode_any s (k : Int) (n : Int) w (by omega)
    rw [hok, hR, Int.toNat_natCast] at this
    exact this
  have KDE : Hid (∀ w g cc, IntsAt w (some ⟨G, 0, none⟩) k zs → TxtAt w (some ⟨g, 0, none⟩) k (keptS s k zs) → Calls Try.prog 39 #[.int .i64 (k : Int), .int .i64 (n : Int), .slice (some ⟨G, 0, none⟩) k c, .slice (some ⟨g, 0, none⟩) k cc] w fun e w' => e = .returned (.tuple #[.string s, .bool true]) ∧ Below w.heap.size w w') := fun w g cc h1 h2 => by
    have := decode_any (k : Int) (n : Int) (some ⟨G, 0, none⟩) k c zs (some ⟨g, 0, none⟩) k cc (keptS s k zs) w h1 h2 (by omega) (by omega) (fun _ => by rw [Kept.size0, hz, hl]; omega)
    rw [kp.dec.1, kp.dec.2] at this
    exact this
  have KBO : Hid (∀ w g cc, IntsAt w (some ⟨G, 0, none⟩) k zs → TxtAt w (some ⟨g, 0, none⟩) k (keptS s k zs) → Calls Try.prog 40 #[.int .i64 (k : Int), .int .i64 (n : Int), .slice (some ⟨G, 0, none⟩) k c, .slice (some ⟨g, 0, none⟩) k cc] w fun e w' => ∃ v, e = .returned (.tuple #[v, .bool true]) ∧ ResT w w' v n (encS s k) ∧ Below w.heap.size w w') := fun w g cc h1 h2 => by
    have := bodies_any (k : Int) (n : Int) (some ⟨G, 0, none⟩) k c zs (some ⟨g, 0, none⟩) k cc (keptS s k zs) w h1 h2 (by omega) (by omega) (fun _ => by rw [Kept.size0, hz, hl]; omega)
    rw [rgt_yes kp.rgt, bdR_is kp.rgt, Int.toNat_natCast] at this
    refine Calls.mono this ?_
    rintro e w' ⟨v, he, hR, hb⟩
    exact ⟨v, he, ResT.congr hR (fun i _ => kp.all i), hb⟩
  have KAG : Hid (∀ w a ca, TxtAt w a n (encS s k) → n ≤ ca → ca ≤ maxLen → Calls Try.prog 41 #[.int .i64 (k : Int), .int .i64 (n : Int), .slice a n ca] w fun e w' => e = .returned (.bool true) ∧ Below w.heap.size w w') := fun w a ca h1 h2 h3 => by
    have := agree_any (k : Int) (n : Int) a n ca (encS s k) w h1 h2 h3 (by omega) (fun _ => by rw [encS_size, hz, hl]; omega)
    rw [agr_yes (enc_agr (by omega) hk1 hkn hn16)] at this
    exact this
  have KPT : Hid (∀ q, q < k → ∃ P : Nat, zs.getD q 0 = (P : Int) ∧ P < n ∧ keptS s k zs q = encS s k P) := fun q hq => by
    have h1 := hdf.at (i := q) (by omega)
    refine ⟨(zs.getD q 0).toNat, by omega, by omega, rfl⟩
  have hbs := ba_beq s
  have hnn : ((n : Int) != (n : Int)) = false := by simp
  have hll : ((l : Int) != (l : Int)) = false := by simp
  clear hok hR hl kp hdf hzl
  go_wp2_with fail
  refine Calls.mono (KEI.out _) ?_
  rintro e v2 ⟨u2, rfl, R2, b2⟩
  obtain ⟨aA, cA, rfl, A⟩ := R2
  have hcA := OwnT.cap A
  have AA : TxtAt v2 aA n (encS s k) := OwnT.at A
  replace ZP := ZP.below b2
  replace cum := below2 cum b2
  clear A b2 KEI
  go_wp2_with fail
  refine Calls.mono (KES.out _) ?_
  rintro e v3 ⟨u3, rfl, R3, b3⟩
  obtain ⟨aW, cW, rfl, W⟩ := R3
  have WW : TxtAt v3 aW n (encS s k) := OwnT.at W
  replace ZP := ZP.below b3
  replace AA := AA.below b3
  replace cum := below2 cum b3
  clear W b3 KES
  go_wp2_with fail
  refine Calls.mono (sameT_same _ _ _ _ _ _ _ AA WW (by omega)) ?_
  rintro e v4 ⟨rfl, b4⟩
  replace ZP := ZP.below b4
  replace AA := AA.below b4
  replace cum := below2 cum b4
  clear b4 WW
  have K0 : Hid (OwnT (v4.alloc (.cells #[] 9)) v4.heap.size (some ⟨v4.heap.size, 0, none⟩) 0 0 (keptS s k zs)) := litT v4 _
  obtain ⟨bA, oA, rfl, hcs⟩ := AA.some (by omega)
  have KAC : Hid (∀ i, i < n → v4.cell? ⟨bA, oA + i, none⟩ = some (.string (encS s k i))) := hcs
  have KZC : Hid (∀ q, q < k → v4.cell? ⟨G, q, none⟩ = some (.int .i64 (zs.getD q 0))) := fun q hq => by
    obtain ⟨b, off, e, hcc⟩ := ZP.2 q hq
    cases e
    rw [Nat.zero_add] at hcc
    exact hcc
  have KZP : Hid (IntsAt v4 (some ⟨G, 0, none⟩) k zs) := ZP
  have KAA : Hid (TxtAt v4 (some ⟨bA, oA, none⟩) n (encS s k)) := AA
  have KCU : Hid (Below w.heap.size w v4) := cum
  clear hcs ZP AA cum
  go_wp2
  go_loopw [11, 12] (fun v i wr => ∃ q g cc : Nat, q ≤ k ∧ i = .int .i64 (q : Int) ∧ v = .slice (some ⟨g, 0, none⟩) q cc ∧ OwnT wr v4.heap.size (some ⟨g, 0, none⟩) q cc (keptS s k zs) ∧ Below v4.heap.size v4 wr) (fun _ i _ => k - (intOf i).toNat)
  case atStart => exact ⟨0, _, _, Nat.zero_le _, rfl, rfl, K0.out, (Below.refl _ _).alloc (Nat.le_refl _) _⟩
  case round =>
    obtain ⟨q, g, cc, hq, rfl, rfl, hown, hbel⟩ := hrel
    clear K0
    by_cases hlt : q < k
    · have hqi : (q : Int) < (k : Int) := by omega
      have hqn : (q : Int) < (n : Int) := by omega
      obtain ⟨P, hP, hPn, hKP⟩ := KPT.out q hlt
      have hPi : (P : Int) < (n : Int) := by omega
      have hcq := (hbel.cell (p := ⟨bA, oA + q, none⟩) (block_lt_of_cell (KAC.out q (by omega)))).trans (KAC.out q (by omega))
      have hsq := KSI.out q
      obtain ⟨sq, esq⟩ : ∃ sq, encS s k q = sq := ⟨_, rfl⟩
      rw [esq] at hcq hsq
      clear esq
      go_wp2_with fail
      go_quiet ((go_at_call 38; exact Calls.quiet_of_same (hB _)))
      obtain ⟨wd, hwd⟩ : ∃ wd, wr.drewN nq = wd := ⟨_, rfl⟩
      have hbd : Below v4.heap.size v4 wd := hwd ▸ below_drewN hbel _
      have hod : OwnT wd v4.heap.size (some ⟨g, 0, none⟩) q cc (keptS s k zs) := hwd ▸ OwnT.below hown (below_drewN (Below.refl _ _) _)
      rw [hwd]
      clear hwd hcq hown hbel
      have hcz := (hbd.cell (p := ⟨G, q, none⟩) (block_lt_of_cell (KZC.out q hlt))).trans (KZC.out q hlt)
      rw [hP] at hcz
      have hcP := (hbd.cell (p := ⟨bA, oA + P, none⟩) (block_lt_of_cell (KAC.out P hPn))).trans (KAC.out P hPn)
      rw [← hKP] at hcP
      obtain ⟨sp, esp⟩ : ∃ sp, keptS s k zs q = sp := ⟨_, rfl⟩
      have KSP : Hid (keptS s k zs q = sp) := esp
      rw [esp] at hcP
      have hszd := hbd.size
      have hGl := (World.ownsRow.lt hod _ rfl).1
      clear esp hKP hP
      go_wp2_with (at_builtin; refine wpList_append_lies _ (by rfl) _ _ 44 (by rfl) v4.heap.size 9 i0 (.string ByteArray.empty) 1 16 Try.underlying44 hi hz0 hz1 hz2 rfl (by decide) (.slice (some ⟨g, 0, none⟩) q cc) q _ (by rfl) (World.ownsRow.alloc hod _) ⟨wd.heap.size, 0, none⟩ 1 1 [.string sp] (by rfl) (by rfl) (World.news_of_block (cs := #[.string sp]) (t := 9) (fr := (0, 0)) (heap_alloc_new wd _)) (by simp [Value.oneCell']) (by omega) (by unfold maxLen; omega) (by omega) (by simp; omega) (wd.heap.size + 1) (by simp) ?_; intro g2 cap3 w2 hown2 hgrow hat hltg)
      have HO : Hid (OwnT w2 v4.heap.size (some ⟨g2, 0, none⟩) (q + 1) cap3 (keptS s k zs)) := by
        show OwnT _ _ _ _ _ _
        unfold OwnT
        rw [sL_snoc, KSP.out]
        exact hown2
      have hb' : Below v4.heap.size v4 w2 := (hbd.alloc hszd _).grown (show World.grownBy _ w2 (some g) from hgrow) (by simp; omega) (fun j hj => by cases hj; exact hGl)
      clear hown2 hgrow hat hltg hod
      go_roundw
      case rel => exact ⟨q + 1, g2, cap3, by omega, by go_num, rfl, HO.out, hb'⟩
      case measure => simp [intOf] <;> omega
    · obtain rfl : q = k := by omega
      have KS : Hid (TxtAt wr (some ⟨g, 0, none⟩) q (keptS s q zs)) := OwnT.at hown
      have KZr : Hid (IntsAt wr (some ⟨G, 0, none⟩) q zs) := KZP.out.below hbel
      have KAr : Hid (TxtAt wr (some ⟨bA, oA, none⟩) n (encS s q)) := KAA.out.below hbel
      have KBr : Hid (Below w.heap.size w wr) := below2 KCU.out hbel
      clear hown hbel hi hz0 hz1 hz2 KAC KZC KZP KAA KCU KPT hB
      go_wp2_with fail
      refine Calls.mono (KDE.out _ _ _ KZr.out KS.out) ?_
      rintro e v5 ⟨rfl, b5⟩
      have KS5 : Hid (TxtAt v5 (some ⟨g, 0, none⟩) q (keptS s q zs)) := KS.out.below b5
      have KZ5 : Hid (IntsAt v5 (some ⟨G, 0, none⟩) q zs) := KZr.out.below b5
      have KA5 : Hid (TxtAt v5 (some ⟨bA, oA, none⟩) n (encS s q)) := KAr.out.below b5
      have KB5 : Hid (Below w.heap.size w v5) := below2 KBr.out b5
      clear b5 KS KZr KAr KBr KDE
      go_wp2_with fail
      refine Calls.mono (KBO.out _ _ _ KZ5.out KS5.out) ?_
      rintro e v6 ⟨u6, rfl, R6, b6⟩
      obtain ⟨aB, cB, rfl, B6⟩ := R6
      have KB6t : Hid (TxtAt v6 aB n (encS s q)) := OwnT.at B6
      have KA6 : Hid (TxtAt v6 (some ⟨bA, oA, none⟩) n (encS s q)) := KA5.out.below b6
      have KB6 : Hid (Below w.heap.size w v6) := below2 KB5.out b6
      clear b6 B6 KS5 KZ5 KA5 KB5 KBO
      go_wp2_with fail
      refine Calls.mono (sameT_same _ _ _ _ _ _ _ KB6t.out KA6.out (by omega)) ?_
      rintro e v7 ⟨rfl, b7⟩
      have KA7 : Hid (TxtAt v7 (some ⟨bA, oA, none⟩) n (encS s q)) := KA6.out.below b7
      have KB7 : Hid (Below w.heap.size w v7) := below2 KB6.out b7
      clear b7 KA6 KB6 KB6t
      go_wp2_with fail
      refine Calls.mono (KAG.out _ _ _ KA7.out hcA.1 hcA.2) ?_
      rintro e v8 ⟨rfl, b8⟩
      have KB8 : Hid (Below w.heap.size w v8) := below2 KB7.out b8
      clear b8 KA7 KB7 KAG
      go_wp2
      go_ret
      exact ⟨rfl, KB8.out⟩
end Go.Proofs.Ytmggogdnfgkljaa
namespace Go.Proofs.Ytmggogdnfgkljaa.fnAny
open Go.ChangeShapes Go.WideShapes Go.ChangeAt Go.RowKit
open Go.ChangeMaps (open_string shut_string)
set_option linter.unusedVariables false
theorem own : ownKnob Try.prog.godebug = none := by kernel_rfl
theorem laidOut : laidOutB Try.prog = true := by kernel_rfl
set_option maxRecDepth 100000 in
theorem lifted (os : Os) (started : os.Started) (H : Type) (enc : TypeId × Value → H) :
    ReturnsInHanded {} Try.checked os 6 .any (Rows.fnAnySpec.pre6 enc Try.prog Try.f6 Rows.fnAnyRow.domain false) (Rows.fnAnySpec.post enc Try.prog Try.f6 false true false false) := by
  refine returnsInHanded_of_change (C := Try.checked) own started (by kernel_rfl) Try.func6
    (ChangeSpec.witness6 (enc := enc) (C := Try.checked) false ⟨#[], #[.slice none 0 0], []⟩ 8 (by kernel_rfl) (by kernel_rfl) (by kernel_rfl) (by kernel_rfl)) ?_
  intro W base args ds gs before hval0 hW hcnd _
  have hval : ∀ (j : Nat) t v, Try.f6.params[j]? = some t → args[j]? = some v → Value.okWide Try.prog W .any base t v := hval0
  have hW' := hW
  obtain ⟨p, q, hA0, hV, rfl, hfz, hnd⟩ := hW
  have hA : DataW.TrodAll enc Try.prog W 0 (fun _ => true) true Try.f6.params.toList args.toList ds p := hA0
  rw [Try.params6] at hA hval
  obtain ⟨v0, vs0, d0, ds0, p0, q0, hargs, rfl, rfl, h0, r0⟩ := trodAll_cons hA
  obtain ⟨rfl, rfl, rfl⟩ := trodAll_nil r0
  obtain rfl : args = #[v0] := by cases args; simp_all
  obtain ⟨rfl, rfl⟩ := trodVars_none hV
  obtain ⟨a0, len0, cap0, rfl⟩ := okWide_slice Try.underlying22 (hval 0 22 v0 rfl rfl)
  have k0 := h0
  have lt0 : ∀ x ∈ p0, x.block < W.heap.size := by obtain ⟨m, hm⟩ := k0; exact DataW.trod_lt m _ _ _ hm
  obtain ⟨z0, w0⟩ : ∃ zs, IsRow .u8 W a0 len0 cap0 zs := by
    obtain ⟨fuel, hf⟩ := h0
    rcases open_ints Try.underlying22 Try.underlying5 (by kernel_rfl) hf with ⟨hcs, _⟩ | ⟨x, l, c, zs, hcs, _, hl, hm, hz, _, hcell, hwz⟩
    · simp [Value.cells] at hcs
      obtain ⟨rfl, rfl, rfl⟩ := hcs
      exact ⟨[], .inl ⟨rfl, rfl, rfl, rfl⟩⟩
    · simp [Value.cells] at hcs
      obtain ⟨rfl, rfl, rfl⟩ := hcs
      exact ⟨zs, .inr ⟨_, rfl, hl, hm, by simpa using hz, hcell, hwz⟩⟩
  clear hA0 hval0
  refine (walk_FnAny a0 len0 cap0 z0 W w0).mono fun e W' ⟨he, bel⟩ => ?_
  subst he
  exact ⟨_, rfl, _, _, _, [], _, [], hW', trodAll_mk1 (shut_bool Try.underlying4 _), (trodAll_cons_mk (Below.trod laidOut (by kernel_rfl) (of_decide_eq_true (by kernel_rfl)) k0 bel lt0) trodAll_mk0), rfl, bel.frame _, fun h => by cases h⟩
theorem over : Rows.fnAnyRow.holds Try.pinned (OpenSpec.ofChange Rows.fnAnySpec) :=
  OpenClaim.holds_of_wide 6 Try.f6 rfl rfl rfl rfl rfl rfl rfl ⟨rfl, rfl, rfl, rfl, rfl⟩ rfl rfl rfl rfl rfl (by kernel_rfl) Try.func6 (by kernel_rfl)
    (of_decide_eq_true (by kernel_rfl)) (by unfold Func.isWrapper; first | (rw [if_pos (by decide +kernel)]; kernel_rfl) | (rw [if_neg (by decide +kernel)]; exact ⟨rfl, rfl⟩))
    (fun os started H enc _ => lifted os started H enc)
theorem proved : Rows.FnAnySaid := over
#print axioms proved
end Go.Proofs.Ytmggogdnfgkljaa.fnAny
