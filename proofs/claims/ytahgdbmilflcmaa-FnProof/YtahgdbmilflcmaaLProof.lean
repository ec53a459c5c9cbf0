/- For every input: each leaf's proof leads to the root, at its own place, is as long as it should be and no longer than six texts, and a shorter one proves nothing; the program answers as its model does. No condition. -/
import Derived.Test.YtahgdbmilflcmaaDrawTp
import Derived.Test.YtahgdbmilflcmaaTProved
namespace Go.Proofs.Ytahgdbmilflcmaa
set_option maxRecDepth 2000
open Go.ChangeShapes Go.WideShapes Go.ChangeAt Go.RowKit

theorem OwnT.cap' {w : World} {B : Nat} {a : Option Addr} {n cap : Nat} {S : Nat → ByteArray} (h : OwnT w B a n cap S) : n ≤ cap ∧ cap ≤ maxLen := by
  rcases h.2 with ⟨h', h0⟩ | ⟨g, cap', cur, h', _, _, hn, hm, _⟩
  · cases h'; exact ⟨Nat.le_refl _, Nat.zero_le _⟩
  · cases h'; exact ⟨hn, hm⟩
theorem pv_true {m q : Nat} {S : Nat → ByteArray} (h : pfB m S (q : Int) = true) : pvB (rtS m S) (S q) (q : Int) (m : Int) (pfR m S (q : Int)) (pfF m S (q : Int)) = true := by
  obtain ⟨h1, h2⟩ := pfB_parts h
  obtain ⟨hm1, hm64, h16⟩ := lvB_parts h1
  have hq : q < m := by simp [inT] at h2; omega
  have hR : pfR m S (q : Int) = Gt.pl q m := by unfold pfR; rw [if_pos h]; simp
  have hk : (((Gt.pl q m : Nat) : Int)) = plI (q : Int) (m : Int) := by unfold plI; rw [if_pos h2]; simp
  have hF : pfF m S (q : Int) = Gt.pf m S q := rfl
  have hB : prB (S q) (q : Int) (m : Int) (Gt.pl q m) (Gt.pf m S q) = true := by
    unfold prB
    rw [Bool.and_eq_true, Bool.and_eq_true]
    exact ⟨⟨decide_eq_true (h16 q hq), decide_eq_true hk⟩, aS_yes (Gt.pf_size q hq h16)⟩
  rw [hR, hF]
  unfold pvB prS rtS
  rw [hB, if_pos rfl, if_pos h1]
  simp only [Int.toNat_natCast, Bool.true_and]
  exact decide_eq_true (Gt.pr_pf S q hq)
theorem pv_false {r x : ByteArray} {i n : Int} {k : Nat} {S : Nat → ByteArray} (h : (k : Int) ≠ plI i n) : pvB r x i n k S = false := by
  unfold pvB prB
  rw [decide_eq_false h]
  simp
theorem plI_le (i n : Int) : plI i n ≤ 6 := by
  unfold plI
  split
  · rename_i h
    have : n.toNat ≤ 64 := by simp [inT] at h; omega
    have := Gt.pl_le 6 i.toNat n.toNat (by omega)
    omega
  · omega
theorem plI_pf {m q : Nat} {S : Nat → ByteArray} (h : pfB m S (q : Int) = true) : plI (q : Int) (m : Int) = ((pfR m S (q : Int) : Nat) : Int) := by
  unfold plI pfR
  rw [if_pos (pfB_parts h).2, if_pos h]
  simp
theorem pfF_le {m : Nat} {S : Nat → ByteArray} {i : Int} : ∀ j, j < pfR m S i → (pfF m S i j).size ≤ maxLen := by
  intro j hj
  unfold pfR at hj
  by_cases hB : pfB m S i = true
  · rw [if_pos hB] at hj
    obtain ⟨h1, h2⟩ := pfB_parts hB
    have h3 := lvB_parts h1
    have : (pfF m S i j).size = 16 := Gt.pf_size _ (by simp [inT] at h2; omega) h3.2.2 j hj
    unfold maxLen
    omega
  · rw [if_neg hB] at hj; omega

set_option maxHeartbeats 8000000 in
theorem walk_FnProof (a0 : Option Addr) (len0 cap0 : Nat) (z0 : List Int) (w : World) (w0 : IsRow .u8 w a0 len0 cap0 z0) :
    Calls Try.prog 3 #[.slice a0 len0 cap0] w fun e w' => e = .returned (.bool true) ∧ Below w.heap.size w w' := by
  by_cases h0 : 1048576 < len0
  · clear w0
    have h0' : (1048576 : Int) < (len0 : Int) := by omega
    go_enter Try.func3, Try.ntmps3
    go_wp2_with (go_at_call 8; refine (big_any _ _ _ _).mono ?_; rintro e w' ⟨rfl, rfl⟩)
    go_ret
    exact ⟨rfl, Below.refl _ _⟩
  have hc := w0.code (by omega)
  clear w0
  have h0' : ¬ (1048576 : Int) < (len0 : Int) := by omega
  go_enter Try.func3, Try.ntmps3
  go_wp2_with fail
  refine (big_any _ _ _ _).mono ?_
  rintro e w' ⟨rfl, hw⟩
  obtain rfl := hw.symm
  go_wp2_with fail
  refine (drawProof_any _ _ _ _ hc).mono ?_
  rintro e v1 ⟨m, G, c, S, i, hm, _, _, rfl, ho, h16, cum⟩
  have K0 : Hid (CodeAt v1 a0 len0) := hc.below cum
  have AA : TxtAt v1 (some ⟨G, 0, none⟩) m S := OwnT.at ho
  have hL : Hid (∀ i, i < m → (S i).size ≤ maxLen) := fun i hi => by have := h16 i hi; unfold maxLen; omega
  clear hc hw ho
  go_wp2_with fail
  refine Calls.mono (proof_any _ _ _ S i _ AA (by omega) hL.out) ?_
  rintro e v2 ⟨u2, rfl, ⟨aP, cP, rfl, P2⟩, b2⟩
  have hcP := OwnT.cap' P2
  have PP : TxtAt v2 aP (pfR m S i) (pfF m S i) := OwnT.at P2
  replace AA := AA.below b2
  replace cum := below2 cum b2
  have K2 : Hid (CodeAt v2 a0 len0) := K0.out.below b2
  clear P2 b2 K0
  go_wp2_with fail
  refine Calls.mono (sProof_any _ _ _ S i _ AA (by omega) hL.out) ?_
  rintro e v3 ⟨u3, rfl, ⟨aW, cW, rfl, P3⟩, b3⟩
  have WW : TxtAt v3 aW (pfR m S i) (pfF m S i) := OwnT.at P3
  replace AA := AA.below b3
  replace PP := PP.below b3
  replace cum := below2 cum b3
  have K3 : Hid (CodeAt v3 a0 len0) := K2.out.below b3
  clear P3 b3 K2
  go_wp2_with fail
  refine Calls.mono (root_any _ _ _ S _ AA (by omega) hL.out) ?_
  rintro e v4 ⟨rfl, b4⟩
  replace AA := AA.below b4
  replace PP := PP.below b4
  replace WW := WW.below b4
  replace cum := below2 cum b4
  have K4 : Hid (CodeAt v4 a0 len0) := K3.out.below b4
  clear b4 K3
  go_wp2_with fail
  refine Calls.mono (sRoot_any _ _ _ S _ AA (by omega) hL.out) ?_
  rintro e v5 ⟨rfl, b5⟩
  replace AA := AA.below b5
  replace PP := PP.below b5
  replace WW := WW.below b5
  replace cum := below2 cum b5
  have K5 : Hid (CodeAt v5 a0 len0) := K4.out.below b5
  clear b5 K4
  have hkP := pfR_le m S i
  have HT : Hid (pfB m S i = true → ∃ q : Nat, i = (q : Int) ∧ q < m ∧ pvB (rtS m S) (S q) (q : Int) (m : Int) (pfR m S i) (pfF m S i) = true ∧ plI (q : Int) (m : Int) = ((pfR m S i : Nat) : Int)) := fun hB => by
    obtain ⟨h1, h2⟩ := pfB_parts hB
    obtain ⟨q, rfl⟩ : ∃ q : Nat, i = (q : Int) := ⟨i.toNat, by simp [inT] at h2; omega⟩
    exact ⟨q, rfl, by simp [inT] at h2; omega, pv_true hB, plI_pf hB⟩
  have HF : Hid (pfB m S i = false → pfR m S i = 0) := fun hB => by unfold pfR; rw [hB]; rfl
  have HSz : Hid (∀ j, j < pfR m S i → (pfF m S i j).size ≤ maxLen) := pfF_le
  generalize pfR m S i = k at *
  generalize pfF m S i = F at *
  generalize pfB m S i = okf at *
  generalize lvB m S = okr at *
  generalize rtS m S = r at *
  have hf1 : (okf != okf) = false := by simp
  have hf2 : (okr != okr) = false := by simp
  have hf3 : (r.toList != r.toList) = false := by simp
  have hf4 := ba_beq r
  go_wp2_with fail
  refine Calls.mono (sameT_same _ _ _ _ _ _ _ PP WW (by omega)) ?_
  rintro e v6 ⟨rfl, b6⟩
  replace AA := AA.below b6
  replace PP := PP.below b6
  replace cum := below2 cum b6
  have K6 : Hid (CodeAt v6 a0 len0) := K5.out.below b6
  clear b6 K5 WW hf1 hf2
  go_wp2_with fail
  refine Calls.mono (drawProofLen_any _ _ _ _ K6.out) ?_
  rintro e v7 ⟨x, y, rfl, b7⟩
  replace AA := AA.below b7
  replace PP := PP.below b7
  replace cum := below2 cum b7
  have K7 : Hid (CodeAt v7 a0 len0) := K6.out.below b7
  clear b7 K6
  have hz6 := plI_le x y
  have KI : Hid (∀ W, Calls Try.prog 16 #[.int .i64 x, .int .i64 y] W fun e w' => e = .returned (.int .i64 (plI x y)) ∧ Below W.heap.size W w') := fun W => proofLen_any x y W
  have KS : Hid (∀ W, Calls Try.prog 17 #[.int .i64 x, .int .i64 y] W fun e w' => e = .returned (.int .i64 (plI x y)) ∧ w' = W) := fun W => sProofLen_any x y W
  generalize plI x y = z at *
  have hzz : (z != z) = false := by simp
  have hz7 : ¬ (6 < z) := by omega
  go_wp2_with fail
  refine Calls.mono (KI.out _) ?_
  rintro e v8 ⟨rfl, b8⟩
  go_wp2_with fail
  refine Calls.mono (KS.out _) ?_
  rintro e v9 ⟨rfl, hw⟩
  obtain rfl := hw.symm
  clear hw
  go_wp2_with fail
  refine Calls.mono (KI.out _) ?_
  rintro e v10 ⟨rfl, b10⟩
  replace AA := (AA.below b8).below b10
  replace PP := (PP.below b8).below b10
  replace cum := below2 (below2 cum b8) b10
  have K10 : Hid (CodeAt v10 a0 len0) := (K7.out.below b8).below b10
  clear b8 b10 K7 KI KS
  go_wp2_with fail
  refine Calls.mono (drawProved_any _ _ _ _ K10.out) ?_
  rintro e v11 ⟨r', x', i', n', bq, kq, cq, Sq, rfl, hT, hkq, h16q, b11⟩
  replace AA := AA.below b11
  replace PP := PP.below b11
  replace cum := below2 cum b11
  have hLq : ∀ i, i < kq → (Sq i).size ≤ maxLen := fun i hi => by have := h16q i hi; unfold maxLen; omega
  clear b11 K10 h16q hz6 hz7 hzz
  go_wp2_with fail
  refine Calls.mono (proved_any r' x' i' n' _ _ _ Sq _ hT (by omega) hLq) ?_
  rintro e v12 ⟨rfl, b12⟩
  replace AA := AA.below b12
  replace PP := PP.below b12
  replace hT := hT.below b12
  replace cum := below2 cum b12
  clear b12
  go_wp2_with fail
  refine Calls.mono (sProved_any r' x' i' n' _ _ _ Sq _ hT (by omega) hLq) ?_
  rintro e v13 ⟨rfl, b13⟩
  replace AA := AA.below b13
  replace PP := PP.below b13
  replace cum := below2 cum b13
  generalize pvB r' x' i' n' kq Sq = bb
  have hbb : (bb != bb) = false := by simp
  clear b13 hT hLq hkq
  cases okf with
  | false =>
    obtain rfl := HF.out rfl
    go_wp2
    go_ret
    exact ⟨rfl, cum⟩
  | true =>
    obtain ⟨q, rfl, hq, hpv, hpl⟩ := HT.out rfl
    clear HT HF hf3 hf4
    have hqi : (q : Int) < (m : Int) := by omega
    have KL : Hid (∀ W, Calls Try.prog 16 #[.int .i64 (q : Int), .int .i64 (m : Int)] W fun e w' => e = .returned (.int .i64 (k : Int)) ∧ Below W.heap.size W w') := fun W => by
      have := proofLen_any (q : Int) (m : Int) W
      rw [hpl] at this
      exact this
    have KV : Hid (∀ W, Below v13.heap.size v13 W → Calls Try.prog 19 #[.string r, .string (S q), .int .i64 (q : Int), .int .i64 (m : Int), .slice aP k cP] W fun e w' => e = .returned (.bool true) ∧ Below W.heap.size W w') := fun W hW => by
      have := proved_any r (S q) (q : Int) (m : Int) aP k cP F W (PP.below hW) (by omega) HSz.out
      rw [hpv] at this
      exact this
    have KC : Hid (Below w.heap.size w v13) := cum
    obtain ⟨b', off', eq, hcc⟩ := AA q hq
    cases eq
    rw [Nat.zero_add] at hcc
    have lG : G < v13.heap.size := block_lt_of_cell hcc
    by_cases hk0 : k = 0
    · subst hk0
      obtain ⟨s, hs⟩ : ∃ s, S q = s := ⟨_, rfl⟩
      rw [hs] at KV hcc
      clear hs hpv hpl AA PP HSz hL h16 cum
      go_wp2_with fail
      refine wp_region_held_drew (S := (fun w' => w'.cell? ⟨G, q, none⟩ = some (.string s))) (by kernel_rfl) ?_ (fun hHeld => ?_)
      · (try dsimp only); go_keep
      refine wpAnyH_take (i := 0) (oi := { dst := some 112, op := Op.move (Operand.tmp 5), type := _, pos := _, after := _, guard := none }) (v := ?_) rfl (by kernel_rfl) (by kernel_rfl) (by kernel_rfl) (fun _ _ _ h => h) (Or.inl ⟨by rfl, ?_⟩) (by assumption) ?_
      rotate_left
      · intro w hSw; (try dsimp only at hSw); go_simp; (try with_reducible rfl)
      (try simp only [Act.put, List.setIfInBounds_toArray, List.set_cons_zero, List.set_cons_succ])
      refine wpAnyH_take (i := 1) (oi := { dst := some 113, op := Op.call { callee := Callee.builtin Builtin.len, args := #[Operand.tmp 112], argTypes := #[24] }, type := _, pos := _, after := _, guard := none }) (v := ?_) rfl (by kernel_rfl) (by kernel_rfl) (by kernel_rfl) (fun _ _ _ h => h) (Or.inl ⟨by rfl, ?_⟩) (by assumption) ?_
      rotate_left
      · intro w hSw; (try dsimp only at hSw); go_simp; (try with_reducible rfl)
      (try simp only [Act.put, List.setIfInBounds_toArray, List.set_cons_zero, List.set_cons_succ])
      refine wpAnyH_take (i := 2) (oi := { dst := some 114, op := Op.move (Operand.tmp 4), type := _, pos := _, after := _, guard := none }) (v := ?_) rfl (by kernel_rfl) (by kernel_rfl) (by kernel_rfl) (fun _ _ _ h => h) (Or.inl ⟨by rfl, ?_⟩) (by assumption) ?_
      rotate_left
      · intro w hSw; (try dsimp only at hSw); go_simp; (try with_reducible rfl)
      (try simp only [Act.put, List.setIfInBounds_toArray, List.set_cons_zero, List.set_cons_succ])
      refine wpAnyH_take (i := 3) (oi := { dst := some 115, op := Op.move (Operand.tmp 3), type := _, pos := _, after := _, guard := none }) (v := ?_) rfl (by kernel_rfl) (by kernel_rfl) (by kernel_rfl) (fun _ _ _ h => h) (Or.inl ⟨by rfl, ?_⟩) (by assumption) ?_
      rotate_left
      · intro w hSw; (try dsimp only at hSw); go_simp; (try with_reducible rfl)
      (try simp only [Act.put, List.setIfInBounds_toArray, List.set_cons_zero, List.set_cons_succ])
      refine wpAnyH_take (i := 4) (oi := { dst := some 116, op := Op.call { callee := Callee.builtin Builtin.len, args := #[Operand.tmp 115], argTypes := #[24] }, type := _, pos := _, after := _, guard := none }) (v := ?_) rfl (by kernel_rfl) (by kernel_rfl) (by kernel_rfl) (fun _ _ _ h => h) (Or.inl ⟨by rfl, ?_⟩) (by assumption) ?_
      rotate_left
      · intro w hSw; (try dsimp only at hSw); go_simp; (try with_reducible rfl)
      (try simp only [Act.put, List.setIfInBounds_toArray, List.set_cons_zero, List.set_cons_succ])
      refine wpAnyH_ready (rs := [5]) (by kernel_rfl) (by simp) ?_
      refine AllReadyH.cons (o := { dst := some 117, op := Op.call { callee := Callee.value (Operand.func 16), args := #[Operand.tmp 114, Operand.tmp 116], argTypes := #[3, 3] }, type := _, pos := _, after := _, guard := none }) rfl (fun K hK => ?_) AllReadyH.nil
      go_simp
      refine Calls.mono (KL.out _) ?_
      rintro e w5 ⟨rfl, hb5'⟩
      have hb5 := below_of_drew hb5'
      clear hb5'
      have h50 := (hb5.cell (p := ⟨G, q, none⟩) lG).trans hcc
      (try go_wp2_with fail)
      refine hK.out _ _ ?_ (fun hHeld => ?_)
      · (try dsimp only); go_keep
      clear hK K
      (try simp only [Act.put, List.setIfInBounds_toArray, List.set_cons_zero, List.set_cons_succ])
      refine wpAnyH_take (i := 6) (oi := { dst := some 118, op := Op.binOp BinOp.eql 3 (Operand.tmp 113) (Operand.tmp 117) 3, type := _, pos := _, after := _, guard := none }) (v := ?_) rfl (by kernel_rfl) (by kernel_rfl) (by kernel_rfl) (fun _ _ _ h => h) (Or.inl ⟨by rfl, ?_⟩) (by assumption) ?_
      rotate_left
      · intro w hSw; (try dsimp only at hSw); go_simp; (try with_reducible rfl)
      (try simp only [Act.put, List.setIfInBounds_toArray, List.set_cons_zero, List.set_cons_succ])
      refine wpAnyH_take (i := 7) (oi := { dst := some 119, op := Op.move (Operand.tmp 118), type := _, pos := _, after := _, guard := none }) (v := ?_) rfl (by kernel_rfl) (by kernel_rfl) (by kernel_rfl) (fun _ _ _ h => h) (Or.inl ⟨by rfl, ?_⟩) (by assumption) ?_
      rotate_left
      · intro w hSw; (try dsimp only at hSw); go_simp; (try with_reducible rfl)
      (try simp only [Act.put, List.setIfInBounds_toArray, List.set_cons_zero, List.set_cons_succ])
      refine wpAnyH_take (i := 8) (oi := { dst := some 120, op := Op.move (Operand.tmp 9), type := _, pos := _, after := _, guard := some (7, true) }) (v := ?_) rfl (by kernel_rfl) (by kernel_rfl) (by kernel_rfl) (fun _ _ _ h => h) (Or.inl ⟨by rfl, ?_⟩) (by assumption) ?_
      rotate_left
      · intro w hSw; (try dsimp only at hSw); go_simp; (try with_reducible rfl)
      (try simp only [Act.put, List.setIfInBounds_toArray, List.set_cons_zero, List.set_cons_succ])
      refine wpAnyH_take (i := 9) (oi := { dst := some 121, op := Op.move (Operand.tmp 3), type := _, pos := _, after := _, guard := some (7, true) }) (v := ?_) rfl (by kernel_rfl) (by kernel_rfl) (by kernel_rfl) (fun _ _ _ h => h) (Or.inl ⟨by rfl, ?_⟩) (by assumption) ?_
      rotate_left
      · intro w hSw; (try dsimp only at hSw); go_simp; (try with_reducible rfl)
      (try simp only [Act.put, List.setIfInBounds_toArray, List.set_cons_zero, List.set_cons_succ])
      refine wpAnyH_take (i := 10) (oi := { dst := some 122, op := Op.move (Operand.tmp 4), type := _, pos := _, after := _, guard := some (7, true) }) (v := ?_) rfl (by kernel_rfl) (by kernel_rfl) (by kernel_rfl) (fun _ _ _ h => h) (Or.inl ⟨by rfl, ?_⟩) (by assumption) ?_
      rotate_left
      · intro w hSw; (try dsimp only at hSw); go_simp; (try with_reducible rfl)
      (try simp only [Act.put, List.setIfInBounds_toArray, List.set_cons_zero, List.set_cons_succ])
      refine wpAnyH_take (i := 11) (oi := { dst := some 123, op := Op.indexAddr 24 (Operand.tmp 121) (Operand.tmp 122), type := _, pos := _, after := _, guard := some (7, true) }) (v := ?_) rfl (by kernel_rfl) (by kernel_rfl) (by kernel_rfl) (fun _ _ _ h => h) (Or.inl ⟨by rfl, ?_⟩) (by assumption) ?_
      rotate_left
      · intro w hSw; (try dsimp only at hSw); go_simp; (try with_reducible rfl)
      (try simp only [Act.put, List.setIfInBounds_toArray, List.set_cons_zero, List.set_cons_succ])
      refine wpAnyH_take (i := 12) (oi := { dst := some 124, op := Op.load 9 (Operand.tmp 123), type := _, pos := _, after := _, guard := some (7, true) }) (v := ?_) rfl (by kernel_rfl) (by kernel_rfl) (by kernel_rfl) (fun _ _ _ h => h) (Or.inl ⟨by rfl, ?_⟩) (by assumption) ?_
      rotate_left
      · intro w hSw; (try dsimp only at hSw); go_simp; (try with_reducible rfl)
      (try simp only [Act.put, List.setIfInBounds_toArray, List.set_cons_zero, List.set_cons_succ])
      refine wpAnyH_take (i := 13) (oi := { dst := some 125, op := Op.move (Operand.tmp 4), type := _, pos := _, after := _, guard := some (7, true) }) (v := ?_) rfl (by kernel_rfl) (by kernel_rfl) (by kernel_rfl) (fun _ _ _ h => h) (Or.inl ⟨by rfl, ?_⟩) (by assumption) ?_
      rotate_left
      · intro w hSw; (try dsimp only at hSw); go_simp; (try with_reducible rfl)
      (try simp only [Act.put, List.setIfInBounds_toArray, List.set_cons_zero, List.set_cons_succ])
      refine wpAnyH_take (i := 14) (oi := { dst := some 126, op := Op.move (Operand.tmp 3), type := _, pos := _, after := _, guard := some (7, true) }) (v := ?_) rfl (by kernel_rfl) (by kernel_rfl) (by kernel_rfl) (fun _ _ _ h => h) (Or.inl ⟨by rfl, ?_⟩) (by assumption) ?_
      rotate_left
      · intro w hSw; (try dsimp only at hSw); go_simp; (try with_reducible rfl)
      (try simp only [Act.put, List.setIfInBounds_toArray, List.set_cons_zero, List.set_cons_succ])
      refine wpAnyH_take (i := 15) (oi := { dst := some 127, op := Op.call { callee := Callee.builtin Builtin.len, args := #[Operand.tmp 126], argTypes := #[24] }, type := _, pos := _, after := _, guard := some (7, true) }) (v := ?_) rfl (by kernel_rfl) (by kernel_rfl) (by kernel_rfl) (fun _ _ _ h => h) (Or.inl ⟨by rfl, ?_⟩) (by assumption) ?_
      rotate_left
      · intro w hSw; (try dsimp only at hSw); go_simp; (try with_reducible rfl)
      (try simp only [Act.put, List.setIfInBounds_toArray, List.set_cons_zero, List.set_cons_succ])
      refine wpAnyH_take (i := 16) (oi := { dst := some 128, op := Op.move (Operand.tmp 5), type := _, pos := _, after := _, guard := some (7, true) }) (v := ?_) rfl (by kernel_rfl) (by kernel_rfl) (by kernel_rfl) (fun _ _ _ h => h) (Or.inl ⟨by rfl, ?_⟩) (by assumption) ?_
      rotate_left
      · intro w hSw; (try dsimp only at hSw); go_simp; (try with_reducible rfl)
      (try simp only [Act.put, List.setIfInBounds_toArray, List.set_cons_zero, List.set_cons_succ])
      refine wpAnyH_ready (rs := [17]) (by kernel_rfl) (by simp) ?_
      refine AllReadyH.cons (o := { dst := some 129, op := Op.call { callee := Callee.value (Operand.func 19), args := #[Operand.tmp 120, Operand.tmp 124, Operand.tmp 125, Operand.tmp 127, Operand.tmp 128], argTypes := #[9, 9, 3, 3, 24] }, type := _, pos := _, after := _, guard := some (7, true) }) rfl (fun K hK => ?_) AllReadyH.nil
      go_simp
      refine Calls.mono (KV.out _ hb5) ?_
      rintro e w6 ⟨rfl, hb6⟩
      have hb56 := below2 hb5 hb6
      have h60 := (hb56.cell (p := ⟨G, q, none⟩) lG).trans hcc
      (try go_wp2_with fail)
      refine hK.out _ _ ?_ (fun hHeld => ?_)
      · (try dsimp only); go_keep
      clear hK K
      (try simp only [Act.put, List.setIfInBounds_toArray, List.set_cons_zero, List.set_cons_succ])
      refine wpAnyH_take (i := 18) (oi := { dst := some 130, op := Op.pick (Operand.tmp 119) (Operand.tmp 129) (Operand.const (Value.bool false)), type := _, pos := _, after := _, guard := none }) (v := ?_) rfl (by kernel_rfl) (by kernel_rfl) (by kernel_rfl) (fun _ _ _ h => h) (Or.inl ⟨by rfl, ?_⟩) (by assumption) ?_
      rotate_left
      · intro w hSw; (try dsimp only at hSw); go_simp; (try with_reducible rfl)
      (try simp only [Act.put, List.setIfInBounds_toArray, List.set_cons_zero, List.set_cons_succ])
      refine wpAnyH_take (i := 19) (oi := { dst := some 131, op := Op.move (Operand.tmp 130), type := _, pos := _, after := _, guard := none }) (v := ?_) rfl (by kernel_rfl) (by kernel_rfl) (by kernel_rfl) (fun _ _ _ h => h) (Or.inl ⟨by rfl, ?_⟩) (by assumption) ?_
      rotate_left
      · intro w hSw; (try dsimp only at hSw); go_simp; (try with_reducible rfl)
      (try simp only [Act.put, List.setIfInBounds_toArray, List.set_cons_zero, List.set_cons_succ])
      refine wpAnyH_take (i := 20) (oi := { dst := some 132, op := Op.move (Operand.tmp 5), type := _, pos := _, after := _, guard := some (19, true) }) (v := ?_) rfl (by kernel_rfl) (by kernel_rfl) (by kernel_rfl) (fun _ _ _ h => h) (Or.inl ⟨by rfl, ?_⟩) (by assumption) ?_
      rotate_left
      · intro w hSw; (try dsimp only at hSw); go_simp; (try with_reducible rfl)
      (try simp only [Act.put, List.setIfInBounds_toArray, List.set_cons_zero, List.set_cons_succ])
      refine wpAnyH_take (i := 21) (oi := { dst := some 133, op := Op.call { callee := Callee.builtin Builtin.len, args := #[Operand.tmp 132], argTypes := #[24] }, type := _, pos := _, after := _, guard := some (19, true) }) (v := ?_) rfl (by kernel_rfl) (by kernel_rfl) (by kernel_rfl) (fun _ _ _ h => h) (Or.inl ⟨by rfl, ?_⟩) (by assumption) ?_
      rotate_left
      · intro w hSw; (try dsimp only at hSw); go_simp; (try with_reducible rfl)
      (try simp only [Act.put, List.setIfInBounds_toArray, List.set_cons_zero, List.set_cons_succ])
      refine wpAnyH_take (i := 22) (oi := { dst := some 134, op := Op.binOp BinOp.eql 3 (Operand.tmp 133) (Operand.const (Value.int IntKind.i64 0)) 3, type := _, pos := _, after := _, guard := some (19, true) }) (v := ?_) rfl (by kernel_rfl) (by kernel_rfl) (by kernel_rfl) (fun _ _ _ h => h) (Or.inl ⟨by rfl, ?_⟩) (by assumption) ?_
      rotate_left
      · intro w hSw; (try dsimp only at hSw); go_simp; (try with_reducible rfl)
      (try simp only [Act.put, List.setIfInBounds_toArray, List.set_cons_zero, List.set_cons_succ])
      refine wpAnyH_take (i := 23) (oi := { dst := some 135, op := Op.move (Operand.tmp 134), type := _, pos := _, after := _, guard := some (19, true) }) (v := ?_) rfl (by kernel_rfl) (by kernel_rfl) (by kernel_rfl) (fun _ _ _ h => h) (Or.inl ⟨by rfl, ?_⟩) (by assumption) ?_
      rotate_left
      · intro w hSw; (try dsimp only at hSw); go_simp; (try with_reducible rfl)
      (try simp only [Act.put, List.setIfInBounds_toArray, List.set_cons_zero, List.set_cons_succ])
      refine wpAnyH_take (i := 24) (oi := { dst := some 136, op := Op.move (Operand.tmp 9), type := _, pos := _, after := _, guard := some (23, false) }) (v := undef) rfl (by kernel_rfl) (by kernel_rfl) (by kernel_rfl) (fun _ _ _ h => h) (Or.inr ⟨by rfl, rfl⟩) (by assumption) ?_
      (try simp only [Act.put, List.setIfInBounds_toArray, List.set_cons_zero, List.set_cons_succ])
      refine wpAnyH_take (i := 25) (oi := { dst := some 137, op := Op.move (Operand.tmp 3), type := _, pos := _, after := _, guard := some (23, false) }) (v := undef) rfl (by kernel_rfl) (by kernel_rfl) (by kernel_rfl) (fun _ _ _ h => h) (Or.inr ⟨by rfl, rfl⟩) (by assumption) ?_
      (try simp only [Act.put, List.setIfInBounds_toArray, List.set_cons_zero, List.set_cons_succ])
      refine wpAnyH_take (i := 26) (oi := { dst := some 138, op := Op.move (Operand.tmp 4), type := _, pos := _, after := _, guard := some (23, false) }) (v := undef) rfl (by kernel_rfl) (by kernel_rfl) (by kernel_rfl) (fun _ _ _ h => h) (Or.inr ⟨by rfl, rfl⟩) (by assumption) ?_
      (try simp only [Act.put, List.setIfInBounds_toArray, List.set_cons_zero, List.set_cons_succ])
      refine wpAnyH_take (i := 27) (oi := { dst := some 139, op := Op.indexAddr 24 (Operand.tmp 137) (Operand.tmp 138), type := _, pos := _, after := _, guard := some (23, false) }) (v := undef) rfl (by kernel_rfl) (by kernel_rfl) (by kernel_rfl) (fun _ _ _ h => h) (Or.inr ⟨by rfl, rfl⟩) (by assumption) ?_
      (try simp only [Act.put, List.setIfInBounds_toArray, List.set_cons_zero, List.set_cons_succ])
      refine wpAnyH_take (i := 28) (oi := { dst := some 140, op := Op.load 9 (Operand.tmp 139), type := _, pos := _, after := _, guard := some (23, false) }) (v := undef) rfl (by kernel_rfl) (by kernel_rfl) (by kernel_rfl) (fun _ _ _ h => h) (Or.inr ⟨by rfl, rfl⟩) (by assumption) ?_
      (try simp only [Act.put, List.setIfInBounds_toArray, List.set_cons_zero, List.set_cons_succ])
      refine wpAnyH_take (i := 29) (oi := { dst := some 141, op := Op.move (Operand.tmp 4), type := _, pos := _, after := _, guard := some (23, false) }) (v := undef) rfl (by kernel_rfl) (by kernel_rfl) (by kernel_rfl) (fun _ _ _ h => h) (Or.inr ⟨by rfl, rfl⟩) (by assumption) ?_
      (try simp only [Act.put, List.setIfInBounds_toArray, List.set_cons_zero, List.set_cons_succ])
      refine wpAnyH_take (i := 30) (oi := { dst := some 142, op := Op.move (Operand.tmp 3), type := _, pos := _, after := _, guard := some (23, false) }) (v := undef) rfl (by kernel_rfl) (by kernel_rfl) (by kernel_rfl) (fun _ _ _ h => h) (Or.inr ⟨by rfl, rfl⟩) (by assumption) ?_
      (try simp only [Act.put, List.setIfInBounds_toArray, List.set_cons_zero, List.set_cons_succ])
      refine wpAnyH_take (i := 31) (oi := { dst := some 143, op := Op.call { callee := Callee.builtin Builtin.len, args := #[Operand.tmp 142], argTypes := #[24] }, type := _, pos := _, after := _, guard := some (23, false) }) (v := undef) rfl (by kernel_rfl) (by kernel_rfl) (by kernel_rfl) (fun _ _ _ h => h) (Or.inr ⟨by rfl, rfl⟩) (by assumption) ?_
      (try simp only [Act.put, List.setIfInBounds_toArray, List.set_cons_zero, List.set_cons_succ])
      refine wpAnyH_take (i := 32) (oi := { dst := some 144, op := Op.move (Operand.tmp 5), type := _, pos := _, after := _, guard := some (23, false) }) (v := undef) rfl (by kernel_rfl) (by kernel_rfl) (by kernel_rfl) (fun _ _ _ h => h) (Or.inr ⟨by rfl, rfl⟩) (by assumption) ?_
      (try simp only [Act.put, List.setIfInBounds_toArray, List.set_cons_zero, List.set_cons_succ])
      refine wpAnyH_take (i := 33) (oi := { dst := some 145, op := Op.slice 24 (Operand.tmp 144) (some (Operand.const (Value.int IntKind.i64 1))) none none, type := _, pos := _, after := _, guard := some (23, false) }) (v := undef) rfl (by kernel_rfl) (by kernel_rfl) (by kernel_rfl) (fun _ _ _ h => h) (Or.inr ⟨by rfl, rfl⟩) (by assumption) ?_
      (try simp only [Act.put, List.setIfInBounds_toArray, List.set_cons_zero, List.set_cons_succ])
      refine wpAnyH_take (i := 34) (oi := { dst := some 146, op := Op.call { callee := Callee.value (Operand.func 19), args := #[Operand.tmp 136, Operand.tmp 140, Operand.tmp 141, Operand.tmp 143, Operand.tmp 145], argTypes := #[9, 9, 3, 3, 24] }, type := _, pos := _, after := _, guard := some (23, false) }) (v := undef) rfl (by kernel_rfl) (by kernel_rfl) (by kernel_rfl) (fun _ _ _ h => h) (Or.inr ⟨by rfl, rfl⟩) (by assumption) ?_
      (try simp only [Act.put, List.setIfInBounds_toArray, List.set_cons_zero, List.set_cons_succ])
      refine wpAnyH_take (i := 35) (oi := { dst := some 147, op := Op.unOp UnOp.not 4 (Operand.tmp 146), type := _, pos := _, after := _, guard := some (23, false) }) (v := undef) rfl (by kernel_rfl) (by kernel_rfl) (by kernel_rfl) (fun _ _ _ h => h) (Or.inr ⟨by rfl, rfl⟩) (by assumption) ?_
      (try simp only [Act.put, List.setIfInBounds_toArray, List.set_cons_zero, List.set_cons_succ])
      refine wpAnyH_take (i := 36) (oi := { dst := some 148, op := Op.pick (Operand.tmp 135) (Operand.const (Value.bool true)) (Operand.tmp 147), type := _, pos := _, after := _, guard := some (19, true) }) (v := ?_) rfl (by kernel_rfl) (by kernel_rfl) (by kernel_rfl) (fun _ _ _ h => h) (Or.inl ⟨by rfl, ?_⟩) (by assumption) ?_
      rotate_left
      · intro w hSw; (try dsimp only at hSw); go_simp; (try with_reducible rfl)
      (try simp only [Act.put, List.setIfInBounds_toArray, List.set_cons_zero, List.set_cons_succ])
      refine wpAnyH_take (i := 37) (oi := { dst := some 149, op := Op.pick (Operand.tmp 131) (Operand.tmp 148) (Operand.const (Value.bool false)), type := _, pos := _, after := _, guard := none }) (v := ?_) rfl (by kernel_rfl) (by kernel_rfl) (by kernel_rfl) (fun _ _ _ h => h) (Or.inl ⟨by rfl, ?_⟩) (by assumption) ?_
      rotate_left
      · intro w hSw; (try dsimp only at hSw); go_simp; (try with_reducible rfl)
      (try simp only [Act.put, List.setIfInBounds_toArray, List.set_cons_zero, List.set_cons_succ])
      refine wpAnyH_take (i := 38) (oi := { dst := some 2, op := Op.assign (Operand.tmp 149), type := _, pos := _, after := _, guard := none }) (v := ?_) rfl (by kernel_rfl) (by kernel_rfl) (by kernel_rfl) (fun _ _ _ h => h) (Or.inl ⟨by rfl, ?_⟩) (by assumption) ?_
      rotate_left
      · intro w hSw; (try dsimp only at hSw); go_simp; (try with_reducible rfl)
      (try simp only [Act.put, List.setIfInBounds_toArray, List.set_cons_zero, List.set_cons_succ])
      refine wpAnyH_done (by kernel_rfl) ?_ _
      go_wp2
      go_ret
      exact ⟨rfl, below2 KC.out hb56⟩
    · have KW : Hid (∀ W, Below v13.heap.size v13 W → ∀ (a' : Option Addr) (c' : Nat), TxtAt W a' (k - 1) (fun j => F (j + 1)) → Calls Try.prog 19 #[.string r, .string (S q), .int .i64 (q : Int), .int .i64 (m : Int), .slice a' (k - 1) c'] W fun e w' => e = .returned (.bool false) ∧ Below W.heap.size W w') := fun W hW a' c' hT => by
        have := proved_any r (S q) (q : Int) (m : Int) a' (k - 1) c' (fun j => F (j + 1)) W hT (by omega) (fun j hj => HSz.out (j + 1) (by omega))
        rw [pv_false (by rw [hpl]; omega)] at this
        exact this
      obtain ⟨bP, oP, rfl, hcs⟩ := PP.some (by omega)
      obtain ⟨s, hs⟩ : ∃ s, S q = s := ⟨_, rfl⟩
      rw [hs] at KV KW hcc
      have hkk : (k == 0) = false := by simpa using hk0
      have hk1 : (1 : Int) ≤ (k : Int) := by omega
      have hkc : (k : Int) ≤ (cP : Int) := by omega
      by_cases hc1 : cP = 1
      · obtain rfl : k = 1 := by omega
        obtain rfl : cP = 1 := by omega
        have KT : Hid (∀ W a', TxtAt W a' 0 (fun j => F (j + 1))) := fun W a' i hi => absurd hi (Nat.not_lt_zero _)
        clear hs hpv hpl AA PP HSz hL h16 cum hcs
        go_wp2_with fail
        clear hm hkP hcP hbb hkk
        go_region_held3 (fun w' => w'.cell? ⟨G, q, none⟩ = some (.string s)) (go_keep) ((first | (go_at_call 16; refine Calls.mono (KL.out _) ?_; rintro e w5 ⟨rfl, hb5'⟩; have hb5 := below_of_drew hb5'; clear hb5'; have h50 := (hb5.cell (p := ⟨G, q, none⟩) lG).trans hcc) | (guard_hyp hb56; go_at_call 19; refine Calls.mono (KW.out _ hb56 _ _ (KT.out _ _)) ?_; rintro e w7 ⟨rfl, hb7⟩; have hb57 := below2 hb56 hb7; have h70 := (hb57.cell (p := ⟨G, q, none⟩) lG).trans hcc) | (guard_hyp hb5; go_at_call 19; refine Calls.mono (KV.out _ hb5) ?_; rintro e w6 ⟨rfl, hb6⟩; have hb56 := below2 hb5 hb6; have h60 := (hb56.cell (p := ⟨G, q, none⟩) lG).trans hcc)))
        all_goals
          go_wp2
          go_ret
          exact ⟨rfl, below2 KC.out hb57⟩
      · have KT : Hid (∀ W, Below v13.heap.size v13 W → TxtAt W (some ⟨bP, oP + 1, none⟩) (k - 1) (fun j => F (j + 1))) := fun W hW j hj => by
          refine ⟨bP, oP + 1, rfl, ?_⟩
          have := hcs (j + 1) (by omega)
          rw [show oP + 1 + j = oP + (j + 1) by omega]
          exact (hW.cell (p := ⟨bP, oP + (j + 1), none⟩) (block_lt_of_cell this)).trans this
        clear hs hpv hpl AA PP HSz hL h16 cum hcs
        go_wp2_with fail
        have hk0i : ((k : Int) == 0) = false := by simpa using hk0
        clear hm hkP hcP hbb hkk
        go_region_held3 (fun w' => w'.cell? ⟨G, q, none⟩ = some (.string s)) (go_keep) ((first | (go_at_call 16; refine Calls.mono (KL.out _) ?_; rintro e w5 ⟨rfl, hb5'⟩; have hb5 := below_of_drew hb5'; clear hb5'; have h50 := (hb5.cell (p := ⟨G, q, none⟩) lG).trans hcc) | (guard_hyp hb56; go_at_call 19; refine Calls.mono (KW.out _ hb56 _ _ (KT.out _ hb56)) ?_; rintro e w7 ⟨rfl, hb7⟩; have hb57 := below2 hb56 hb7; have h70 := (hb57.cell (p := ⟨G, q, none⟩) lG).trans hcc) | (guard_hyp hb5; go_at_call 19; refine Calls.mono (KV.out _ hb5) ?_; rintro e w6 ⟨rfl, hb6⟩; have hb56 := below2 hb5 hb6; have h60 := (hb56.cell (p := ⟨G, q, none⟩) lG).trans hcc)))
        all_goals
          go_wp2
          go_ret
          exact ⟨rfl, below2 KC.out hb57⟩
end Go.Proofs.Ytahgdbmilflcmaa
namespace Go.Proofs.Ytahgdbmilflcmaa.fnProof
open Go.ChangeShapes Go.WideShapes Go.ChangeAt Go.RowKit
open Go.ChangeMaps (open_string shut_string)
set_option linter.unusedVariables false
theorem own : ownKnob Try.prog.godebug = none := by kernel_rfl
theorem laidOut : laidOutB Try.prog = true := by kernel_rfl
set_option maxRecDepth 100000 in
theorem lifted (os : Os) (started : os.Started) (H : Type) (enc : TypeId × Value → H) :
    ReturnsInHanded {} Try.checked os 3 .any (Rows.fnProofSpec.pre6 enc Try.prog Try.f3 Rows.fnProofRow.domain false) (Rows.fnProofSpec.post enc Try.prog Try.f3 false true false false) := by
  refine returnsInHanded_of_change (C := Try.checked) own started (by kernel_rfl) Try.func3
    (ChangeSpec.witness6 (enc := enc) (C := Try.checked) false ⟨#[], #[.slice none 0 0], []⟩ 8 (by kernel_rfl) (by kernel_rfl) (by kernel_rfl) (by kernel_rfl)) ?_
  intro W base args ds gs before hval0 hW hcnd _
  have hval : ∀ (j : Nat) t v, Try.f3.params[j]? = some t → args[j]? = some v → Value.okWide Try.prog W .any base t v := hval0
  have hW' := hW
  obtain ⟨p, q, hA0, hV, rfl, hfz, hnd⟩ := hW
  have hA : DataW.TrodAll enc Try.prog W 0 (fun _ => true) true Try.f3.params.toList args.toList ds p := hA0
  rw [Try.params3] at hA hval
  obtain ⟨v0, vs0, d0, ds0, p0, q0, hargs, rfl, rfl, h0, r0⟩ := trodAll_cons hA
  obtain ⟨rfl, rfl, rfl⟩ := trodAll_nil r0
  obtain rfl : args = #[v0] := by cases args; simp_all
  obtain ⟨rfl, rfl⟩ := trodVars_none hV
  obtain ⟨a0, len0, cap0, rfl⟩ := okWide_slice Try.underlying22 (hval 0 22 v0 rfl rfl)
  have k0 := h0
  have lt0 : ∀ x ∈ p0, x.block < W.heap.size := by obtain ⟨m, hm⟩ := k0; exact DataW.trod_lt m _ _ _ hm
  obtain ⟨z0, w0⟩ : ∃ zs, IsRow .u8 W a0 len0 cap0 zs := by
    obtain ⟨fuel, hf⟩ := h0
    rcases open_ints Try.underlying22 Try.underlying5 (by kernel_rfl) hf with ⟨hcs, _⟩ | ⟨x, l, c, zs, hcs, _, hl, hm, hz, _, hcell, hwz⟩
    · simp [Value.cells] at hcs
      obtain ⟨rfl, rfl, rfl⟩ := hcs
      exact ⟨[], .inl ⟨rfl, rfl, rfl, rfl⟩⟩
    · simp [Value.cells] at hcs
      obtain ⟨rfl, rfl, rfl⟩ := hcs
      exact ⟨zs, .inr ⟨_, rfl, hl, hm, by simpa using hz, hcell, hwz⟩⟩
  clear hA0 hval0
  refine (walk_FnProof a0 len0 cap0 z0 W w0).mono fun e W' ⟨he, bel⟩ => ?_
  subst he
  exact ⟨_, rfl, _, _, _, [], _, [], hW', trodAll_mk1 (shut_bool Try.underlying4 _), (trodAll_cons_mk (Below.trod laidOut (by kernel_rfl) (of_decide_eq_true (by kernel_rfl)) k0 bel lt0) trodAll_mk0), rfl, bel.frame _, fun h => by cases h⟩
theorem over : Rows.fnProofRow.holds Try.pinned (OpenSpec.ofChange Rows.fnProofSpec) :=
  OpenClaim.holds_of_wide 3 Try.f3 rfl rfl rfl rfl rfl rfl rfl ⟨rfl, rfl, rfl, rfl, rfl⟩ rfl rfl rfl rfl rfl (by kernel_rfl) Try.func3 (by kernel_rfl)
    (of_decide_eq_true (by kernel_rfl)) (by unfold Func.isWrapper; first | (rw [if_pos (by decide +kernel)]; kernel_rfl) | (rw [if_neg (by decide +kernel)]; exact ⟨rfl, rfl⟩))
    (fun os started H enc _ => lifted os started H enc)
theorem proved : Rows.FnProofSaid := over
#print axioms proved
end Go.Proofs.Ytahgdbmilflcmaa.fnProof
