/- Lists of pieces that the exact laws mark, ask for their marks, and compare. Conditions stand at each. -/
import Derived.Test.YtahgdbmilflcmaaJ12
import Derived.Test.YtahgdbmilflcmaaQVAll
namespace Go.Proofs.Ytahgdbmilflcmaa
set_option maxRecDepth 2000
open Go.ChangeShapes Go.WideShapes Go.ChangeAt Go.RowKit

/-- The first mark of piece i. -/
def ofs (k : Nat) (P : Nat → Pc) : Nat → Nat
  | 0 => k
  | i + 1 => ofs k P i + 5 + (P i).m
theorem ofs_le (k : Nat) (P : Nat → Pc) {i j : Nat} (h : i ≤ j) : ofs k P i ≤ ofs k P j := by
  induction j with
  | zero => obtain rfl : i = 0 := by omega
            exact Nat.le_refl _
  | succ j ih =>
    by_cases e : i = j + 1
    · subst e; exact Nat.le_refl _
    · have := ih (by omega)
      show _ ≤ ofs k P j + 5 + (P j).m
      omega
/-- The pieces, marked from k on. -/
def mkd (k : Nat) (P : Nat → Pc) (i : Nat) : Pc := ⟨mtxt (ofs k P i), ((ofs k P i + 1 : Nat) : Int), ((ofs k P i + 2 : Nat) : Int), ((ofs k P i + 3 : Nat) : Int), mtxt (ofs k P i + 4), (P i).m, fun j => mtxt (ofs k P i + 5 + j)⟩
theorem OwnP.congr {w : World} {B : Nat} {a : Option Addr} {n cap : Nat} {A : Nat → Option Addr} {C : Nat → Nat} {P P' : Nat → Pc} (h : OwnP w B a n cap A C P) (e : ∀ i, i < n → P i = P' i) : OwnP w B a n cap A C P' :=
  ⟨h.1.congr (fun i q hi _ => by rw [e i hi]), fun i hi => by rw [← e i hi]; exact h.2.1 i hi, h.2.2⟩
theorem OwnP.marked {w w1 w2 w3 : World} {B g n cap : Nat} {A : Nat → Option Addr} {C : Nat → Nat} {P : Nat → Pc} {c bB bE : Nat} {Q : Pc} (h : OwnP w B (some ⟨g, 0, none⟩) n cap A C P) (hc : c < n) (hB : B ≤ w.heap.size)
    (b1 : Below w.heap.size w w1)
    (b2 : Below ((((w1.setCell ⟨g, c * 6 + 0, none⟩ (.string Q.r)).setCell ⟨g, c * 6 + 1, none⟩ (.int .i64 Q.k)).setCell ⟨g, c * 6 + 2, none⟩ (.int .i64 Q.n)).setCell ⟨g, c * 6 + 3, none⟩ (.int .i64 Q.i)).heap.size ((((w1.setCell ⟨g, c * 6 + 0, none⟩ (.string Q.r)).setCell ⟨g, c * 6 + 1, none⟩ (.int .i64 Q.k)).setCell ⟨g, c * 6 + 2, none⟩ (.int .i64 Q.n)).setCell ⟨g, c * 6 + 3, none⟩ (.int .i64 Q.i)) w2) (hm : Q.m = (P c).m)
    (hX : (A c = none ∧ bE ≤ bB ∧ B ≤ bB) ∨ ∃ x, A c = some x ∧ bB = x.block ∧ bE = x.block + 1)
    (hR : RowT w3 bB bE (A c) (P c).m (C c) Q.S) (ht : TurnM (w2.setCell ⟨g, c * 6 + 4, none⟩ (.string Q.b)) w3 bB bE) :
    OwnP w3 B (some ⟨g, 0, none⟩) n cap A C (fun j => if j = c then Q else P j) ∧ Below B w w3 := by
  obtain ⟨h1, h2, h3, h4⟩ := h
  have lg := World.ownsRow.lt h1 g rfl
  have hbB : B ≤ bB := by
    rcases hX with ⟨_, _, e⟩ | ⟨x, e, e1, _⟩
    · exact e
    · have := h2 c hc
      rw [e] at this
      have := (World.ownsRow.lt this x.block rfl).1
      omega
  have hgb : ¬ (bB ≤ g ∧ g < bE) := by
    rcases hX with ⟨_, e, _⟩ | ⟨x, e, e1, e2⟩
    · omega
    · have := h4 c x _ hc e rfl
      have : x.block ≠ g := this
      omega
  have hb2' : Below w.heap.size ((((w1.setCell ⟨g, c * 6 + 0, none⟩ (.string Q.r)).setCell ⟨g, c * 6 + 1, none⟩ (.int .i64 Q.k)).setCell ⟨g, c * 6 + 2, none⟩ (.int .i64 Q.n)).setCell ⟨g, c * 6 + 3, none⟩ (.int .i64 Q.i)) w2 := b2.mono (by simpa using b1.size)
  refine ⟨⟨?_, ?_, h3, h4⟩, ?_⟩
  · have e := ((((h1.below b1).set hc (show 0 < 6 by omega) (.string Q.r)).set hc (show 1 < 6 by omega) (.int .i64 Q.k)).set hc (show 2 < 6 by omega) (.int .i64 Q.n)).set hc (show 3 < 6 by omega) (.int .i64 Q.i)
    have e2 := (e.below b2).set hc (show 4 < 6 by omega) (.string Q.b)
    have e3 := own_turn2 e2 ht (fun x ex => by cases ex; exact hgb)
    refine OwnC.congr e3 fun i q hi hq => ?_
    by_cases ei : i = c
    · subst ei
      match q, hq with
      | 0, _ => simp [cel]
      | 1, _ => simp [cel]
      | 2, _ => simp [cel]
      | 3, _ => simp [cel]
      | 4, _ => simp [cel]
      | 5, _ => simp [cel, hm]
    · simp [ei]
  · intro i hi
    by_cases ei : i = c
    · subst ei
      simp only [if_true]
      rw [hm]
      exact OwnT.base hR.1 hbB
    · simp only [ei, if_false]
      have far : ∀ x, A i = some x → x.block ≠ g := fun x e => h4 i x _ hi e rfl
      have o1 : OwnT ((((w1.setCell ⟨g, c * 6 + 0, none⟩ (.string Q.r)).setCell ⟨g, c * 6 + 1, none⟩ (.int .i64 Q.k)).setCell ⟨g, c * 6 + 2, none⟩ (.int .i64 Q.n)).setCell ⟨g, c * 6 + 3, none⟩ (.int .i64 Q.i)) B (A i) (P i).m (C i) (P i).S := own_kept (own_kept (own_kept (own_kept (OwnT.below (h2 i hi) b1) (grown_set _ _ _ _) far) (grown_set _ _ _ _) far) (grown_set _ _ _ _) far) (grown_set _ _ _ _) far
      have o2 : OwnT (w2.setCell ⟨g, c * 6 + 4, none⟩ (.string Q.b)) B (A i) (P i).m (C i) (P i).S := own_kept (OwnT.below o1 b2) (grown_set _ _ _ _) far
      refine own_turn2 o2 ht (fun x ex => ?_)
      rcases hX with ⟨_, e, _⟩ | ⟨y, e, e1, e2⟩
      · omega
      · have hne : x.block ≠ y.block := by
          by_cases hl : i < c
          · exact h3 i c x y hl hc ex e
          · exact Ne.symm (h3 c i y x (by omega) hi e ex)
        omega
  · have k1 : Below B w ((((w1.setCell ⟨g, c * 6 + 0, none⟩ (.string Q.r)).setCell ⟨g, c * 6 + 1, none⟩ (.int .i64 Q.k)).setCell ⟨g, c * 6 + 2, none⟩ (.int .i64 Q.n)).setCell ⟨g, c * 6 + 3, none⟩ (.int .i64 Q.i)) := Below.setCell (Below.setCell (Below.setCell (Below.setCell (b1.mono hB) lg.1 _) lg.1 _) lg.1 _) lg.1 _
    have s1 : B ≤ ((((w1.setCell ⟨g, c * 6 + 0, none⟩ (.string Q.r)).setCell ⟨g, c * 6 + 1, none⟩ (.int .i64 Q.k)).setCell ⟨g, c * 6 + 2, none⟩ (.int .i64 Q.n)).setCell ⟨g, c * 6 + 3, none⟩ (.int .i64 Q.i)).heap.size := by have := b1.size; simp; omega
    have k2 : Below B w w2 := k1.trans (b2.mono s1)
    exact (k2.setCell lg.1 _).trans (ht.below hbB (by have := b2.size; simp at this ⊢; have := b1.size; omega))

set_option maxHeartbeats 4000000 in
theorem markP_any (B g n cap : Nat) (A : Nat → Option Addr) (C : Nat → Nat) (P : Nat → Pc) (k : Nat) (w : World) (h : OwnP w B (some ⟨g, 0, none⟩) n cap A C P) (hB : B ≤ w.heap.size) (hn : n ≤ 64) (hm : ∀ i, i < n → (P i).m ≤ 1000) (hk : ofs k P n ≤ 1000000) :
    Calls Try.prog 26 #[.slice (some ⟨g, 0, none⟩) n cap, .int .i64 (k : Int)] w fun e w' => e = .returned (.int .i64 ((ofs k P n : Nat) : Int)) ∧ OwnP w' B (some ⟨g, 0, none⟩) n cap A C (mkd k P) ∧ Below B w w' := by
  have K0 : Hid (OwnP w B (some ⟨g, 0, none⟩) n cap A C (fun j => if j < 0 then mkd k P j else P j)) := h.congr (fun i _ => by simp)
  have HM : Hid (∀ i, i < n → (P i).m ≤ 1000) := hm
  clear h hm
  go_enter Try.func26, Try.ntmps26
  go_wp2
  go_loopw [1, 5] (fun vk vi wr => ∃ c : Nat, c ≤ n ∧ vk = .int .i64 ((ofs k P c : Nat) : Int) ∧ vi = .int .i64 (c : Int) ∧ OwnP wr B (some ⟨g, 0, none⟩) n cap A C (fun j => if j < c then mkd k P j else P j) ∧ Below B w wr) (fun _ vi _ => n - (intOf vi).toNat)
  case atStart => exact ⟨0, Nat.zero_le _, rfl, rfl, K0.out, Below.refl _ _⟩
  case round =>
    obtain ⟨c, hcn, rfl, rfl, hop, hbel⟩ := hrel
    clear K0
    have KO : Hid (OwnP wr B (some ⟨g, 0, none⟩) n cap A C (fun j => if j < c then mkd k P j else P j) ∧ Below B w wr) := ⟨hop, hbel⟩
    clear hop hbel
    by_cases hlt : c < n
    · have hki : (c : Int) < (n : Int) := by omega
      obtain ⟨o, HO⟩ : ∃ o, Hid (ofs k P c = o) := ⟨_, rfl⟩
      have ho : o + 5 + (P c).m ≤ 1000000 := by rw [← HO.out]; exact Nat.le_trans (ofs_le k P (show c + 1 ≤ n by omega)) hk
      rw [HO.out]
      have HQ : Hid (mkd k P c = ⟨mtxt o, ((o + 1 : Nat) : Int), ((o + 2 : Nat) : Int), ((o + 3 : Nat) : Int), mtxt (o + 4), (P c).m, fun j => mtxt (o + 5 + j)⟩) := by show _ = _; unfold mkd; rw [HO.out]
      have hmc := HM.out c hlt
      have HNX : Hid (ofs k P (c + 1) = o + 5 + (P c).m) := by show ofs k P c + 5 + (P c).m = _; rw [HO.out]
      have hsB := KO.out.2.size
      have hBr : B ≤ wr.heap.size := by omega
      have lg := World.ownsRow.lt KO.out.1.1 g rfl
      have HCl : Hid (∀ q, q < 6 → wr.cell? ⟨g, c * 6 + q, none⟩ = some (cel (P c) (.slice (A c) (P c).m (C c)) q)) := fun q hq => by
        have := KO.out.1.1.cell hlt hq
        simpa using this
      have HFr : Hid (∀ q, wr.frozen? ⟨g, c * 6 + q, none⟩ = false) := fun q => World.ownsRow.frozenAt KO.out.1.1 _
      have KT : Hid (OwnT wr B (A c) (P c).m (C c) (P c).S) := by
        have := KO.out.1.2.1 c hlt
        show OwnT _ _ _ _ _ _
        simpa using this
      obtain ⟨o1, HO1⟩ : ∃ x, Hid (x = o + 1) := ⟨_, rfl⟩
      obtain ⟨o2, HO2⟩ : ∃ x, Hid (x = o + 2) := ⟨_, rfl⟩
      obtain ⟨o3, HO3⟩ : ∃ x, Hid (x = o + 3) := ⟨_, rfl⟩
      obtain ⟨o4, HO4⟩ : ∃ x, Hid (x = o + 4) := ⟨_, rfl⟩
      obtain ⟨o5, HO5⟩ : ∃ x, Hid (x = o + 5) := ⟨_, rfl⟩
      have e1 : (o : Int) + 1 = (o1 : Int) := by have := HO1.out; omega
      have e2 : (o1 : Int) + 1 = (o2 : Int) := by have := HO1.out; have := HO2.out; omega
      have e3 : (o2 : Int) + 1 = (o3 : Int) := by have := HO3.out; have := HO2.out; omega
      have e4 : (o3 : Int) + 1 = (o4 : Int) := by have := HO3.out; have := HO4.out; omega
      have e5 : (o4 : Int) + 1 = (o5 : Int) := by have := HO5.out; have := HO4.out; omega
      have l5 : o5 + (P c).m ≤ 1000000 ∧ o4 < o5 ∧ o3 < o4 ∧ o2 < o3 ∧ o1 < o2 ∧ o < o1 := by have := HO1.out; have := HO2.out; have := HO3.out; have := HO4.out; have := HO5.out; omega
      obtain ⟨s0, HS0⟩ : ∃ x, Hid (mtxt o = x) := ⟨_, rfl⟩
      obtain ⟨s4, HS4⟩ : ∃ x, Hid (mtxt o4 = x) := ⟨_, rfl⟩
      obtain ⟨m, HMm⟩ : ∃ x, Hid ((P c).m = x) := ⟨_, rfl⟩
      have KM0 : Hid (∀ W, Calls Try.prog 60 #[.int .i64 (o : Int)] W fun e w' => e = .returned (.string s0) ∧ Below W.heap.size W w') := fun W => by rw [← HS0.out]; exact markText_any o W (by omega)
      have KM4 : Hid (∀ W, Calls Try.prog 60 #[.int .i64 (o4 : Int)] W fun e w' => e = .returned (.string s4) ∧ Below W.heap.size W w') := fun W => by rw [← HS4.out]; exact markText_any o4 W (by omega)
      rw [HMm.out] at l5 hmc HNX
      obtain ⟨q6, HQ6⟩ : ∃ x, Hid (o5 + m = x) := ⟨_, rfl⟩
      have x0 := HCl.out 0 (by omega)
      have x1 := HCl.out 1 (by omega)
      have x2 := HCl.out 2 (by omega)
      have x3 := HCl.out 3 (by omega)
      have f0 := HFr.out 0
      have f1 := HFr.out 1
      have f2 := HFr.out 2
      have f3 := HFr.out 3
      simp only [cel, Nat.add_zero] at x0 x1 x2 x3 f0
      clear hk HFr HCl ho
      have l5' : o5 + m ≤ 1000000 := l5.1
      have l51 : o5 ≤ 1000000 ∧ o4 ≤ 1000000 ∧ o3 ≤ 1000000 ∧ o2 ≤ 1000000 ∧ o1 ≤ 1000000 ∧ o ≤ 1000000 := by omega
      obtain ⟨u5, u4, u3, u2, u1, u0⟩ := l51
      clear l5
      go_wp2_with fail
      refine Calls.mono (KM0.out _) ?_
      rintro e w1 ⟨rfl, b1⟩
      replace x0 := (b1.cell (p := ⟨g, c * 6, none⟩) lg.2).trans x0
      replace x1 := (b1.cell (p := ⟨g, c * 6 + 1, none⟩) lg.2).trans x1
      replace x2 := (b1.cell (p := ⟨g, c * 6 + 2, none⟩) lg.2).trans x2
      replace x3 := (b1.cell (p := ⟨g, c * 6 + 3, none⟩) lg.2).trans x3
      replace f0 := (World.frozen?_of_block (a := ⟨g, c * 6, none⟩) (b1.block _ lg.2)).trans f0
      replace f1 := (World.frozen?_of_block (a := ⟨g, c * 6 + 1, none⟩) (b1.block _ lg.2)).trans f1
      replace f2 := (World.frozen?_of_block (a := ⟨g, c * 6 + 2, none⟩) (b1.block _ lg.2)).trans f2
      replace f3 := (World.frozen?_of_block (a := ⟨g, c * 6 + 3, none⟩) (b1.block _ lg.2)).trans f3
      have B1 : Hid (Below wr.heap.size wr w1) := b1
      have E1 := ((((KO.out.1.1.below b1).set hlt (show 0 < 6 by omega) (.string s0)).set hlt (show 1 < 6 by omega) (.int .i64 (o1 : Int))).set hlt (show 2 < 6 by omega) (.int .i64 (o2 : Int))).set hlt (show 3 < 6 by omega) (.int .i64 (o3 : Int))
      rw [Nat.add_zero] at E1
      obtain ⟨W1, HW1⟩ : ∃ x, Hid (x = ((((w1.setCell ⟨g, c * 6, none⟩ (.string s0)).setCell ⟨g, c * 6 + 1, none⟩ (.int .i64 (o1 : Int))).setCell ⟨g, c * 6 + 2, none⟩ (.int .i64 (o2 : Int))).setCell ⟨g, c * 6 + 3, none⟩ (.int .i64 (o3 : Int)))) := ⟨_, rfl⟩
      rw [← HW1.out] at E1
      have HE1 : Hid (OwnC W1 B (some ⟨g, 0, none⟩) n cap (fun i' q' => if i' = c ∧ q' = 3 then .int .i64 (o3 : Int) else if i' = c ∧ q' = 2 then .int .i64 (o2 : Int) else if i' = c ∧ q' = 1 then .int .i64 (o1 : Int) else if i' = c ∧ q' = 0 then .string s0 else cel (if i' < c then mkd k P i' else P i') (.slice (A i') (if i' < c then mkd k P i' else P i').m (C i')) q')) := E1
      have far : ∀ x, A c = some x → x.block ≠ g := fun x e => KO.out.1.2.2.2 c x _ hlt e rfl
      have HT1 : Hid (OwnT W1 B (A c) (P c).m (C c) (P c).S) := by
        show OwnT _ _ _ _ _ _
        rw [HW1.out]
        exact own_kept (own_kept (own_kept (own_kept (OwnT.below KT.out b1) (grown_set _ _ _ _) far) (grown_set _ _ _ _) far) (grown_set _ _ _ _) far) (grown_set _ _ _ _) far
      have hFar : Hid (∀ x, A c = some x → x.block ≠ g) := far
      have lW1 : g < W1.heap.size := (World.ownsRow.lt E1 g rfl).2
      clear b1 E1 far
      go_wp2_with fail
      rw [← HW1.out]
      clear x0 x1 x2 x3 f0 f1 f2 f3
      refine Calls.mono (KM4.out _) ?_
      rintro e w2 ⟨rfl, b2⟩
      have E2 := HE1.out.below b2
      have x4 := E2.cell hlt (show 4 < 6 by omega)
      have x5 := E2.cell hlt (show 5 < 6 by omega)
      have f4 := World.ownsRow.frozenAt E2 (c * 6 + 4)
      simp [cel] at x4 x5
      rw [HMm.out] at x5
      have B2 : Hid (Below W1.heap.size W1 w2) := b2
      obtain ⟨W2, HW2⟩ : ∃ x, Hid (x = w2.setCell ⟨g, c * 6 + 4, none⟩ (.string s4)) := ⟨_, rfl⟩
      have HT2 : Hid (OwnT W2 B (A c) m (C c) (P c).S) := by
        show OwnT _ _ _ _ _ _
        rw [HW2.out, ← HMm.out]
        exact own_kept (OwnT.below HT1.out b2) (grown_set _ _ _ _) hFar.out
      obtain ⟨bB, bE, HX⟩ : ∃ bB bE, Hid (((A c = none ∧ bE ≤ bB ∧ B ≤ bB) ∨ ∃ x, A c = some x ∧ bB = x.block ∧ bE = x.block + 1) ∧ RowT W2 bB bE (A c) m (C c) (P c).S) := by
        cases hA : A c with
        | none =>
          refine ⟨B, B, .inl ⟨rfl, Nat.le_refl _, Nat.le_refl _⟩, ?_, fun x e => by cases e⟩
          have := HT2.out
          rw [hA] at this
          exact this
        | some x =>
          refine ⟨x.block, x.block + 1, .inr ⟨x, rfl, rfl, rfl⟩, ?_, fun y e => by cases e; omega⟩
          have h2 := HT2.out
          rw [hA] at h2
          refine ⟨h2.1, ?_⟩
          rcases h2.2 with h' | ⟨g', cap', cur, h', _, hr⟩
          · exact .inl h'
          · exact .inr ⟨g', cap', cur, h', by cases h'; exact Nat.le_refl _, hr⟩
      have KMS : Hid (Calls Try.prog 61 #[.slice (A c) m (C c), .int .i64 (o5 : Int)] W2 fun e w' => e = .returned (.int .i64 (q6 : Int)) ∧ RowT w' bB bE (A c) m (C c) (fun i => mtxt (o5 + i)) ∧ TurnM W2 w' bB bE) := markT_any bB bE (A c) m (C c) (P c).S o5 q6 W2 HX.out.2 (by omega) (by omega) HQ6.out
      clear b2 E2
      go_wp2_with fail
      rw [← HW2.out]
      refine Calls.mono KMS.out ?_
      rintro e w3 ⟨rfl, hR3, hT3⟩
      have HN : Hid (OwnP w3 B (some ⟨g, 0, none⟩) n cap A C (fun j => if j < c + 1 then mkd k P j else P j) ∧ Below B w w3) := by
        have hq : mkd k P c = ⟨s0, (o1 : Int), (o2 : Int), (o3 : Int), s4, m, fun j => mtxt (o5 + j)⟩ := by
          rw [HQ.out, ← HO1.out, ← HO2.out, ← HO3.out, ← HO4.out, ← HO5.out, HS0.out, HS4.out, HMm.out]
        have := OwnP.marked (Q := mkd k P c) KO.out.1 hlt hBr B1.out (by rw [hq]; simp only [Nat.add_zero]; rw [← HW1.out]; exact B2.out) (by simp [mkd]) HX.out.1 (by rw [hq]; simp; rw [HMm.out]; exact hR3) (by rw [hq]; rw [← HW2.out]; exact hT3)
        refine ⟨this.1.congr (fun i hi => ?_), KO.out.2.trans this.2⟩
        by_cases ei : i = c
        · simp [ei]
        · by_cases e2 : i < c
          · simp [ei, e2, show i < c + 1 by omega]
          · simp [ei, e2, show ¬ i < c + 1 by omega]
      have HQQ : Hid ((q6 : Int) = ((ofs k P (c + 1) : Nat) : Int)) := by show _ = _; rw [HNX.out, ← HQ6.out, HO5.out]
      clear hR3 hT3 x4 x5 f4
      go_wp2
      go_roundw
      case rel => exact ⟨c + 1, by omega, by rw [HQQ.out], by go_num, HN.out.1, HN.out.2⟩
      case measure => simp [intOf]; omega
    · obtain rfl : c = n := by omega
      have HF : Hid (OwnP wr B (some ⟨g, 0, none⟩) c cap A C (mkd k P)) := KO.out.1.congr (fun i hi => if_pos hi)
      go_wp2
      go_ret
      exact ⟨rfl, HF.out, KO.out.2⟩
end Go.Proofs.Ytahgdbmilflcmaa
