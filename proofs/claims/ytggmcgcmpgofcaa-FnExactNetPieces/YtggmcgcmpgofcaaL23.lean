/- The pieces of a text, in the program. Condition: a text of at most 2^20 bytes. -/
import Derived.Test.YtggmcgcmpgofcaaL21
import Derived.Test.YtggmcgcmpgofcaaL20
import Derived.Test.YtggmcgcmpgofcaaL8
import Derived.Test.YtggmcgcmpgofcaaL14
namespace Go.Proofs.Ytggmcgcmpgofcaa
set_option maxRecDepth 2000
open Go.ChangeShapes Go.WideShapes Go.ChangeAt Go.RowKit

def zc : Nat → Value
  | 0 => .string ByteArray.empty
  | 1 => .int .i64 0
  | 2 => .int .i64 0
  | 3 => .int .i64 0
  | 4 => .string ByteArray.empty
  | _ => .slice none 0 0
/-- The first c of n pieces laid, the others of their zero value. -/
def CutI (wr : World) (B G n : Nat) (P : Nat → Pc) (c : Nat) : Prop := ∃ (A : Nat → Option Addr) (C : Nat → Nat),
  OwnC wr B (some ⟨G, 0, none⟩) n n (fun i => if i < c then cel (P i) (.slice (A i) (P i).m (C i)) else zc) ∧ (∀ i, i < c → OwnT wr B (A i) (P i).m (C i) (P i).S) ∧
  (∀ i j x y, i < j → j < c → A i = some x → A j = some y → x.block ≠ y.block) ∧ (∀ i x, i < c → A i = some x → x.block ≠ G)
theorem CutI.step {wr w2 : World} {B G n : Nat} {P : Nat → Pc} {c : Nat} {aP : Option Addr} {cP : Nat} (h : CutI wr B G n P c) (hc : c < n) (hb : Below wr.heap.size wr w2) (hB : B ≤ wr.heap.size) (ho : OwnT w2 wr.heap.size aP (P c).m cP (P c).S) :
    CutI ((((((w2.setCell ⟨G, c * 6 + 0, none⟩ (.string (P c).r)).setCell ⟨G, c * 6 + 1, none⟩ (.int .i64 (P c).k)).setCell ⟨G, c * 6 + 2, none⟩ (.int .i64 (P c).n)).setCell ⟨G, c * 6 + 3, none⟩ (.int .i64 (P c).i)).setCell ⟨G, c * 6 + 4, none⟩ (.string (P c).b)).setCell ⟨G, c * 6 + 5, none⟩ (.slice aP (P c).m cP)) B G n P (c + 1) := by
  obtain ⟨A, C, h1, h2, h3, h4⟩ := h
  have lG := (World.ownsRow.lt h1 G rfl).2
  refine ⟨fun i => if i = c then aP else A i, fun i => if i = c then cP else C i, ?_, ?_, ?_, ?_⟩
  · have e := (((((h1.below hb).set hc (show 0 < 6 by omega) (.string (P c).r)).set hc (show 1 < 6 by omega) (.int .i64 (P c).k)).set hc (show 2 < 6 by omega) (.int .i64 (P c).n)).set hc (show 3 < 6 by omega) (.int .i64 (P c).i)).set hc (show 4 < 6 by omega) (.string (P c).b)
    have e2 := e.set hc (show 5 < 6 by omega) (.slice aP (P c).m cP)
    refine e2.congr fun i q hi hq => ?_
    by_cases ei : i = c
    · subst ei
      match q, hq with
      | 0, _ => simp [cel]
      | 1, _ => simp [cel]
      | 2, _ => simp [cel]
      | 3, _ => simp [cel]
      | 4, _ => simp [cel]
      | 5, _ => simp [cel]
    · by_cases e2 : i < c
      · simp [ei, e2, show i < c + 1 by omega]
      · simp [ei, e2, show ¬ i < c + 1 by omega]
  · intro i hi
    by_cases ei : i = c
    · subst ei
      simp only [if_true]
      have o1 : OwnT w2 B aP (P i).m cP (P i).S := OwnT.base ho hB
      have far : ∀ x, aP = some x → x.block ≠ G := fun x e => by subst e; have := (World.ownsRow.lt ho x.block rfl).1; omega
      exact own_kept (own_kept (own_kept (own_kept (own_kept (own_kept o1 (grown_set _ _ _ _) far) (grown_set _ _ _ _) far) (grown_set _ _ _ _) far) (grown_set _ _ _ _) far) (grown_set _ _ _ _) far) (grown_set _ _ _ _) far
    · simp only [ei, if_false]
      have o1 := OwnT.below (h2 i (by omega)) hb
      have far : ∀ x, A i = some x → x.block ≠ G := fun x e => h4 i x (by omega) e
      exact own_kept (own_kept (own_kept (own_kept (own_kept (own_kept o1 (grown_set _ _ _ _) far) (grown_set _ _ _ _) far) (grown_set _ _ _ _) far) (grown_set _ _ _ _) far) (grown_set _ _ _ _) far) (grown_set _ _ _ _) far
  · intro i j x y hij hj hx hy
    replace hx : (if i = c then aP else A i) = some x := hx
    replace hy : (if j = c then aP else A j) = some y := hy
    by_cases ej : j = c
    · subst ej
      simp only [if_true] at hy
      rw [if_neg (by omega)] at hx
      subst hy
      have l1 := (World.ownsRow.lt ho y.block rfl).1
      have hoi := h2 i (by omega)
      rw [hx] at hoi
      have l2 := (World.ownsRow.lt hoi x.block rfl).2
      omega
    · rw [if_neg ej] at hy
      rw [if_neg (by omega)] at hx
      exact h3 i j x y hij (by omega) hx hy
  · intro i x hi hx
    replace hx : (if i = c then aP else A i) = some x := hx
    by_cases ei : i = c
    · subst ei
      simp only [if_true] at hx
      subst hx
      have := (World.ownsRow.lt ho x.block rfl).1
      omega
    · rw [if_neg ei] at hx
      exact h4 i x (by omega) hx
theorem CutI.all {wr : World} {B G n : Nat} {P : Nat → Pc} (h : CutI wr B G n P n) : ∃ A C, OwnP wr B (some ⟨G, 0, none⟩) n n A C P := by
  obtain ⟨A, C, h1, h2, h3, h4⟩ := h
  refine ⟨A, C, h1.congr (fun i q hi _ => by simp [hi]), h2, h3, fun i x y hi hx hy => ?_⟩
  cases hy
  exact h4 i x hi hx

end Go.Proofs.Ytggmcgcmpgofcaa
/- The pieces of all bodies, of a text, and their root, in the model. Conditions: at most 64 bodies of at most 2^20 bytes; a text of at most 2^20 bytes. -/
namespace Go.Proofs.Ytggmcgcmpgofcaa
set_option maxRecDepth 2000
open Go.ChangeShapes Go.WideShapes Go.ChangeAt Go.RowKit

theorem OwnP.base {w : World} {B B' : Nat} {a : Option Addr} {n cap : Nat} {A : Nat → Option Addr} {C : Nat → Nat} {P : Nat → Pc} (h : OwnP w B a n cap A C P) (hB : B' ≤ B) : OwnP w B' a n cap A C P :=
  ⟨own_base h.1 hB, fun i hi => OwnT.base (h.2.1 i hi) hB, h.2.2⟩
end Go.Proofs.Ytggmcgcmpgofcaa
/- Lists of pieces that the exact laws mark, ask for their marks, and compare. Conditions stand at each. -/
namespace Go.Proofs.Ytggmcgcmpgofcaa
set_option maxRecDepth 2000
open Go.ChangeShapes Go.WideShapes Go.ChangeAt Go.RowKit

/-- The first mark of piece i. -/
def ofs (k : Nat) (P : Nat → Pc) : Nat → Nat
  | 0 => k
  | i + 1 => ofs k P i + 5 + (P i).m
theorem ofs_le (k : Nat) (P : Nat → Pc) {i j : Nat} (h : i ≤ j) : ofs k P i ≤ ofs k P j := by
  induction j with
  | zero => obtain rfl : i = 0 := by omega
            exact Nat.le_refl _
  | succ j ih =>
    by_cases e : i = j + 1
    · subst e; exact Nat.le_refl _
    · have := ih (by omega)
      show _ ≤ ofs k P j + 5 + (P j).m
      omega
/-- The pieces, marked from k on. -/
def mkd (k : Nat) (P : Nat → Pc) (i : Nat) : Pc := ⟨mtxt (ofs k P i), ((ofs k P i + 1 : Nat) : Int), ((ofs k P i + 2 : Nat) : Int), ((ofs k P i + 3 : Nat) : Int), mtxt (ofs k P i + 4), (P i).m, fun j => mtxt (ofs k P i + 5 + j)⟩
theorem OwnP.congr {w : World} {B : Nat} {a : Option Addr} {n cap : Nat} {A : Nat → Option Addr} {C : Nat → Nat} {P P' : Nat → Pc} (h : OwnP w B a n cap A C P) (e : ∀ i, i < n → P i = P' i) : OwnP w B a n cap A C P' :=
  ⟨h.1.congr (fun i q hi _ => by rw [e i hi]), fun i hi => by rw [← e i hi]; exact h.2.1 i hi, h.2.2⟩
theorem OwnP.marked {w w1 w2 w3 : World} {B g n cap : Nat} {A : Nat → Option Addr} {C : Nat → Nat} {P : Nat → Pc} {c bB bE : Nat} {Q : Pc} (h : OwnP w B (some ⟨g, 0, none⟩) n cap A C P) (hc : c < n) (hB : B ≤ w.heap.size)
    (b1 : Below w.heap.size w w1)
    (b2 : Below ((((w1.setCell ⟨g, c * 6 + 0, none⟩ (.string Q.r)).setCell ⟨g, c * 6 + 1, none⟩ (.int .i64 Q.k)).setCell ⟨g, c * 6 + 2, none⟩ (.int .i64 Q.n)).setCell ⟨g, c * 6 + 3, none⟩ (.int .i64 Q.i)).heap.size ((((w1.setCell ⟨g, c * 6 + 0, none⟩ (.string Q.r)).setCell ⟨g, c * 6 + 1, none⟩ (.int .i64 Q.k)).setCell ⟨g, c * 6 + 2, none⟩ (.int .i64 Q.n)).setCell ⟨g, c * 6 + 3, none⟩ (.int .i64 Q.i)) w2) (hm : Q.m = (P c).m)
    (hX : (A c = none ∧ bE ≤ bB ∧ B ≤ bB) ∨ ∃ x, A c = some x ∧ bB = x.block ∧ bE = x.block + 1)
    (hR : RowT w3 bB bE (A c) (P c).m (C c) Q.S) (ht : TurnM (w2.setCell ⟨g, c * 6 + 4, none⟩ (.string Q.b)) w3 bB bE) :
    OwnP w3 B (some ⟨g, 0, none⟩) n cap A C (fun j => if j = c then Q else P j) ∧ Below B w w3 := by
  obtain ⟨h1, h2, h3, h4⟩ := h
  have lg := World.ownsRow.lt h1 g rfl
  have hbB : B ≤ bB := by
    rcases hX with ⟨_, _, e⟩ | ⟨x, e, e1, _⟩
    · exact e
    · have := h2 c hc
      rw [e] at this
      have := (World.ownsRow.lt this x.block rfl).1
      omega
  have hgb : ¬ (bB ≤ g ∧ g < bE) := by
    rcases hX with ⟨_, e, _⟩ | ⟨x, e, e1, e2⟩
    · omega
    · have := h4 c x _ hc e rfl
      have : x.block ≠ g := this
      omega
  have hb2' : Below w.heap.size ((((w1.setCell ⟨g, c * 6 + 0, none⟩ (.string Q.r)).setCell ⟨g, c * 6 + 1, none⟩ (.int .i64 Q.k)).setCell ⟨g, c * 6 + 2, none⟩ (.int .i64 Q.n)).setCell ⟨g, c * 6 + 3, none⟩ (.int .i64 Q.i)) w2 := b2.mono (by simpa using b1.size)
  refine ⟨⟨?_, ?_, h3, h4⟩, ?_⟩
  · have e := ((((h1.below b1).set hc (show 0 < 6 by omega) (.string Q.r)).set hc (show 1 < 6 by omega) (.int .i64 Q.k)).set hc (show 2 < 6 by omega) (.int .i64 Q.n)).set hc (show 3 < 6 by omega) (.int .i64 Q.i)
    have e2 := (e.below b2).set hc (show 4 < 6 by omega) (.string Q.b)
    have e3 := own_turn2 e2 ht (fun x ex => by cases ex; exact hgb)
    refine OwnC.congr e3 fun i q hi hq => ?_
    by_cases ei : i = c
    · subst ei
      match q, hq with
      | 0, _ => simp [cel]
      | 1, _ => simp [cel]
      | 2, _ => simp [cel]
      | 3, _ => simp [cel]
      | 4, _ => simp [cel]
      | 5, _ => simp [cel, hm]
    · simp [ei]
  · intro i hi
    by_cases ei : i = c
    · subst ei
      simp only [if_true]
      rw [hm]
      exact OwnT.base hR.1 hbB
    · simp only [ei, if_false]
      have far : ∀ x, A i = some x → x.block ≠ g := fun x e => h4 i x _ hi e rfl
      have o1 : OwnT ((((w1.setCell ⟨g, c * 6 + 0, none⟩ (.string Q.r)).setCell ⟨g, c * 6 + 1, none⟩ (.int .i64 Q.k)).setCell ⟨g, c * 6 + 2, none⟩ (.int .i64 Q.n)).setCell ⟨g, c * 6 + 3, none⟩ (.int .i64 Q.i)) B (A i) (P i).m (C i) (P i).S := own_kept (own_kept (own_kept (own_kept (OwnT.below (h2 i hi) b1) (grown_set _ _ _ _) far) (grown_set _ _ _ _) far) (grown_set _ _ _ _) far) (grown_set _ _ _ _) far
      have o2 : OwnT (w2.setCell ⟨g, c * 6 + 4, none⟩ (.string Q.b)) B (A i) (P i).m (C i) (P i).S := own_kept (OwnT.below o1 b2) (grown_set _ _ _ _) far
      refine own_turn2 o2 ht (fun x ex => ?_)
      rcases hX with ⟨_, e, _⟩ | ⟨y, e, e1, e2⟩
      · omega
      · have hne : x.block ≠ y.block := by
          by_cases hl : i < c
          · exact h3 i c x y hl hc ex e
          · exact Ne.symm (h3 c i y x (by omega) hi e ex)
        omega
  · have k1 : Below B w ((((w1.setCell ⟨g, c * 6 + 0, none⟩ (.string Q.r)).setCell ⟨g, c * 6 + 1, none⟩ (.int .i64 Q.k)).setCell ⟨g, c * 6 + 2, none⟩ (.int .i64 Q.n)).setCell ⟨g, c * 6 + 3, none⟩ (.int .i64 Q.i)) := Below.setCell (Below.setCell (Below.setCell (Below.setCell (b1.mono hB) lg.1 _) lg.1 _) lg.1 _) lg.1 _
    have s1 : B ≤ ((((w1.setCell ⟨g, c * 6 + 0, none⟩ (.string Q.r)).setCell ⟨g, c * 6 + 1, none⟩ (.int .i64 Q.k)).setCell ⟨g, c * 6 + 2, none⟩ (.int .i64 Q.n)).setCell ⟨g, c * 6 + 3, none⟩ (.int .i64 Q.i)).heap.size := by have := b1.size; simp; omega
    have k2 : Below B w w2 := k1.trans (b2.mono s1)
    exact (k2.setCell lg.1 _).trans (ht.below hbB (by have := b2.size; simp at this ⊢; have := b1.size; omega))

end Go.Proofs.Ytggmcgcmpgofcaa
/- Lists of pieces asked for their marks, and compared. Conditions stand at each. -/
namespace Go.Proofs.Ytggmcgcmpgofcaa
set_option maxRecDepth 2000
open Go.ChangeShapes Go.WideShapes Go.ChangeAt Go.RowKit

theorem PiAt.own {w : World} {g n : Nat} {P : Nat → Pc} (h : PiAt w (some ⟨g, 0, none⟩) n P) {i : Nat} (hi : i < n) : ∃ ap cp, (∀ q, q < 6 → w.cell? ⟨g, i * 6 + q, none⟩ = some (cel (P i) (.slice ap (P i).m cp) q)) ∧ TxtAt w ap (P i).m (P i).S := by
  obtain ⟨b, off, ap, cp, e, hc, ht⟩ := h i hi
  cases e
  exact ⟨ap, cp, fun q hq => by have := hc q hq; rwa [Nat.zero_add] at this, ht⟩

set_option maxHeartbeats 4000000 in
theorem eqPs_same (a a' : Option Addr) (n ca ca' : Nat) (P : Nat → Pc) (w : World) (h : PiAt w a n P) (h' : PiAt w a' n P) (hn : n ≤ 1048576) (hm : ∀ i, i < n → (P i).m ≤ 1048576) :
    Calls Try.prog 28 #[.slice a n ca, .slice a' n ca'] w fun e w' => e = .returned (.bool true) ∧ Below w.heap.size w w' := by
  have KH : Hid (PiAt w a n P ∧ PiAt w a' n P) := ⟨h, h'⟩
  have HM : Hid (∀ i, i < n → (P i).m ≤ 1048576) := hm
  have hnn : ((n : Int) != (n : Int)) = false := by simp
  clear h h' hm
  go_enter Try.func28, Try.ntmps28
  go_wp2
  go_loopw [5] (fun vi wr => ∃ c : Nat, c ≤ n ∧ vi = .int .i64 (c : Int) ∧ Below w.heap.size w wr) (fun vi _ => n - (intOf vi).toNat)
  case atStart => exact ⟨0, Nat.zero_le _, rfl, Below.refl _ _⟩
  case round =>
    obtain ⟨c, hcn, rfl, hbel⟩ := hrel
    by_cases hlt : c < n
    · have hki : (c : Int) < (n : Int) := by omega
      have hmc := HM.out c hlt
      obtain ⟨b1, f1, ap, cp, rfl, hc1, ht1⟩ := (KH.out.1.below hbel) c hlt
      obtain ⟨b2, f2, aq, cq, rfl, hc2, ht2⟩ := (KH.out.2.below hbel) c hlt
      generalize P c = p at hc1 hc2 ht1 ht2 hmc
      obtain ⟨rr, kk, nn, ii, bb, m, S⟩ := p
      have x0 := hc1 0 (by omega)
      have y0 := hc2 0 (by omega)
      have x1 := hc1 1 (by omega)
      have y1 := hc2 1 (by omega)
      have x2 := hc1 2 (by omega)
      have y2 := hc2 2 (by omega)
      have x3 := hc1 3 (by omega)
      have y3 := hc2 3 (by omega)
      have x4 := hc1 4 (by omega)
      have y4 := hc2 4 (by omega)
      have x5 := hc1 5 (by omega)
      have y5 := hc2 5 (by omega)
      simp only [cel, Nat.add_zero, ← Nat.add_assoc] at x0 y0 x1 y1 x2 y2 x3 y3 x4 y4 x5 y5
      have l1 := block_lt_of_cell x0
      have l2 := block_lt_of_cell y0
      have KT : Hid (∀ W, Below wr.heap.size wr W → Calls Try.prog 56 #[pcV rr kk nn ii bb (.slice ap m cp), pcV rr kk nn ii bb (.slice aq m cq)] W fun e w' => e = .returned (.bool true) ∧ Below W.heap.size W w') := fun W hW => eqPc_same rr kk nn ii bb ap aq m cp cq S W (ht1.below hW) (ht2.below hW) hmc
      have KB : Hid (Below w.heap.size w wr) := hbel
      clear hc1 hc2 ht1 ht2 hmc hbel
      go_wp2_with fail
      go_region_held3 (fun w' => w'.cell? ⟨b1, f1 + c * 6, none⟩ = some (.string rr) ∧ w'.cell? ⟨b1, f1 + c * 6 + 1, none⟩ = some (.int .i64 kk) ∧ w'.cell? ⟨b1, f1 + c * 6 + 2, none⟩ = some (.int .i64 nn) ∧ w'.cell? ⟨b1, f1 + c * 6 + 3, none⟩ = some (.int .i64 ii) ∧ w'.cell? ⟨b1, f1 + c * 6 + 4, none⟩ = some (.string bb) ∧ w'.cell? ⟨b1, f1 + c * 6 + 5, none⟩ = some (.slice ap m cp) ∧ w'.cell? ⟨b2, f2 + c * 6, none⟩ = some (.string rr) ∧ w'.cell? ⟨b2, f2 + c * 6 + 1, none⟩ = some (.int .i64 kk) ∧ w'.cell? ⟨b2, f2 + c * 6 + 2, none⟩ = some (.int .i64 nn) ∧ w'.cell? ⟨b2, f2 + c * 6 + 3, none⟩ = some (.int .i64 ii) ∧ w'.cell? ⟨b2, f2 + c * 6 + 4, none⟩ = some (.string bb) ∧ w'.cell? ⟨b2, f2 + c * 6 + 5, none⟩ = some (.slice aq m cq)) (go_keep) ((go_at_call 56; refine Calls.mono (KT.out _ ⟨rfl, rfl, rfl, Nat.le_refl _, fun _ _ => rfl⟩) ?_; rintro e w7 ⟨rfl, b7'⟩; have b7 := below_of_drew b7'; clear b7'; have p0 := (b7.cell (p := ⟨b1, f1 + c * 6, none⟩) l1).trans x0; have z0 := (b7.cell (p := ⟨b2, f2 + c * 6, none⟩) l2).trans y0; have p1 := (b7.cell (p := ⟨b1, f1 + c * 6 + 1, none⟩) l1).trans x1; have z1 := (b7.cell (p := ⟨b2, f2 + c * 6 + 1, none⟩) l2).trans y1; have p2 := (b7.cell (p := ⟨b1, f1 + c * 6 + 2, none⟩) l1).trans x2; have z2 := (b7.cell (p := ⟨b2, f2 + c * 6 + 2, none⟩) l2).trans y2; have p3 := (b7.cell (p := ⟨b1, f1 + c * 6 + 3, none⟩) l1).trans x3; have z3 := (b7.cell (p := ⟨b2, f2 + c * 6 + 3, none⟩) l2).trans y3; have p4 := (b7.cell (p := ⟨b1, f1 + c * 6 + 4, none⟩) l1).trans x4; have z4 := (b7.cell (p := ⟨b2, f2 + c * 6 + 4, none⟩) l2).trans y4; have p5 := (b7.cell (p := ⟨b1, f1 + c * 6 + 5, none⟩) l1).trans x5; have z5 := (b7.cell (p := ⟨b2, f2 + c * 6 + 5, none⟩) l2).trans y5))
      all_goals
        have HB7 : Hid (Below w.heap.size w w7) := below2 KB.out b7
        clear p0 z0 x0 y0 p1 z1 x1 y1 p2 z2 x2 y2 p3 z3 x3 y3 p4 z4 x4 y4 p5 z5 x5 y5 b7
        go_wp2
        go_roundw
        case rel => exact ⟨c + 1, by omega, by go_num, HB7.out⟩
        case measure => simp [intOf]; omega
    · go_wp2
      go_ret
      exact ⟨rfl, hbel⟩
end Go.Proofs.Ytggmcgcmpgofcaa
