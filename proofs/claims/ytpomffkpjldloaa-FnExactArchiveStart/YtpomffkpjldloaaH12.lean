/- The program's functions over polynomials that write or call in an open order: numbers, putting one scaled on top of another, values. Conditions: lists of at most 2^20 numbers, byte numbers. -/
import Derived.Test.YtpomffkpjldloaaH9
import Derived.Test.YtpomffkpjldloaaH8
import Derived.Test.YtpomffkpjldloaaH6
namespace Go.Proofs.Ytpomffkpjldloaa
set_option maxRecDepth 2000
open Go.ChangeShapes Go.WideShapes Go.ChangeAt Go.RowKit

end Go.Proofs.Ytpomffkpjldloaa
/- The program's division of polynomials: what the quotient and the rest are, and where they lie. Conditions: byte numbers, the divisor's last number not 0, lists of at most 2^20 numbers. -/
namespace Go.Proofs.Ytpomffkpjldloaa
set_option maxRecDepth 2000
open Go.ChangeShapes Go.WideShapes Go.ChangeAt Go.RowKit

theorem add_none (b j : Nat) : (⟨b, 0, none⟩ : Addr).add j = ⟨b, j, none⟩ := by unfold Addr.add; split <;> simp_all
theorem Els.news {w : World} {b n cap : Nat} {f : Nat → Nat} (h : Els w (some ⟨b, 0, none⟩) n cap f) : ∀ j u, ((eI f n).map (Value.int .u8))[j]? = some u → w.cell? ((⟨b, 0, none⟩ : Addr).add j) = some u := by
  intro j u hu
  rw [add_none]
  by_cases hj : j < n
  · obtain ⟨b', e, hc⟩ := h.at (i := j) hj
    cases e
    rw [hc]
    simpa [eI, hj] using hu
  · rw [List.getElem?_eq_none (by simp [eI_len]; omega)] at hu
    cases hu
end Go.Proofs.Ytpomffkpjldloaa
/- A list without the noughts at its end, in the program and in its model; byte numbers and polynomials in the model. Conditions: lists of at most 2^20 numbers. -/
namespace Go.Proofs.Ytpomffkpjldloaa
set_option maxRecDepth 2000
open Go.ChangeShapes Go.WideShapes Go.ChangeAt Go.RowKit

end Go.Proofs.Ytpomffkpjldloaa
/- What the laws' walks carry of the rows of whole numbers in play: which numbers they hold and between which blocks they lie; and the laws' own helpers that mark a row and look at the marks. Condition: rows of at most 2^20 numbers. -/
namespace Go.Proofs.Ytpomffkpjldloaa
set_option maxRecDepth 2000
open Go.ChangeShapes Go.WideShapes Go.ChangeAt Go.RowKit

/-- A row of ours that lies from block 'B' on, ahead of block 'E'. -/
def RowI (w : World) (B E : Nat) (a : Option Addr) (n cap : Nat) (zs : List Int) : Prop := OwnI w B (.slice a n cap) zs ∧ n = zs.length ∧ n ≤ cap ∧ ∀ k, (Value.slice a n cap).ownBlock = some k → B ≤ k ∧ k < E
theorem OwnI.row {w : World} {B E : Nat} {v : Value} {zs : List Int} (h : OwnI w B v zs) (hE : ∀ k, v.ownBlock = some k → k < E) : ∃ a cap, v = .slice a zs.length cap ∧ RowI w B E a zs.length cap zs := by
  rcases h.2 with ⟨e, hn⟩ | ⟨g, cap, cur, e, hB, hg, hcap, _⟩
  · refine ⟨none, 0, by rw [e, hn], ?_, rfl, by omega, fun k hk => by cases hk⟩
    rw [hn, ← e]
    exact h
  · subst e
    exact ⟨_, _, rfl, h, rfl, hcap, fun k hk => ⟨(World.ownsRow.lt h k hk).1, hE k hk⟩⟩
theorem RowI.ints {w : World} {B E : Nat} {a : Option Addr} {n cap : Nat} {zs : List Int} (h : RowI w B E a n cap zs) : IntsAt w a n zs := by
  obtain ⟨ho, rfl, _, _⟩ := h
  obtain ⟨a', cap', e, hi, _⟩ := ho.view
  cases e
  exact hi
theorem RowI.below {w w' : World} {B E : Nat} {a : Option Addr} {n cap : Nat} {zs : List Int} (h : RowI w B E a n cap zs) (hb : Below w.heap.size w w') : RowI w' B E a n cap zs := ⟨h.1.below hb, h.2⟩
/-- At most one block has turned, one that lies from 'B' on, ahead of 'E'. -/
def Turned (w w' : World) (B E : Nat) : Prop := ∃ r, w.grownBy w' r ∧ ∀ g, r = some g → B ≤ g ∧ g < E
theorem RowI.turned {w w' : World} {B E B' E' : Nat} {a : Option Addr} {n cap : Nat} {zs : List Int} (h : RowI w B E a n cap zs) (ht : Turned w w' B' E') (hd : E ≤ B' ∨ E' ≤ B) : RowI w' B E a n cap zs := by
  obtain ⟨r, hg, hr⟩ := ht
  refine ⟨World.ownsRow.kept h.1 hg ?_, h.2⟩
  cases hv : (Value.slice a n cap).ownBlock with
  | none => exact .inl rfl
  | some k =>
    right
    intro e
    have h1 := h.2.2.2 k hv
    have h2 := hr k e.symm
    omega
theorem Turned.below {w w' : World} {B E s : Nat} (h : Turned w w' B E) (hs : s ≤ B) (hw : s ≤ w.heap.size) : Below s w w' := by
  obtain ⟨r, hg, hr⟩ := h
  exact ⟨hg.os, hg.tape, hg.output, hg.size, fun j hj => hg.block j (by omega) (fun e => by have := hr j e.symm; omega)⟩
theorem Turned.size {w w' : World} {B E : Nat} (h : Turned w w' B E) : w.heap.size ≤ w'.heap.size := by
  obtain ⟨r, hg, _⟩ := h
  exact hg.size
/-- A list that was handed in: it lies ahead of block 's'. -/
def Arg (w : World) (s : Nat) (a : Option Addr) (n : Nat) (zs : List Int) : Prop := IntsAt w a n zs ∧ (0 < n → ∀ b off, a = some ⟨b, off, none⟩ → b < s)
theorem Arg.below {w w' : World} {s : Nat} {a : Option Addr} {n : Nat} {zs : List Int} (h : Arg w s a n zs) (hb : Below w.heap.size w w') : Arg w' s a n zs := ⟨h.1.below hb, h.2⟩
theorem Arg.turned {w w' : World} {s B E : Nat} {a : Option Addr} {n : Nat} {zs : List Int} (h : Arg w s a n zs) (ht : Turned w w' B E) (hs : s ≤ B) : Arg w' s a n zs := by
  obtain ⟨r, hg, hr⟩ := ht
  refine ⟨⟨h.1.1, fun i hi => ?_⟩, h.2⟩
  obtain ⟨b, off, e, hc⟩ := h.1.2 i hi
  refine ⟨b, off, e, hg.cell hc (fun e' => ?_)⟩
  have h1 := h.2 (by omega) b off e
  have h2 := hr b e'.symm
  omega
/-- The copies that the laws make. -/
theorem row_toIntS {w : World} {g n : Nat} {zs : List Int} (hl : zs.length = n) (h : w.ownsRow g 3 1 (.slice (some ⟨g, 0, none⟩) n n) n (zs.map (Value.int .i64))) : RowI w g (g + 1) (some ⟨g, 0, none⟩) n n zs := by
  refine ⟨?_, hl.symm, Nat.le_refl _, fun k hk => ?_⟩
  · unfold OwnI
    rw [hl]
    exact h
  · cases hk
    exact ⟨Nat.le_refl _, Nat.lt_succ_self _⟩

/-- The marks from 'k' on. -/
def marks (k n : Nat) : List Int := eI (fun i => k + i) n

theorem marks_step (k n c : Nat) (zs : List Int) (hl : zs.length = n) (hc : c < n) : ((marks k c ++ zs.drop c).map (Value.int .i64)).set c (.int .i64 ((k + c : Nat) : Int)) = (marks k (c + 1) ++ zs.drop (c + 1)).map (Value.int .i64) := by
  have hm : (marks k c).length = c := eI_len _ _
  have e1 : zs.drop c = (zs.drop c).headD 0 :: zs.drop (c + 1) := by
    cases hd : zs.drop c with
    | nil =>
      have := congrArg List.length hd
      simp at this
      omega
    | cons x xs =>
      have : zs.drop (c + 1) = xs := by rw [← List.tail_drop, hd]; rfl
      rw [this]
      rfl
  have e2 : marks k (c + 1) = marks k c ++ [((k + c : Nat) : Int)] := by
    unfold marks eI
    rw [List.range_succ, List.map_append]
    rfl
  rw [e2, e1]
  simp only [List.map_append, List.map_cons, List.map_nil]
  rw [List.set_append_right _ _ (by simp [hm])]
  simp [hm]

set_option maxHeartbeats 1000000 in
theorem mark_any (B E : Nat) (a : Option Addr) (n cap k : Nat) (zs : List Int) (w : World) (h : RowI w B E a n cap zs) (hn : n ≤ 1048576) (hk : k ≤ 10000000) :
    Calls Try.prog 9 #[.slice a n cap, .int .i64 (k : Int)] w fun e w' => e = .returned (.int .i64 ((k + n : Nat) : Int)) ∧ RowI w' B E a n cap (marks k n) ∧ Turned w w' B E := by
  obtain ⟨ho, hl, hcap, hb⟩ := h
  rcases ho.2 with ⟨e, hz⟩ | ⟨g, cap', cur, e, hB, hg, _⟩
  · cases e
    rw [hl] at *
    clear hl
    have HM : Hid (RowI w B E none 0 0 (marks k 0)) := ⟨World.ownsRow_nil w _ _ _, rfl, Nat.le_refl _, fun k hk => by cases hk⟩
    have HT : Hid (Turned w w B E) := ⟨none, World.grownBy.refl _ _, fun g hg => by cases hg⟩
    rw [hz]
    clear ho hb hz hn hcap
    go_enter Try.func9, Try.ntmps9
    go_wp2
    go_loopw [1, 5] (fun p i wr => p = .int .i64 (k : Int) ∧ i = .int .i64 0 ∧ wr = w) (fun _ _ _ => 0)
    case atStart => exact ⟨rfl, rfl, rfl⟩
    case round =>
      obtain ⟨rfl, rfl, rfl⟩ := hrel
      go_wp2
      go_ret
      exact ⟨rfl, HM.out, HT.out⟩
  · have hca : cap = cap' ∧ a = some ⟨g, 0, none⟩ := by cases e; exact ⟨rfl, rfl⟩
    obtain ⟨rfl, rfl⟩ := hca
    have hgE := hb g rfl
    have HL : Hid (zs.length = n) := hl.symm
    have ho' : w.ownsRow B 3 1 (.slice (some ⟨g, 0, none⟩) n cap) n ((marks k 0 ++ zs.drop 0).map (Value.int .i64)) := by
      have h2 := ho
      unfold OwnI at h2
      rw [← hl] at h2
      exact h2
    have H0 : Hid _ := ho'
    clear ho ho' hg e hl hb
    go_enter Try.func9, Try.ntmps9
    go_wp2
    go_loopw [1, 5] (fun p i wr => ∃ c : Nat, c ≤ n ∧ p = .int .i64 ((k + c : Nat) : Int) ∧ i = .int .i64 c ∧ wr.ownsRow B 3 1 (.slice (some ⟨g, 0, none⟩) n cap) n ((marks k c ++ zs.drop c).map (Value.int .i64)) ∧ w.grownBy wr (some g)) (fun _ i _ => n - (intOf i).toNat)
    case atStart => exact ⟨0, Nat.zero_le _, rfl, rfl, H0.out, World.grownBy.refl _ _⟩
    case round =>
      obtain ⟨c, hc, rfl, rfl, hown, hgr⟩ := hrel
      clear H0
      by_cases hlt : c < n
      · have hltI : (c : Int) < (n : Int) := by omega
        obtain ⟨old, hold⟩ : ∃ v, wr.cell? ⟨g, c, none⟩ = some v := by
          rw [hown.cellAt c (by omega)]
          exact ⟨_, List.getElem?_eq_getElem (by rw [hown.1]; omega)⟩
        have hfr := hown.frozenAt c
        have hst := hown.stored c (.int .i64 ((k + c : Nat) : Int))
        rw [marks_step k n c zs HL.out hlt] at hst
        have hg2 : wr.grownBy (wr.setCell ⟨g, c, none⟩ (.int .i64 ((k + c : Nat) : Int))) (some g) := ⟨rfl, rfl, rfl, by simp, fun j _ hj => heap_setCell_other wr ⟨g, c, none⟩ j _ (fun e => hj (by simp [e]))⟩
        have HO : Hid _ := And.intro hst.1 (grownBy_trans hgr hg2)
        clear hst hg2 hown hgr
        obtain ⟨kc, hkc⟩ : ∃ kc, k + c = kc := ⟨_, rfl⟩
        rw [hkc] at HO
        rw [hkc]
        go_wp2
        go_roundw
        case rel => exact ⟨c + 1, by omega, by rw [show k + (c + 1) = kc + 1 by omega]; go_num, by go_num, HO.out.1, HO.out.2⟩
        case measure => simp [intOf] <;> omega
      · obtain rfl : c = n := by omega
        have HR : Hid (RowI wr B E (some ⟨g, 0, none⟩) c cap (marks k c)) := by
          have e : marks k c ++ zs.drop c = marks k c := by rw [List.drop_eq_nil_of_le (by rw [HL.out]; omega), List.append_nil]
          rw [e] at hown
          have hm : (marks k c).length = c := eI_len _ _
          refine ⟨?_, hm.symm, hcap, fun j hj => by cases hj; exact ⟨hB, hgE.2⟩⟩
          unfold OwnI
          rw [hm]
          exact hown
        have HT : Hid (Turned w wr B E) := ⟨some g, hgr, fun j hj => by cases hj; exact ⟨hB, hgE.2⟩⟩
        clear hown hgr
        go_wp2
        go_ret
        exact ⟨rfl, HR.out, HT.out⟩

set_option maxHeartbeats 1000000 in
theorem held_any (a : Option Addr) (n cap k : Nat) (w : World) (h : IntsAt w a n (marks k n)) (hn : n ≤ 1048576) (hk : k ≤ 50000000) :
    Calls Try.prog 39 #[.slice a n cap, .int .i64 (k : Int)] w fun e w' => e = .returned (.int .i64 ((k + n : Nat) : Int)) ∧ w' = w := by
  go_enter Try.func39, Try.ntmps39
  go_wp2
  go_loop [1, 5] (fun p i => ∃ c : Nat, c ≤ n ∧ p = .int .i64 ((k + c : Nat) : Int) ∧ i = .int .i64 c) (fun _ i => n - (intOf i).toNat)
  case atStart => exact ⟨0, Nat.zero_le _, rfl, rfl⟩
  case round =>
    obtain ⟨c, hc, rfl, rfl⟩ := hrel
    by_cases hlt : c < n
    · obtain ⟨b, off, rfl, hcell⟩ := h.2 c hlt
      rw [show (marks k n).getD c 0 = ((k + c : Nat) : Int) from eI_getD _ _ _ hlt] at hcell
      have hltI : (c : Int) < (n : Int) := by omega
      clear h
      obtain ⟨kc, hkc⟩ : ∃ kc, k + c = kc := ⟨_, rfl⟩
      rw [hkc] at hcell
      rw [hkc]
      go_wp2
      go_round
      case rel => exact ⟨c + 1, by omega, by rw [show k + (c + 1) = kc + 1 by omega]; go_num, by go_num⟩
      case measure => simp [intOf] <;> omega
    · obtain rfl : c = n := by omega
      clear h
      go_wp2
      go_ret
      exact ⟨rfl, rfl⟩
end Go.Proofs.Ytpomffkpjldloaa
/- The program's product of polynomials, and the polynomials that are 0 at places. Conditions: byte numbers, at most 100 factors of at most 1000 numbers. -/
namespace Go.Proofs.Ytpomffkpjldloaa
set_option maxRecDepth 2000
open Go.ChangeShapes Go.WideShapes Go.ChangeAt Go.RowKit

/-- A row of polynomials. -/
def Facs (w : World) (g k : Nat) (A : Nat → Option Addr) (N C : Nat → Nat) (F : Nat → Nat → Nat) : Prop :=
  ∀ i, i < k → w.cell? ⟨g, i, none⟩ = some (.slice (A i) (N i) (C i)) ∧ Els w (A i) (N i) (C i) (F i)
theorem Facs.below {w w' : World} {g k : Nat} {A : Nat → Option Addr} {N C : Nat → Nat} {F : Nat → Nat → Nat} (h : Facs w g k A N C F) (hb : Below w.heap.size w w') : Facs w' g k A N C F := fun i hi =>
  ⟨(hb.cell (p := ⟨g, i, none⟩) (block_lt_of_cell (h i hi).1)).trans (h i hi).1, (h i hi).2.below hb⟩

end Go.Proofs.Ytpomffkpjldloaa
/- The program's polynomials that are 0 at places. Conditions: byte numbers, at most 100 places. -/
namespace Go.Proofs.Ytpomffkpjldloaa
set_option maxRecDepth 2000
open Go.ChangeShapes Go.WideShapes Go.ChangeAt Go.RowKit

theorem Els.alloc {w : World} {a : Option Addr} {n cap : Nat} {f : Nat → Nat} (h : Els w a n cap f) (o : Obj) : Els (w.alloc o) a n cap f :=
  h.below ((Below.refl _ _).alloc (Nat.le_refl _) _)

end Go.Proofs.Ytpomffkpjldloaa
/- The program's functions over polynomials as they are called: what each answers at any lists of at most 2^20 numbers, in memory of its own; nothing that was there turns. -/
namespace Go.Proofs.Ytpomffkpjldloaa
set_option maxRecDepth 2000
open Go.ChangeShapes Go.WideShapes Go.ChangeAt Go.RowKit

end Go.Proofs.Ytpomffkpjldloaa
/- The program's sum, product and quotient of polynomials, at any lists of at most 2^20 numbers. -/
namespace Go.Proofs.Ytpomffkpjldloaa
set_option maxRecDepth 2000
open Go.ChangeShapes Go.WideShapes Go.ChangeAt Go.RowKit

theorem OwnI.mono {w : World} {B B' : Nat} {v : Value} {zs : List Int} (h : OwnI w B v zs) (hb : B' ≤ B) : OwnI w B' v zs :=
  ⟨h.1, h.2.imp id fun ⟨g, cap, cur, h1, h2, h3⟩ => ⟨g, cap, cur, h1, Nat.le_trans hb h2, h3⟩⟩
end Go.Proofs.Ytpomffkpjldloaa
/- The laws' marks with the sums as letters; the lengths of the answers. -/
namespace Go.Proofs.Ytpomffkpjldloaa
set_option maxRecDepth 2000
open Go.ChangeShapes Go.WideShapes Go.ChangeAt Go.RowKit

theorem mark_q (B E : Nat) (a : Option Addr) (n cap k q : Nat) (zs : List Int) (w : World) (h : RowI w B E a n cap zs) (hn : n ≤ 1048576) (hk : k ≤ 10000000) (hq : k + n = q) :
    Calls Try.prog 9 #[.slice a n cap, .int .i64 (k : Int)] w fun e w' => e = .returned (.int .i64 (q : Int)) ∧ RowI w' B E a n cap (marks k n) ∧ Turned w w' B E := by
  subst hq
  exact mark_any B E a n cap k zs w h hn hk
theorem held_q (a : Option Addr) (n cap k q : Nat) (w : World) (h : IntsAt w a n (marks k n)) (hn : n ≤ 1048576) (hk : k ≤ 50000000) (hq : k + n = q) :
    Calls Try.prog 39 #[.slice a n cap, .int .i64 (k : Int)] w fun e w' => e = .returned (.int .i64 (q : Int)) ∧ w' = w := by
  subst hq
  exact held_any a n cap k w h hn hk
end Go.Proofs.Ytpomffkpjldloaa
