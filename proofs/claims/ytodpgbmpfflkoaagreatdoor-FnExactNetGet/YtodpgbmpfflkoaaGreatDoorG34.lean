/- The pieces of a text, in the program. Condition: a text of at most 2^20 bytes. -/
import Derived.Test.YtodpgbmpfflkoaaGreatDoorG32
import Derived.Test.YtodpgbmpfflkoaaGreatDoorG31
import Derived.Test.YtodpgbmpfflkoaaGreatDoorG26
import Derived.Test.YtodpgbmpfflkoaaGreatDoorG28
import Derived.Test.YtodpgbmpfflkoaaGreatDoorG11
import Derived.Test.YtodpgbmpfflkoaaGreatDoorG13
import Derived.Test.YtodpgbmpfflkoaaGreatDoorG12
import Derived.Test.YtodpgbmpfflkoaaGreatDoorShelf
namespace Go.Proofs.YtodpgbmpfflkoaaGreatDoor
set_option maxRecDepth 2000
open Go.ChangeShapes Go.WideShapes Go.ChangeAt Go.RowKit

theorem Tryz.infoPc3 : (Tryz.prog.info? 49).map (fun i => (i.zero, i.size, i.bytes)) = some (some (.agg #[.string ByteArray.empty, .int .i64 0, .int .i64 0, .int .i64 0, .string ByteArray.empty, .slice none 0 0]), 6, 80) := by kernel_rfl
def zc : Nat → Value
  | 0 => .string ByteArray.empty
  | 1 => .int .i64 0
  | 2 => .int .i64 0
  | 3 => .int .i64 0
  | 4 => .string ByteArray.empty
  | _ => .slice none 0 0
theorem made_gL (n : Nat) : (madeCells #[.string ByteArray.empty, .int .i64 0, .int .i64 0, .int .i64 0, .string ByteArray.empty, .slice none 0 0] (n * 6)).toList = gL (fun _ => zc) n := by
  apply List.ext_getElem?
  intro j
  by_cases hj : j < n * 6
  · have h2 := gL_get (fun _ => zc) n (j / 6) (j % 6) (by omega) (by omega)
    rw [show j / 6 * 6 + j % 6 = j by omega] at h2
    rw [h2]
    have hq : j % 6 < 6 := by omega
    simp [madeCells, hj]
    generalize j % 6 = q at hq
    match q, hq with
    | 0, _ => rfl
    | 1, _ => rfl
    | 2, _ => rfl
    | 3, _ => rfl
    | 4, _ => rfl
    | 5, _ => rfl
  · rw [List.getElem?_eq_none (by simp [madeCells]; omega), List.getElem?_eq_none (by rw [gL_len]; omega)]
/-- The first c of n pieces laid, the others of their zero value. -/
def CutI (wr : World) (B G n : Nat) (P : Nat → Pc) (c : Nat) : Prop := ∃ (A : Nat → Option Addr) (C : Nat → Nat),
  OwnC wr B (some ⟨G, 0, none⟩) n n (fun i => if i < c then cel (P i) (.slice (A i) (P i).m (C i)) else zc) ∧ (∀ i, i < c → OwnT wr B (A i) (P i).m (C i) (P i).S) ∧
  (∀ i j x y, i < j → j < c → A i = some x → A j = some y → x.block ≠ y.block) ∧ (∀ i x, i < c → A i = some x → x.block ≠ G)
theorem CutI.step {wr w2 : World} {B G n : Nat} {P : Nat → Pc} {c : Nat} {aP : Option Addr} {cP : Nat} (h : CutI wr B G n P c) (hc : c < n) (hb : Below wr.heap.size wr w2) (hB : B ≤ wr.heap.size) (ho : OwnT w2 wr.heap.size aP (P c).m cP (P c).S) :
    CutI ((((((w2.setCell ⟨G, c * 6 + 0, none⟩ (.string (P c).r)).setCell ⟨G, c * 6 + 1, none⟩ (.int .i64 (P c).k)).setCell ⟨G, c * 6 + 2, none⟩ (.int .i64 (P c).n)).setCell ⟨G, c * 6 + 3, none⟩ (.int .i64 (P c).i)).setCell ⟨G, c * 6 + 4, none⟩ (.string (P c).b)).setCell ⟨G, c * 6 + 5, none⟩ (.slice aP (P c).m cP)) B G n P (c + 1) := by
  obtain ⟨A, C, h1, h2, h3, h4⟩ := h
  have lG := (World.ownsRow.lt h1 G rfl).2
  refine ⟨fun i => if i = c then aP else A i, fun i => if i = c then cP else C i, ?_, ?_, ?_, ?_⟩
  · have e := (((((h1.below hb).set hc (show 0 < 6 by omega) (.string (P c).r)).set hc (show 1 < 6 by omega) (.int .i64 (P c).k)).set hc (show 2 < 6 by omega) (.int .i64 (P c).n)).set hc (show 3 < 6 by omega) (.int .i64 (P c).i)).set hc (show 4 < 6 by omega) (.string (P c).b)
    have e2 := e.set hc (show 5 < 6 by omega) (.slice aP (P c).m cP)
    refine e2.congr fun i q hi hq => ?_
    by_cases ei : i = c
    · subst ei
      match q, hq with
      | 0, _ => simp [cel]
      | 1, _ => simp [cel]
      | 2, _ => simp [cel]
      | 3, _ => simp [cel]
      | 4, _ => simp [cel]
      | 5, _ => simp [cel]
    · by_cases e2 : i < c
      · simp [ei, e2, show i < c + 1 by omega]
      · simp [ei, e2, show ¬ i < c + 1 by omega]
  · intro i hi
    by_cases ei : i = c
    · subst ei
      simp only [if_true]
      have o1 : OwnT w2 B aP (P i).m cP (P i).S := OwnT.base ho hB
      have far : ∀ x, aP = some x → x.block ≠ G := fun x e => by subst e; have := (World.ownsRow.lt ho x.block rfl).1; omega
      exact own_kept (own_kept (own_kept (own_kept (own_kept (own_kept o1 (grown_set _ _ _ _) far) (grown_set _ _ _ _) far) (grown_set _ _ _ _) far) (grown_set _ _ _ _) far) (grown_set _ _ _ _) far) (grown_set _ _ _ _) far
    · simp only [ei, if_false]
      have o1 := OwnT.below (h2 i (by omega)) hb
      have far : ∀ x, A i = some x → x.block ≠ G := fun x e => h4 i x (by omega) e
      exact own_kept (own_kept (own_kept (own_kept (own_kept (own_kept o1 (grown_set _ _ _ _) far) (grown_set _ _ _ _) far) (grown_set _ _ _ _) far) (grown_set _ _ _ _) far) (grown_set _ _ _ _) far) (grown_set _ _ _ _) far
  · intro i j x y hij hj hx hy
    replace hx : (if i = c then aP else A i) = some x := hx
    replace hy : (if j = c then aP else A j) = some y := hy
    by_cases ej : j = c
    · subst ej
      simp only [if_true] at hy
      rw [if_neg (by omega)] at hx
      subst hy
      have l1 := (World.ownsRow.lt ho y.block rfl).1
      have hoi := h2 i (by omega)
      rw [hx] at hoi
      have l2 := (World.ownsRow.lt hoi x.block rfl).2
      omega
    · rw [if_neg ej] at hy
      rw [if_neg (by omega)] at hx
      exact h3 i j x y hij (by omega) hx hy
  · intro i x hi hx
    replace hx : (if i = c then aP else A i) = some x := hx
    by_cases ei : i = c
    · subst ei
      simp only [if_true] at hx
      subst hx
      have := (World.ownsRow.lt ho x.block rfl).1
      omega
    · rw [if_neg ei] at hx
      exact h4 i x (by omega) hx
theorem CutI.all {wr : World} {B G n : Nat} {P : Nat → Pc} (h : CutI wr B G n P n) : ∃ A C, OwnP wr B (some ⟨G, 0, none⟩) n n A C P := by
  obtain ⟨A, C, h1, h2, h3, h4⟩ := h
  refine ⟨A, C, h1.congr (fun i q hi _ => by simp [hi]), h2, h3, fun i x y hi hx hy => ?_⟩
  cases hy
  exact h4 i x hi hx

end Go.Proofs.YtodpgbmpfflkoaaGreatDoor
/- The pieces of all bodies, of a text, and their root, in the model. Conditions: at most 64 bodies of at most 2^20 bytes; a text of at most 2^20 bytes. -/
namespace Go.Proofs.YtodpgbmpfflkoaaGreatDoor
set_option maxRecDepth 2000
open Go.ChangeShapes Go.WideShapes Go.ChangeAt Go.RowKit

theorem OwnP.snoc {w w2 w3 : World} {B g g3 c cap cap3 : Nat} {A : Nat → Option Addr} {C : Nat → Nat} {P : Nat → Pc} {aP : Option Addr} {cP : Nat} {X : Obj}
    (h : OwnP w B (some ⟨g, 0, none⟩) c cap A C P) (hB : B ≤ w.heap.size) (hb : Below w.heap.size w w2) (ho : OwnT w2 w.heap.size aP (P c).m cP (P c).S)
    (h3 : w3.ownsRow B 49 6 (.slice (some ⟨g3, 0, none⟩) (c + 1) cap3) (c + 1) (gL (fun i => cel (P i) (.slice (A i) (P i).m (C i))) c ++ [.string (P c).r, .int .i64 (P c).k, .int .i64 (P c).n, .int .i64 (P c).i, .string (P c).b, .slice aP (P c).m cP]))
    (hg : (w2.alloc X).grownBy w3 (some g)) (hat : g = g3 ∨ g3 = w2.heap.size + 1) : ∃ A' C', OwnP w3 B (some ⟨g3, 0, none⟩) (c + 1) cap3 A' C' P := by
  obtain ⟨h1, h2, h4, h5⟩ := h
  have lg := (World.ownsRow.lt h1 g rfl).2
  have lA : ∀ i x, i < c → A i = some x → x.block < w.heap.size := fun i x hi e => by
    have := h2 i hi
    rw [e] at this
    exact (World.ownsRow.lt this x.block rfl).2
  have lP : ∀ x, aP = some x → w.heap.size ≤ x.block ∧ x.block < w2.heap.size := fun x e => by
    subst e
    exact World.ownsRow.lt ho x.block rfl
  have hs := hb.size
  refine ⟨fun i => if i = c then aP else A i, fun i => if i = c then cP else C i, ?_, ?_, ?_, ?_⟩
  · show World.ownsRow _ _ _ _ _ _ _
    have e : gL (fun i => cel (P i) (.slice (if i = c then aP else A i) (P i).m (if i = c then cP else C i))) (c + 1) = gL (fun i => cel (P i) (.slice (A i) (P i).m (C i))) c ++ [.string (P c).r, .int .i64 (P c).k, .int .i64 (P c).n, .int .i64 (P c).i, .string (P c).b, .slice aP (P c).m cP] := by
      rw [gL_snoc, gL_congr (c' := fun i => cel (P i) (.slice (A i) (P i).m (C i))) (fun i q hi _ => by simp [show i ≠ c by omega])]
      simp [cel]
    rw [e]
    exact h3
  · intro i hi
    by_cases ei : i = c
    · subst ei
      simp only [if_true]
      exact own_kept (World.ownsRow.alloc (OwnT.base ho hB) X) hg (fun x e => by have := lP x e; omega)
    · simp only [ei, if_false]
      exact own_kept (World.ownsRow.alloc (OwnT.below (h2 i (by omega)) hb) X) hg (fun x e => h5 i x _ (by omega) e rfl)
  · intro i j x y hij hj hx hy
    replace hx : (if i = c then aP else A i) = some x := hx
    replace hy : (if j = c then aP else A j) = some y := hy
    by_cases ej : j = c
    · subst ej
      simp only [if_true] at hy
      rw [if_neg (by omega)] at hx
      have l1 := lP y hy
      have l2 := lA i x (by omega) hx
      omega
    · rw [if_neg ej] at hy
      rw [if_neg (by omega)] at hx
      exact h4 i j x y hij (by omega) hx hy
  · intro i x y hi hx hy
    replace hx : (if i = c then aP else A i) = some x := hx
    cases hy
    by_cases ei : i = c
    · subst ei
      simp only [if_true] at hx
      have := lP x hx
      rcases hat with e | e
      · show x.block ≠ g3; omega
      · show x.block ≠ g3; omega
    · rw [if_neg ei] at hx
      have l2 := lA i x (by omega) hx
      rcases hat with e | e
      · subst e; exact h5 i x _ (by omega) hx rfl
      · show x.block ≠ g3; omega

theorem OwnP.base {w : World} {B B' : Nat} {a : Option Addr} {n cap : Nat} {A : Nat → Option Addr} {C : Nat → Nat} {P : Nat → Pc} (h : OwnP w B a n cap A C P) (hB : B' ≤ B) : OwnP w B' a n cap A C P :=
  ⟨own_base h.1 hB, fun i hi => OwnT.base (h.2.1 i hi) hB, h.2.2⟩
set_option maxHeartbeats 4000000 in
theorem sAll_any (k : Int) (a : Option Addr) (n cap : Nat) (S : Nat → ByteArray) (w : World) (h : TxtAt w a n S) (hn : n ≤ 64) (hS : ∀ i, i < n → (S i).size ≤ 1048576) :
    Calls Tryz.prog 57 #[.slice a n cap, .int .i64 k, .int .i64 (n : Int)] w fun e w' => ∃ v, e = .returned v ∧ ResP w w' v n (cutP k n S) ∧ Below w.heap.size w w' := by
  obtain ⟨i0, hi, hz0, hz1, hz2⟩ := info_parts Tryz.infoStr
  obtain ⟨j0, hj, hy0, hy1, hy2⟩ := info_parts Tryz.infoPc3
  have HPC : Hid (∀ i, cutP k n S i = ⟨rtS n (lvs k n S), k, (n : Int), (i : Int), S i, pfR n (lvs k n S) (i : Int), pfF n (lvs k n S) (i : Int)⟩) := fun i => rfl
  obtain ⟨P, HP⟩ : ∃ P, Hid (cutP k n S = P) := ⟨_, rfl⟩
  rw [HP.out] at HPC
  rw [HP.out]
  obtain ⟨L, HL⟩ : ∃ L, Hid (lvs k n S = L) := ⟨_, rfl⟩
  have HL16 : Hid (∀ i, (L i).size ≤ 16) := fun i => by rw [← HL.out]; exact lvs_le _ _ _ _
  obtain ⟨rt, HRT⟩ : ∃ rt, Hid (rtS n L = rt) := ⟨_, rfl⟩
  rw [HL.out, HRT.out] at HPC
  have KH : Hid (TxtAt w a n S) := h
  have KS : Hid (∀ i, i < n → (S i).size ≤ 1048576) := hS
  have K0 : Hid (OwnT (w.alloc (.cells #[] 9)) w.heap.size (some ⟨w.heap.size, 0, none⟩) 0 0 L ∧ Below w.heap.size w (w.alloc (.cells #[] 9))) := ⟨litT w _, (Below.refl _ _).alloc (Nat.le_refl _) _⟩
  clear h hS
  go_enter Tryz.func57, Tryz.ntmps57
  go_wp2
  go_loopw [7, 8] (fun v vi wr => ∃ c g cc : Nat, c ≤ n ∧ vi = .int .i64 (c : Int) ∧ v = .slice (some ⟨g, 0, none⟩) c cc ∧ OwnT wr w.heap.size (some ⟨g, 0, none⟩) c cc L ∧ Below w.heap.size w wr) (fun _ vi _ => n - (intOf vi).toNat)
  case atStart => exact ⟨0, w.heap.size, 0, Nat.zero_le _, rfl, rfl, K0.out.1, K0.out.2⟩
  case round =>
    obtain ⟨c, g, cc, hk, rfl, rfl, ho, hbel⟩ := hrel
    clear K0
    have KO : Hid (OwnT wr w.heap.size (some ⟨g, 0, none⟩) c cc L ∧ Below w.heap.size w wr) := ⟨ho, hbel⟩
    clear ho hbel
    by_cases hlt : c < n
    · have hki : (c : Int) < (n : Int) := by omega
      obtain ⟨b1, off1, rfl, hc1⟩ := (KH.out.below KO.out.2) c hlt
      have KC : Hid (∀ W, Calls Tryz.prog 85 #[.int .i64 k, .int .i64 (n : Int), .int .i64 (c : Int), .string (S c)] W fun e w' => e = .returned (.string (L c)) ∧ Below W.heap.size W w') := fun W => by
        have := sPieceLeaf_any k (n : Int) (c : Int) (S c) W (KS.out c hlt)
        rw [← HL.out]
        exact this
      have lg := World.ownsRow.lt KO.out.1 _ rfl
      generalize S c = sc at hc1 KC
      obtain ⟨z, HZ⟩ : ∃ z, Hid (L c = z) := ⟨_, rfl⟩
      rw [HZ.out] at KC
      go_wp2_with fail
      refine Calls.mono (KC.out _) ?_
      rintro e w6 ⟨rfl, hb6⟩
      have K6 : Hid (OwnT w6 w.heap.size (some ⟨g, 0, none⟩) c cc L ∧ Below w.heap.size w w6) := ⟨OwnT.below KO.out.1 hb6, below2 KO.out.2 hb6⟩
      have hsz6 := K6.out.2.size
      clear hb6 KC hc1 KO
      go_wp2_with (at_builtin; refine wpList_append_all _ (by rfl) _ _ 46 (by rfl) w.heap.size 9 i0 (.string ByteArray.empty) 1 16 Tryz.underlying46 hi hz0 hz1 hz2 rfl (by decide) g c cc _ (by rfl) (World.ownsRow.alloc K6.out.1 _) ⟨w6.heap.size, 0, none⟩ 1 1 [.string z] (by rfl) (by rfl) (World.news_of_block (cs := #[.string z]) (t := 9) (fr := (0, 0)) (heap_alloc_new w6 _)) (by simp [Value.oneCell']) (by unfold maxLen; omega) (by omega) (by simp; omega) ?_; intro g3 cap3 w7 hown3 hgrow3)
      have HL7 : Hid (OwnT w7 w.heap.size (some ⟨g3, 0, none⟩) (c + 1) cap3 L ∧ Below w.heap.size w w7) := by
        refine ⟨?_, (K6.out.2.alloc hsz6 _).grown (show World.grownBy _ w7 (some g) from hgrow3) (by simp; omega) (fun j hj => by cases hj; exact lg.1)⟩
        unfold OwnT
        rw [sL_snoc, HZ.out]
        exact hown3
      clear hown3 hgrow3 K6
      go_roundw
      case rel => exact ⟨c + 1, g3, cap3, by omega, by go_num, rfl, HL7.out.1, HL7.out.2⟩
      case measure => simp [intOf]; omega
    · obtain rfl : c = n := by omega
      have KR : Hid (Calls Tryz.prog 88 #[.slice (some ⟨g, 0, none⟩) c cc] wr fun e w' => e = .returned (.tuple #[.string rt, .bool (lvB c L)]) ∧ Below wr.heap.size wr w') := by
        have := sRoot_any (some ⟨g, 0, none⟩) c cc L wr (OwnT.at KO.out.1) (by omega) (fun i _ => by have := HL16.out i; unfold maxLen; omega)
        rw [HRT.out] at this
        exact this
      generalize lvB c L = okr at KR
      go_wp2_with fail
      refine Calls.mono KR.out ?_
      rintro e w3 ⟨rfl, hb3⟩
      obtain ⟨w4, HW4⟩ : ∃ w4, Hid (w4 = w3.alloc (.cells #[] 49)) := ⟨_, rfl⟩
      have hb34 : Below w3.heap.size w3 w4 := by rw [HW4.out]; exact (Below.refl _ _).alloc (Nat.le_refl _) _
      have KL3 : Hid (TxtAt w3 (some ⟨g, 0, none⟩) c L) := (OwnT.at KO.out.1).below hb3
      have KA3 : Hid (TxtAt w3 a c S) := (KH.out.below KO.out.2).below hb3
      have KB3 : Hid (Below w.heap.size w w3) := below2 KO.out.2 hb3
      have KB34 : Hid (Below w3.heap.size w3 w4) := hb34
      have KP4 : Hid (OwnP w4 w3.heap.size (some ⟨w3.heap.size, 0, none⟩) 0 0 (fun _ => none) (fun _ => 0) P) := by
        rw [HW4.out]
        exact ⟨World.ownsRow_lit w3 #[] 0 (Nat.le_refl _) (by unfold maxLen; omega) rfl, fun i hi => absurd hi (Nat.not_lt_zero _), fun i j x y _ hj => absurd hj (Nat.not_lt_zero _), fun i x y hi => absurd hi (Nat.not_lt_zero _)⟩
      clear hb3 hb34 KO KR hi hz0 hz1 hz2
      go_wp2_with fail
      rw [← HW4.out]
      go_loopw [11, 12] (fun v vi wr => ∃ q g2 cc2 : Nat, q ≤ c ∧ vi = .int .i64 (q : Int) ∧ v = .slice (some ⟨g2, 0, none⟩) q cc2 ∧ (∃ A C, OwnP wr w3.heap.size (some ⟨g2, 0, none⟩) q cc2 A C P) ∧ Below w3.heap.size w3 wr) (fun _ vi _ => c - (intOf vi).toNat)
      case atStart => exact ⟨0, _, 0, Nat.zero_le _, rfl, rfl, ⟨_, _, KP4.out⟩, KB34.out⟩
      case round =>
        obtain ⟨q, g2, cc2, hq, rfl, rfl, ⟨A, C, hop⟩, hb3r⟩ := hrel
        clear KP4
        have KOP : Hid (OwnP wr w3.heap.size (some ⟨g2, 0, none⟩) q cc2 A C P ∧ Below w3.heap.size w3 wr) := ⟨hop, hb3r⟩
        have lg2 := World.ownsRow.lt hop.1 g2 rfl
        clear hop hb3r
        by_cases hlt2 : q < c
        · have hqi : (q : Int) < (c : Int) := by omega
          have KPF : Hid (Calls Tryz.prog 89 #[.slice (some ⟨g, 0, none⟩) c cc, .int .i64 (q : Int)] wr fun e w' => ∃ v, e = .returned (.tuple #[v, .bool (pfB c L (q : Int))]) ∧ ResT wr w' v (P q).m (P q).S ∧ Below wr.heap.size wr w') := by
            rw [HPC.out]
            exact sProof_any (some ⟨g, 0, none⟩) c cc L (q : Int) wr (KL3.out.below KOP.out.2) (by omega) (fun i _ => by have := HL16.out i; unfold maxLen; omega)
          generalize pfB c L (q : Int) = okp at KPF
          obtain ⟨mq, HMQ⟩ : ∃ mc, Hid ((P q).m = mc) := ⟨_, rfl⟩
          rw [HMQ.out] at KPF
          obtain ⟨sc, HSC⟩ : ∃ sc, Hid (S q = sc) := ⟨_, rfl⟩
          have HS : Hid ((P q).r = rt ∧ (P q).k = k ∧ (P q).n = (c : Int) ∧ (P q).i = (q : Int) ∧ (P q).b = sc) := by rw [HPC.out, HSC.out]; exact ⟨rfl, rfl, rfl, rfl, rfl⟩
          go_wp2_with fail
          refine Calls.mono KPF.out ?_
          rintro e w5 ⟨v5, rfl, ⟨aP, cP, rfl, O5⟩, hb5⟩
          obtain ⟨b1, off1, rfl, hc1⟩ := ((KA3.out.below KOP.out.2).below hb5) q hlt2
          rw [HSC.out] at hc1
          have hs5 := hb5.size
          have hw5 := KOP.out.2.size
          have O5' : Hid (OwnT w5 wr.heap.size aP mq cP (P q).S) := O5
          have HB5 : Hid (Below wr.heap.size wr w5) := hb5
          have KX : Hid (OwnC w5 w3.heap.size (some ⟨g2, 0, none⟩) q cc2 (fun i => cel (P i) (.slice (A i) (P i).m (C i)))) := KOP.out.1.1.below hb5
          clear O5 hb5 KPF
          go_wp2_with (at_builtin; refine wpList_append_lies _ (by rfl) _ _ 37 (by rfl) w3.heap.size 49 j0 (.agg #[.string ByteArray.empty, .int .i64 0, .int .i64 0, .int .i64 0, .string ByteArray.empty, .slice none 0 0]) 6 80 Tryz.underlying37 hj hy0 hy1 hy2 rfl (by decide) (.slice (some ⟨g2, 0, none⟩) q cc2) q _ (by rfl) (World.ownsRow.alloc KX.out _) ⟨w5.heap.size, 0, none⟩ 1 1 [.string rt, .int .i64 k, .int .i64 (c : Int), .int .i64 (q : Int), .string sc, .slice aP mq cP] (by rfl) (by rfl) (World.news_of_block (cs := #[.string rt, .int .i64 k, .int .i64 (c : Int), .int .i64 (q : Int), .string sc, .slice aP mq cP]) (t := 49) (fr := (0, 0)) (heap_alloc_new w5 _)) (by simp [Value.oneCell']) (by omega) (by unfold maxLen; omega) (by omega) (by simp; omega) (w5.heap.size + 1) (by simp) ?_; intro g3 cap3 w7 hown3 hgrow3 hat3 hlt3)
          have hgr : World.grownBy (w5.alloc (.cells #[.string rt, .int .i64 k, .int .i64 (c : Int), .int .i64 (q : Int), .string sc, .slice aP mq cP] 49)) w7 (some g2) := hgrow3
          have HN : Hid ((∃ A C, OwnP w7 w3.heap.size (some ⟨g3, 0, none⟩) (q + 1) cap3 A C P) ∧ Below w3.heap.size w3 w7) := by
            refine ⟨OwnP.snoc (aP := aP) (cP := cP) KOP.out.1 hw5 HB5.out (by rw [HMQ.out]; exact O5'.out) ?_ hgr ?_, ?_⟩
            · rw [HMQ.out, HS.out.1, HS.out.2.1, HS.out.2.2.1, HS.out.2.2.2.1, HS.out.2.2.2.2]
              exact hown3
            · rcases hat3 with e | e
              · exact .inl (by simpa [Value.ownBlock] using e)
              · exact .inr e
            · exact ((below2 KOP.out.2 HB5.out).alloc (by omega) _).grown hgr (by simp; omega) (fun j hj => by cases hj; exact lg2.1)
          clear hown3 hgrow3 hgr hat3 hlt3 KOP KX HB5 O5' hc1
          go_roundw
          case rel => exact ⟨q + 1, g3, cap3, by omega, by go_num, rfl, HN.out.1, HN.out.2⟩
          case measure => simp [intOf]; omega
        · obtain rfl : q = c := by omega
          go_wp2
          go_ret
          exact ⟨_, rfl, ⟨_, _, A, C, rfl, KOP.out.1.base KB3.out.size⟩, below2 KB3.out KOP.out.2⟩

end Go.Proofs.YtodpgbmpfflkoaaGreatDoor
/- Lists of pieces that the exact laws mark, ask for their marks, and compare. Conditions stand at each. -/
namespace Go.Proofs.YtodpgbmpfflkoaaGreatDoor
set_option maxRecDepth 2000
open Go.ChangeShapes Go.WideShapes Go.ChangeAt Go.RowKit

/-- The first mark of piece i. -/
def ofs (k : Nat) (P : Nat → Pc) : Nat → Nat
  | 0 => k
  | i + 1 => ofs k P i + 5 + (P i).m
theorem OwnP.congr {w : World} {B : Nat} {a : Option Addr} {n cap : Nat} {A : Nat → Option Addr} {C : Nat → Nat} {P P' : Nat → Pc} (h : OwnP w B a n cap A C P) (e : ∀ i, i < n → P i = P' i) : OwnP w B a n cap A C P' :=
  ⟨h.1.congr (fun i q hi _ => by rw [e i hi]), fun i hi => by rw [← e i hi]; exact h.2.1 i hi, h.2.2⟩
theorem OwnP.marked {w w1 w2 w3 : World} {B g n cap : Nat} {A : Nat → Option Addr} {C : Nat → Nat} {P : Nat → Pc} {c bB bE : Nat} {Q : Pc} (h : OwnP w B (some ⟨g, 0, none⟩) n cap A C P) (hc : c < n) (hB : B ≤ w.heap.size)
    (b1 : Below w.heap.size w w1)
    (b2 : Below ((((w1.setCell ⟨g, c * 6 + 0, none⟩ (.string Q.r)).setCell ⟨g, c * 6 + 1, none⟩ (.int .i64 Q.k)).setCell ⟨g, c * 6 + 2, none⟩ (.int .i64 Q.n)).setCell ⟨g, c * 6 + 3, none⟩ (.int .i64 Q.i)).heap.size ((((w1.setCell ⟨g, c * 6 + 0, none⟩ (.string Q.r)).setCell ⟨g, c * 6 + 1, none⟩ (.int .i64 Q.k)).setCell ⟨g, c * 6 + 2, none⟩ (.int .i64 Q.n)).setCell ⟨g, c * 6 + 3, none⟩ (.int .i64 Q.i)) w2) (hm : Q.m = (P c).m)
    (hX : (A c = none ∧ bE ≤ bB ∧ B ≤ bB) ∨ ∃ x, A c = some x ∧ bB = x.block ∧ bE = x.block + 1)
    (hR : RowT w3 bB bE (A c) (P c).m (C c) Q.S) (ht : TurnM (w2.setCell ⟨g, c * 6 + 4, none⟩ (.string Q.b)) w3 bB bE) :
    OwnP w3 B (some ⟨g, 0, none⟩) n cap A C (fun j => if j = c then Q else P j) ∧ Below B w w3 := by
  obtain ⟨h1, h2, h3, h4⟩ := h
  have lg := World.ownsRow.lt h1 g rfl
  have hbB : B ≤ bB := by
    rcases hX with ⟨_, _, e⟩ | ⟨x, e, e1, _⟩
    · exact e
    · have := h2 c hc
      rw [e] at this
      have := (World.ownsRow.lt this x.block rfl).1
      omega
  have hgb : ¬ (bB ≤ g ∧ g < bE) := by
    rcases hX with ⟨_, e, _⟩ | ⟨x, e, e1, e2⟩
    · omega
    · have := h4 c x _ hc e rfl
      have : x.block ≠ g := this
      omega
  have hb2' : Below w.heap.size ((((w1.setCell ⟨g, c * 6 + 0, none⟩ (.string Q.r)).setCell ⟨g, c * 6 + 1, none⟩ (.int .i64 Q.k)).setCell ⟨g, c * 6 + 2, none⟩ (.int .i64 Q.n)).setCell ⟨g, c * 6 + 3, none⟩ (.int .i64 Q.i)) w2 := b2.mono (by simpa using b1.size)
  refine ⟨⟨?_, ?_, h3, h4⟩, ?_⟩
  · have e := ((((h1.below b1).set hc (show 0 < 6 by omega) (.string Q.r)).set hc (show 1 < 6 by omega) (.int .i64 Q.k)).set hc (show 2 < 6 by omega) (.int .i64 Q.n)).set hc (show 3 < 6 by omega) (.int .i64 Q.i)
    have e2 := (e.below b2).set hc (show 4 < 6 by omega) (.string Q.b)
    have e3 := own_turn2 e2 ht (fun x ex => by cases ex; exact hgb)
    refine OwnC.congr e3 fun i q hi hq => ?_
    by_cases ei : i = c
    · subst ei
      match q, hq with
      | 0, _ => simp [cel]
      | 1, _ => simp [cel]
      | 2, _ => simp [cel]
      | 3, _ => simp [cel]
      | 4, _ => simp [cel]
      | 5, _ => simp [cel, hm]
    · simp [ei]
  · intro i hi
    by_cases ei : i = c
    · subst ei
      simp only [if_true]
      rw [hm]
      exact OwnT.base hR.1 hbB
    · simp only [ei, if_false]
      have far : ∀ x, A i = some x → x.block ≠ g := fun x e => h4 i x _ hi e rfl
      have o1 : OwnT ((((w1.setCell ⟨g, c * 6 + 0, none⟩ (.string Q.r)).setCell ⟨g, c * 6 + 1, none⟩ (.int .i64 Q.k)).setCell ⟨g, c * 6 + 2, none⟩ (.int .i64 Q.n)).setCell ⟨g, c * 6 + 3, none⟩ (.int .i64 Q.i)) B (A i) (P i).m (C i) (P i).S := own_kept (own_kept (own_kept (own_kept (OwnT.below (h2 i hi) b1) (grown_set _ _ _ _) far) (grown_set _ _ _ _) far) (grown_set _ _ _ _) far) (grown_set _ _ _ _) far
      have o2 : OwnT (w2.setCell ⟨g, c * 6 + 4, none⟩ (.string Q.b)) B (A i) (P i).m (C i) (P i).S := own_kept (OwnT.below o1 b2) (grown_set _ _ _ _) far
      refine own_turn2 o2 ht (fun x ex => ?_)
      rcases hX with ⟨_, e, _⟩ | ⟨y, e, e1, e2⟩
      · omega
      · have hne : x.block ≠ y.block := by
          by_cases hl : i < c
          · exact h3 i c x y hl hc ex e
          · exact Ne.symm (h3 c i y x (by omega) hi e ex)
        omega
  · have k1 : Below B w ((((w1.setCell ⟨g, c * 6 + 0, none⟩ (.string Q.r)).setCell ⟨g, c * 6 + 1, none⟩ (.int .i64 Q.k)).setCell ⟨g, c * 6 + 2, none⟩ (.int .i64 Q.n)).setCell ⟨g, c * 6 + 3, none⟩ (.int .i64 Q.i)) := Below.setCell (Below.setCell (Below.setCell (Below.setCell (b1.mono hB) lg.1 _) lg.1 _) lg.1 _) lg.1 _
    have s1 : B ≤ ((((w1.setCell ⟨g, c * 6 + 0, none⟩ (.string Q.r)).setCell ⟨g, c * 6 + 1, none⟩ (.int .i64 Q.k)).setCell ⟨g, c * 6 + 2, none⟩ (.int .i64 Q.n)).setCell ⟨g, c * 6 + 3, none⟩ (.int .i64 Q.i)).heap.size := by have := b1.size; simp; omega
    have k2 : Below B w w2 := k1.trans (b2.mono s1)
    exact (k2.setCell lg.1 _).trans (ht.below hbB (by have := b2.size; simp at this ⊢; have := b1.size; omega))

end Go.Proofs.YtodpgbmpfflkoaaGreatDoor
/- The pieces that count, picked one by one, in the program: what 'enough' has gathered ahead of its sort. Condition: at most 2^20 pieces, whose proofs have at most 2^20 texts. -/
namespace Go.Proofs.YtodpgbmpfflkoaaGreatDoor
set_option maxRecDepth 2000
open Go.ChangeShapes Go.WideShapes Go.ChangeAt Go.RowKit

/-- A list of pieces that is read, its proofs' places told. -/
def PiA (w : World) (a : Option Addr) (n : Nat) (A : Nat → Option Addr) (C : Nat → Nat) (P : Nat → Pc) : Prop := ∀ i, i < n → (∃ b off, a = some ⟨b, off, none⟩ ∧ ∀ q, q < 6 → w.cell? ⟨b, off + (i * 6 + q), none⟩ = some (cel (P i) (.slice (A i) (P i).m (C i)) q)) ∧ TxtAt w (A i) (P i).m (P i).S
theorem PiA.below {w w' : World} {a : Option Addr} {n : Nat} {A : Nat → Option Addr} {C : Nat → Nat} {P : Nat → Pc} (h : PiA w a n A C P) (hb : Below w.heap.size w w') : PiA w' a n A C P := fun i hi => by
  obtain ⟨⟨b, off, e, hc⟩, ht⟩ := h i hi
  exact ⟨⟨b, off, e, fun q hq => (hb.cell (p := ⟨b, off + (i * 6 + q), none⟩) (block_lt_of_cell (hc q hq))).trans (hc q hq)⟩, ht.below hb⟩
theorem PiAt.a {w : World} {a : Option Addr} {n : Nat} {P : Nat → Pc} (h : PiAt w a n P) : ∃ A C, PiA w a n A C P := by
  refine ⟨fun i => if hi : i < n then (h i hi).choose_spec.choose_spec.choose else none, fun i => if hi : i < n then (h i hi).choose_spec.choose_spec.choose_spec.choose else 0, fun i hi => ?_⟩
  simp only [hi, dif_pos]
  have := (h i hi).choose_spec.choose_spec.choose_spec.choose_spec
  exact ⟨⟨_, _, this.1, this.2.1⟩, this.2.2⟩
noncomputable def pok (P : Nat → Pc) (c : Nat) : Bool := okP (P c).r (P c).k (P c).n (P c).i (P c).b (P c).m (P c).S
open Classical in
/-- The places of the pieces that count, out of the first c. -/
noncomputable def gsel (root : ByteArray) (P : Nat → Pc) : Nat → List Nat
  | 0 => []
  | c + 1 => if (P c).r = root ∧ gwB (P c).k (P c).n (P c).i (gsel root P c).length (fun j => P ((gsel root P c).getD j 0)) = true ∧ pok P c = true then gsel root P c ++ [c] else gsel root P c
theorem gsel_yes {root : ByteArray} {P : Nat → Pc} {c : Nat} (h : (P c).r = root ∧ gwB (P c).k (P c).n (P c).i (gsel root P c).length (fun j => P ((gsel root P c).getD j 0)) = true ∧ pok P c = true) : gsel root P (c + 1) = gsel root P c ++ [c] := by
  show (if _ then _ else _) = _
  rw [if_pos h]
theorem gsel_no {root : ByteArray} {P : Nat → Pc} {c : Nat} (h : ¬ ((P c).r = root ∧ gwB (P c).k (P c).n (P c).i (gsel root P c).length (fun j => P ((gsel root P c).getD j 0)) = true ∧ pok P c = true)) : gsel root P (c + 1) = gsel root P c := by
  show (if _ then _ else _) = _
  rw [if_neg h]
theorem gsel_len (root : ByteArray) (P : Nat → Pc) (c : Nat) : (gsel root P c).length ≤ c := by
  induction c with
  | zero => exact Nat.le_refl _
  | succ c ih =>
    by_cases h : (P c).r = root ∧ gwB (P c).k (P c).n (P c).i (gsel root P c).length (fun j => P ((gsel root P c).getD j 0)) = true ∧ pok P c = true
    · rw [gsel_yes h, List.length_append]; show _ + 1 ≤ _; omega
    · rw [gsel_no h]; omega
theorem gsel_mem {root : ByteArray} {P : Nat → Pc} {c x : Nat} (h : x ∈ gsel root P c) : x < c ∧ (P x).r = root ∧ pok P x = true := by
  induction c with
  | zero => cases h
  | succ c ih =>
    by_cases hp : (P c).r = root ∧ gwB (P c).k (P c).n (P c).i (gsel root P c).length (fun j => P ((gsel root P c).getD j 0)) = true ∧ pok P c = true
    · rw [gsel_yes hp, List.mem_append] at h
      rcases h with h | h
      · have := ih h; exact ⟨by omega, this.2⟩
      · obtain rfl : x = c := by simpa using h
        exact ⟨by omega, hp.1, hp.2.2⟩
    · rw [gsel_no hp] at h
      have := ih h; exact ⟨by omega, this.2⟩
abbrev celp (P : Nat → Pc) (A : Nat → Option Addr) (C : Nat → Nat) (x : Nat) : Nat → Value := cel (P x) (.slice (A x) (P x).m (C x))
end Go.Proofs.YtodpgbmpfflkoaaGreatDoor
/- Lists of pieces asked for their marks, and compared. Conditions stand at each. -/
namespace Go.Proofs.YtodpgbmpfflkoaaGreatDoor
set_option maxRecDepth 2000
open Go.ChangeShapes Go.WideShapes Go.ChangeAt Go.RowKit

theorem PiAt.own {w : World} {g n : Nat} {P : Nat → Pc} (h : PiAt w (some ⟨g, 0, none⟩) n P) {i : Nat} (hi : i < n) : ∃ ap cp, (∀ q, q < 6 → w.cell? ⟨g, i * 6 + q, none⟩ = some (cel (P i) (.slice ap (P i).m cp) q)) ∧ TxtAt w ap (P i).m (P i).S := by
  obtain ⟨b, off, ap, cp, e, hc, ht⟩ := h i hi
  cases e
  exact ⟨ap, cp, fun q hq => by have := hc q hq; rwa [Nat.zero_add] at this, ht⟩

set_option maxHeartbeats 4000000 in
theorem eqPs_same (a a' : Option Addr) (n ca ca' : Nat) (P : Nat → Pc) (w : World) (h : PiAt w a n P) (h' : PiAt w a' n P) (hn : n ≤ 1048576) (hm : ∀ i, i < n → (P i).m ≤ 1048576) :
    Calls Tryz.prog 11 #[.slice a n ca, .slice a' n ca'] w fun e w' => e = .returned (.bool true) ∧ Below w.heap.size w w' := by
  have KH : Hid (PiAt w a n P ∧ PiAt w a' n P) := ⟨h, h'⟩
  have HM : Hid (∀ i, i < n → (P i).m ≤ 1048576) := hm
  have hnn : ((n : Int) != (n : Int)) = false := by simp
  clear h h' hm
  go_enter Tryz.func11, Tryz.ntmps11
  go_wp2
  go_loopw [5] (fun vi wr => ∃ c : Nat, c ≤ n ∧ vi = .int .i64 (c : Int) ∧ Below w.heap.size w wr) (fun vi _ => n - (intOf vi).toNat)
  case atStart => exact ⟨0, Nat.zero_le _, rfl, Below.refl _ _⟩
  case round =>
    obtain ⟨c, hcn, rfl, hbel⟩ := hrel
    by_cases hlt : c < n
    · have hki : (c : Int) < (n : Int) := by omega
      have hmc := HM.out c hlt
      obtain ⟨b1, f1, ap, cp, rfl, hc1, ht1⟩ := (KH.out.1.below hbel) c hlt
      obtain ⟨b2, f2, aq, cq, rfl, hc2, ht2⟩ := (KH.out.2.below hbel) c hlt
      generalize P c = p at hc1 hc2 ht1 ht2 hmc
      obtain ⟨rr, kk, nn, ii, bb, m, S⟩ := p
      have x0 := hc1 0 (by omega)
      have y0 := hc2 0 (by omega)
      have x1 := hc1 1 (by omega)
      have y1 := hc2 1 (by omega)
      have x2 := hc1 2 (by omega)
      have y2 := hc2 2 (by omega)
      have x3 := hc1 3 (by omega)
      have y3 := hc2 3 (by omega)
      have x4 := hc1 4 (by omega)
      have y4 := hc2 4 (by omega)
      have x5 := hc1 5 (by omega)
      have y5 := hc2 5 (by omega)
      simp only [cel, Nat.add_zero, ← Nat.add_assoc] at x0 y0 x1 y1 x2 y2 x3 y3 x4 y4 x5 y5
      have l1 := block_lt_of_cell x0
      have l2 := block_lt_of_cell y0
      have KT : Hid (∀ W, Below wr.heap.size wr W → Calls Tryz.prog 30 #[pcV rr kk nn ii bb (.slice ap m cp), pcV rr kk nn ii bb (.slice aq m cq)] W fun e w' => e = .returned (.bool true) ∧ Below W.heap.size W w') := fun W hW => eqPc_same rr kk nn ii bb ap aq m cp cq S W (ht1.below hW) (ht2.below hW) hmc
      have KB : Hid (Below w.heap.size w wr) := hbel
      clear hc1 hc2 ht1 ht2 hmc hbel
      go_wp2_with fail
      go_region_held3 (fun w' => w'.cell? ⟨b1, f1 + c * 6, none⟩ = some (.string rr) ∧ w'.cell? ⟨b1, f1 + c * 6 + 1, none⟩ = some (.int .i64 kk) ∧ w'.cell? ⟨b1, f1 + c * 6 + 2, none⟩ = some (.int .i64 nn) ∧ w'.cell? ⟨b1, f1 + c * 6 + 3, none⟩ = some (.int .i64 ii) ∧ w'.cell? ⟨b1, f1 + c * 6 + 4, none⟩ = some (.string bb) ∧ w'.cell? ⟨b1, f1 + c * 6 + 5, none⟩ = some (.slice ap m cp) ∧ w'.cell? ⟨b2, f2 + c * 6, none⟩ = some (.string rr) ∧ w'.cell? ⟨b2, f2 + c * 6 + 1, none⟩ = some (.int .i64 kk) ∧ w'.cell? ⟨b2, f2 + c * 6 + 2, none⟩ = some (.int .i64 nn) ∧ w'.cell? ⟨b2, f2 + c * 6 + 3, none⟩ = some (.int .i64 ii) ∧ w'.cell? ⟨b2, f2 + c * 6 + 4, none⟩ = some (.string bb) ∧ w'.cell? ⟨b2, f2 + c * 6 + 5, none⟩ = some (.slice aq m cq)) (go_keep) ((go_at_call 30; refine Calls.mono (KT.out _ ⟨rfl, rfl, rfl, Nat.le_refl _, fun _ _ => rfl⟩) ?_; rintro e w7 ⟨rfl, b7'⟩; have b7 := below_of_drew b7'; clear b7'; have p0 := (b7.cell (p := ⟨b1, f1 + c * 6, none⟩) l1).trans x0; have z0 := (b7.cell (p := ⟨b2, f2 + c * 6, none⟩) l2).trans y0; have p1 := (b7.cell (p := ⟨b1, f1 + c * 6 + 1, none⟩) l1).trans x1; have z1 := (b7.cell (p := ⟨b2, f2 + c * 6 + 1, none⟩) l2).trans y1; have p2 := (b7.cell (p := ⟨b1, f1 + c * 6 + 2, none⟩) l1).trans x2; have z2 := (b7.cell (p := ⟨b2, f2 + c * 6 + 2, none⟩) l2).trans y2; have p3 := (b7.cell (p := ⟨b1, f1 + c * 6 + 3, none⟩) l1).trans x3; have z3 := (b7.cell (p := ⟨b2, f2 + c * 6 + 3, none⟩) l2).trans y3; have p4 := (b7.cell (p := ⟨b1, f1 + c * 6 + 4, none⟩) l1).trans x4; have z4 := (b7.cell (p := ⟨b2, f2 + c * 6 + 4, none⟩) l2).trans y4; have p5 := (b7.cell (p := ⟨b1, f1 + c * 6 + 5, none⟩) l1).trans x5; have z5 := (b7.cell (p := ⟨b2, f2 + c * 6 + 5, none⟩) l2).trans y5))
      all_goals
        have HB7 : Hid (Below w.heap.size w w7) := below2 KB.out b7
        clear p0 z0 x0 y0 p1 z1 x1 y1 p2 z2 x2 y2 p3 z3 x3 y3 p4 z4 x4 y4 p5 z5 x5 y5 b7
        go_wp2
        go_roundw
        case rel => exact ⟨c + 1, by omega, by go_num, HB7.out⟩
        case measure => simp [intOf]; omega
    · go_wp2
      go_ret
      exact ⟨rfl, hbel⟩
end Go.Proofs.YtodpgbmpfflkoaaGreatDoor
/- The pieces that are enough, in the program. Conditions: at most 2^20 pieces, whose proofs have at most 2^20 texts. -/
namespace Go.Proofs.YtodpgbmpfflkoaaGreatDoor
set_option maxRecDepth 2000
open Go.ChangeShapes Go.WideShapes Go.ChangeAt Go.RowKit

/-- A piece appended to those that count. -/
theorem OwnC.snoc {w3 : World} {B g3 cap3 : Nat} {P : Nat → Pc} {A : Nat → Option Addr} {C : Nat → Nat} {L : List Nat} {c : Nat} (h3 : w3.ownsRow B 49 6 (.slice (some ⟨g3, 0, none⟩) (L.length + 1) cap3) (L.length + 1) (gL (fun j => celp P A C (L.getD j 0)) L.length ++ [.string (P c).r, .int .i64 (P c).k, .int .i64 (P c).n, .int .i64 (P c).i, .string (P c).b, .slice (A c) (P c).m (C c)])) :
    OwnC w3 B (some ⟨g3, 0, none⟩) (L ++ [c]).length cap3 (fun j => celp P A C ((L ++ [c]).getD j 0)) := by
  unfold OwnC
  have hl : (L ++ [c]).length = L.length + 1 := by simp
  rw [hl, gL_snoc, gL_congr (c' := fun j => celp P A C (L.getD j 0)) (fun i q hi _ => by simp [List.getElem?_append, hi])]
  have e : ((L ++ [c]).getD L.length 0) = c := by simp
  rw [e]
  exact h3

/-- Whether there are enough of them, and how many are wanted. -/
noncomputable def enK (root : ByteArray) (n : Nat) (P : Nat → Pc) : Int := (P ((gsel root P n).getD 0 0)).k
noncomputable def enB (root : ByteArray) (n : Nat) (P : Nat → Pc) : Bool := decide (n ≤ 64) && decide (gsel root P n ≠ []) && decide (enK root n P ≤ ((gsel root P n).length : Int))
theorem gsel_same {root : ByteArray} {P : Nat → Pc} {n : Nat} : ∀ x ∈ gsel root P n, (P x).k = (P ((gsel root P n).getD 0 0)).k := by
  induction n with
  | zero => intro x hx; cases hx
  | succ c ih =>
    intro x hx
    by_cases hp : (P c).r = root ∧ gwB (P c).k (P c).n (P c).i (gsel root P c).length (fun j => P ((gsel root P c).getD j 0)) = true ∧ pok P c = true
    · rw [gsel_yes hp] at hx ⊢
      cases hL : gsel root P c with
      | nil =>
        rw [hL] at hx
        obtain rfl : x = c := by simpa using hx
        simp
      | cons y ys =>
        rw [hL] at hx ih hp
        have e0 : ((y :: ys ++ [c]).getD 0 0) = y := rfl
        rw [e0]
        rcases List.mem_append.1 hx with h | h
        · exact ih x h
        · obtain rfl : x = c := by simpa using h
          have h2 : GwP (P x).k (P x).n (P x).i (y :: ys).length (fun j => P ((y :: ys).getD j 0)) := by
            have := hp.2.1
            unfold gwB at this
            simpa using this
          exact (h2 0 (by simp)).1
    · rw [gsel_no hp] at hx ⊢
      exact ih x hx
/-- What the sort is asked. -/
def SortOk (P : Nat → Pc) (A : Nat → Option Addr) (C : Nat → Nat) : Prop := ∀ (B g cc : Nat) (L : List Nat) (W : World), OwnC W B (some ⟨g, 0, none⟩) L.length cc (fun j => celp P A C (L.getD j 0)) → B ≤ W.heap.size → L.length ≤ 64 → (∀ x ∈ L, 0 ≤ (P x).i ∧ (P x).i ≤ 16) →
    Calls Tryz.prog 67 #[.slice (some ⟨g, 0, none⟩) L.length cc, .func (.func 68) #[] #[]] W fun e w' => e = .returned (.tuple #[]) ∧ Below B W w' ∧ ∃ L' : List Nat, L'.Perm L ∧ (∀ x y, x < y → y < L'.length → (P (L'.getD x 0)).i ≤ (P (L'.getD y 0)).i) ∧ OwnC w' B (some ⟨g, 0, none⟩) L'.length cc (fun j => celp P A C (L'.getD j 0))
set_option maxHeartbeats 8000000 in
theorem enough_any (root : ByteArray) (a : Option Addr) (n cap : Nat) (A : Nat → Option Addr) (C : Nat → Nat) (P : Nat → Pc) (w : World) (h : PiA w a n A C P) (hn : n ≤ 1048576) (hm : ∀ i, i < n → (P i).m ≤ 1048576) (hL : ∀ i, i < n → ∀ j, j < (P i).m → ((P i).S j).size ≤ maxLen) (hsort : SortOk P A C) :
    Calls Tryz.prog 44 #[.string root, .slice a n cap] w fun e w' => Below w.heap.size w w' ∧ ((enB root n P = false ∧ e = .panicked (failC 1)) ∨ (enB root n P = true ∧ ∃ (g cc : Nat) (L : List Nat), e = .returned (.slice (some ⟨g, 0, none⟩) (enK root n P).toNat cc) ∧ L.Perm (gsel root P n) ∧ (∀ x y, x < y → y < L.length → (P (L.getD x 0)).i ≤ (P (L.getD y 0)).i) ∧ (enK root n P).toNat ≤ cc ∧ OwnC w' w.heap.size (some ⟨g, 0, none⟩) L.length cc (fun j => celp P A C (L.getD j 0)))) := by
  by_cases h64 : 64 < n
  · have KN : Hid (Calls Tryz.prog 48 #[.bool false, .int .i64 1] w fun e w' => e = .panicked (failC 1) ∧ w' = w) := need_no 1 w
    have hle : ¬ ((n : Int) ≤ 64) := by omega
    clear h hL hsort
    go_enter Tryz.func44, Tryz.ntmps44
    go_wp2_with fail
    refine Calls.mono KN.out ?_
    rintro e w' ⟨rfl, rfl⟩
    go_wp2
    have hf : enB root n P = false := by unfold enB; simp; omega
    simp [bodyPost, hf]
    exact Below.refl _ _
  obtain ⟨i0, hi0, hz0, hz1, hz2⟩ := info_parts Tryz.infoPc3
  have hle : (n : Int) ≤ 64 := by omega
  have KH : Hid (PiA w a n A C P) := h
  have HM : Hid (∀ i, i < n → (P i).m ≤ 1048576) := hm
  have HLn : Hid (∀ i, i < n → ∀ j, j < (P i).m → ((P i).S j).size ≤ maxLen) := hL
  have K0 : Hid (OwnC (w.alloc (.cells #[] 49)) w.heap.size (some ⟨w.heap.size, 0, none⟩) 0 0 (fun j => celp P A C (([] : List Nat).getD j 0)) ∧ Below w.heap.size w (w.alloc (.cells #[] 49))) := ⟨World.ownsRow_lit w #[] 0 (Nat.le_refl _) (by unfold maxLen; omega) rfl, (Below.refl _ _).alloc (Nat.le_refl _) _⟩
  have HSO : Hid (SortOk P A C) := hsort
  clear h hm hL hsort
  go_enter Tryz.func44, Tryz.ntmps44
  go_wp2_with fail
  refine Calls.mono (need_ok 1 w) ?_
  rintro e w' ⟨rfl, hw⟩
  obtain rfl := hw.symm
  clear hw
  go_wp2
  go_loopw [5, 15] (fun v vi wr => ∃ c g cc : Nat, c ≤ n ∧ vi = .int .i64 (c : Int) ∧ v = .slice (some ⟨g, 0, none⟩) (gsel root P c).length cc ∧ OwnC wr w.heap.size (some ⟨g, 0, none⟩) (gsel root P c).length cc (fun j => celp P A C ((gsel root P c).getD j 0)) ∧ Below w.heap.size w wr) (fun _ vi _ => n - (intOf vi).toNat)
  case atStart => exact ⟨0, w.heap.size, 0, Nat.zero_le _, rfl, rfl, K0.out.1, K0.out.2⟩
  case round =>
    obtain ⟨c, g, cc, hcn, rfl, rfl, ho, hbel⟩ := hrel
    clear K0
    have KO : Hid (OwnC wr w.heap.size (some ⟨g, 0, none⟩) (gsel root P c).length cc (fun j => celp P A C ((gsel root P c).getD j 0)) ∧ Below w.heap.size w wr) := ⟨ho, hbel⟩
    clear ho hbel
    by_cases hlt : c < n
    · have hci : (c : Int) < (n : Int) := by omega
      have hsl := gsel_len root P c
      obtain ⟨⟨b1, f1, rfl, hx⟩, ht⟩ := (KH.out.below KO.out.2) c hlt
      have lg := World.ownsRow.lt KO.out.1 g rfl
      have hsz := KO.out.2.size
      have HY : Hid (((P c).r = root ∧ gwB (P c).k (P c).n (P c).i (gsel root P c).length (fun j => P ((gsel root P c).getD j 0)) = true ∧ pok P c = true → gsel root P (c + 1) = gsel root P c ++ [c]) ∧ (¬ ((P c).r = root ∧ gwB (P c).k (P c).n (P c).i (gsel root P c).length (fun j => P ((gsel root P c).getD j 0)) = true ∧ pok P c = true) → gsel root P (c + 1) = gsel root P c)) := ⟨gsel_yes, gsel_no⟩
      generalize HLd : gsel root P c = L at KO hsl HY ⊢
      have HG : Hid (∀ W, Below wr.heap.size wr W → ∀ (v : Value), Calls Tryz.prog 65 #[pcV (P c).r (P c).k (P c).n (P c).i (P c).b v, .slice (some ⟨g, 0, none⟩) L.length cc] W fun e w' => e = .returned (.bool (gwB (P c).k (P c).n (P c).i L.length (fun j => P (L.getD j 0)))) ∧ Below W.heap.size W w') := fun W hW v => goesWith_any (P c).r (P c).k (P c).n (P c).i (P c).b v g L.length cc (fun j => P (L.getD j 0)) (fun j => A (L.getD j 0)) (fun j => C (L.getD j 0)) W (fun j q hj hq => (KO.out.1.below hW).cell hj hq) (by omega)
      have HK : Hid (∀ W, Below wr.heap.size wr W → Calls Tryz.prog 66 #[pcV (P c).r (P c).k (P c).n (P c).i (P c).b (.slice (A c) (P c).m (C c))] W fun e w' => e = .returned (.bool (pok P c)) ∧ Below W.heap.size W w') := fun W hW => pieceOk_any (P c).r (P c).k (P c).n (P c).i (P c).b (A c) (P c).m (C c) (P c).S W (ht.below hW) (HM.out c hlt) (HLn.out c hlt)
      have HSN : Hid (∀ (w3 : World) (g3 cap3 : Nat), w3.ownsRow w.heap.size 49 6 (.slice (some ⟨g3, 0, none⟩) (L.length + 1) cap3) (L.length + 1) (gL (fun j => celp P A C (L.getD j 0)) L.length ++ [.string (P c).r, .int .i64 (P c).k, .int .i64 (P c).n, .int .i64 (P c).i, .string (P c).b, .slice (A c) (P c).m (C c)]) → OwnC w3 w.heap.size (some ⟨g3, 0, none⟩) (L ++ [c]).length cap3 (fun j => celp P A C ((L ++ [c]).getD j 0))) := fun w3 g3 cap3 h => OwnC.snoc h
      clear HLd
      generalize gwB (P c).k (P c).n (P c).i L.length (fun j => P (L.getD j 0)) = gwb at HG HY
      generalize pok P c = okb at HK HY
      have x0 := hx 0 (by omega)
      have x1 := hx 1 (by omega)
      have x2 := hx 2 (by omega)
      have x3 := hx 3 (by omega)
      have x4 := hx 4 (by omega)
      have x5 := hx 5 (by omega)
      simp only [cel, Nat.add_zero, ← Nat.add_assoc] at x0 x1 x2 x3 x4 x5
      clear hx ht
      generalize (P c).r = rc at *
      generalize (P c).k = kc at *
      generalize (P c).n = nc at *
      generalize (P c).i = ic at *
      generalize (P c).b = bc at *
      generalize (P c).m = mc at *
      generalize A c = ac at *
      generalize C c = cc' at *
      obtain ⟨D, HD⟩ : ∃ x, Hid (x = wr.heap.size) := ⟨_, rfl⟩
      obtain ⟨w1, HW1⟩ : ∃ x, Hid (x = wr.alloc (.cells (pcC rc kc nc ic bc (.slice ac mc cc')) 49)) := ⟨_, rfl⟩
      have HR1 : Hid (Row w1 D 49 (pcC rc kc nc ic bc (.slice ac mc cc'))) := by show Row _ _ _ _; rw [HW1.out, HD.out]; exact Row.new wr _ _
      have B1 : Hid (Below wr.heap.size wr w1) := by show Below _ _ _; rw [HW1.out]; exact (Below.refl _ _).alloc (Nat.le_refl _) _
      have lD1 := HR1.out.lt
      have HB1 : Hid (Below w.heap.size w w1) := below2 KO.out.2 B1.out
      have q0 := HR1.out.cell 0
      have q1 := HR1.out.cell 1
      have q2 := HR1.out.cell 2
      have q3 := HR1.out.cell 3
      have q4 := HR1.out.cell 4
      have q5 := HR1.out.cell 5
      simp at q0 q1 q2 q3 q4 q5
      by_cases hr : rc = root
      case neg =>
        have nr : (rc.toList == root.toList) = false := ba_ne hr
        have HE : Hid (gsel root P (c + 1) = L) := HY.out.2 (fun h => hr h.1)
        have HO : Hid (OwnC w1 w.heap.size (some ⟨g, 0, none⟩) L.length cc (fun j => celp P A C (L.getD j 0))) := KO.out.1.below B1.out
        clear q0 q1 q2 q3 q4 q5
        go_wp2
        go_roundw
        case rel => exact ⟨c + 1, g, cc, by omega, by go_num, by rw [HE.out], by rw [HE.out, ← HW1.out]; exact HO.out, by rw [← HW1.out]; exact HB1.out⟩
        case measure => simp [intOf]; omega
      subst hr
      have nr := ba_beq rc
      go_wp2_with fail
      rw [← HW1.out, ← HD.out]
      clear x0 x1 x2 x3 x4 x5
      refine Calls.mono (HG.out _ B1.out _) ?_
      rintro e w2 ⟨rfl, b2⟩
      have HR2 : Hid (Row w2 D 49 (pcC rc kc nc ic bc (.slice ac mc cc'))) := HR1.out.below b2 lD1
      have HB2 : Hid (Below w.heap.size w w2) := below2 HB1.out b2
      have B2 : Hid (Below wr.heap.size wr w2) := below2 B1.out b2
      have y0 := HR2.out.cell 0
      have y1 := HR2.out.cell 1
      have y2 := HR2.out.cell 2
      have y3 := HR2.out.cell 3
      have y4 := HR2.out.cell 4
      have y5 := HR2.out.cell 5
      simp at y0 y1 y2 y3 y4 y5
      clear b2 q0 q1 q2 q3 q4 q5 HG
      cases gwb with
      | false =>
        have HE : Hid (gsel rc P (c + 1) = L) := HY.out.2 (fun h => by cases h.2.1)
        have HO : Hid (OwnC w2 w.heap.size (some ⟨g, 0, none⟩) L.length cc (fun j => celp P A C (L.getD j 0))) := KO.out.1.below B2.out
        clear y0 y1 y2 y3 y4 y5
        go_wp2
        go_roundw
        case rel => exact ⟨c + 1, g, cc, by omega, by go_num, by rw [HE.out], by rw [HE.out]; exact HO.out, HB2.out⟩
        case measure => simp [intOf]; omega
      | true =>
        go_wp2_with fail
        refine Calls.mono (HK.out _ B2.out) ?_
        rintro e w3 ⟨rfl, b3⟩
        have HR3 : Hid (Row w3 D 49 (pcC rc kc nc ic bc (.slice ac mc cc'))) := HR2.out.below b3 HR2.out.lt
        have HB3 : Hid (Below w.heap.size w w3) := below2 HB2.out b3
        have HO : Hid (OwnC w3 w.heap.size (some ⟨g, 0, none⟩) L.length cc (fun j => celp P A C (L.getD j 0))) := KO.out.1.below (below2 B2.out b3)
        have z0 := HR3.out.cell 0
        have z1 := HR3.out.cell 1
        have z2 := HR3.out.cell 2
        have z3 := HR3.out.cell 3
        have z4 := HR3.out.cell 4
        have z5 := HR3.out.cell 5
        simp at z0 z1 z2 z3 z4 z5
        have hs3 := HB3.out.size
        clear b3 y0 y1 y2 y3 y4 y5 HK
        cases okb with
        | false =>
          have HE : Hid (gsel rc P (c + 1) = L) := HY.out.2 (fun h => by cases h.2.2)
          clear z0 z1 z2 z3 z4 z5
          go_wp2
          go_roundw
          case rel => exact ⟨c + 1, g, cc, by omega, by go_num, by rw [HE.out], by rw [HE.out]; exact HO.out, HB3.out⟩
          case measure => simp [intOf]; omega
        | true =>
          have HE : Hid (gsel rc P (c + 1) = L ++ [c]) := HY.out.1 (by simp)
          have hll : (L ++ [c]).length = L.length + 1 := by simp
          go_wp2_with (at_builtin; refine wpList_append_all _ (by rfl) _ _ 37 (by rfl) w.heap.size 49 i0 (.agg #[.string ByteArray.empty, .int .i64 0, .int .i64 0, .int .i64 0, .string ByteArray.empty, .slice none 0 0]) 6 80 Tryz.underlying37 hi0 hz0 hz1 hz2 rfl (by decide) g L.length cc _ (by rfl) (World.ownsRow.alloc HO.out _) ⟨w3.heap.size, 0, none⟩ 1 1 [.string rc, .int .i64 kc, .int .i64 nc, .int .i64 ic, .string bc, .slice ac mc cc'] (by rfl) (by rfl) (World.news_of_block (cs := #[.string rc, .int .i64 kc, .int .i64 nc, .int .i64 ic, .string bc, .slice ac mc cc']) (t := 49) (fr := (0, 0)) (heap_alloc_new w3 _)) (by simp [Value.oneCell']) (by unfold maxLen; omega) (by omega) (by simp; omega) ?_; intro g3 cap3 w7 hown3 hgrow3)
          have HN : Hid (OwnC w7 w.heap.size (some ⟨g3, 0, none⟩) (L ++ [c]).length cap3 (fun j => celp P A C ((L ++ [c]).getD j 0)) ∧ Below w.heap.size w w7) := ⟨HSN.out _ _ _ hown3, (HB3.out.alloc hs3 _).grown (show World.grownBy _ w7 (some g) from hgrow3) (by simp; omega) (fun j hj => by cases hj; exact lg.1)⟩
          clear hown3 hgrow3 HO z0 z1 z2 z3 z4 z5
          go_roundw
          case rel => exact ⟨c + 1, g3, cap3, by omega, by go_num, by rw [HE.out, hll], by rw [HE.out]; exact HN.out.1, HN.out.2⟩
          case measure => simp [intOf]; omega
    · obtain rfl : c = n := by omega
      have hsl := gsel_len root P c
      have HLs : Hid (∀ x ∈ gsel root P c, x < c ∧ (P x).r = root ∧ pok P x = true) := fun x hx => gsel_mem hx
      generalize HLd : gsel root P c = L at KO hsl HLs ⊢
      have HLD : Hid (gsel root P c = L) := HLd
      clear HLd hi0 hz0 hz1 hz2
      cases L with
      | nil =>
        go_wp2_with fail
        refine Calls.mono (need_no 1 _) ?_
        rintro e w' ⟨rfl, hw⟩
        obtain rfl := hw.symm
        have hf : enB root c P = false := by unfold enB; rw [HLD.out]; simp
        have hb := KO.out.2
        clear hw KO
        go_wp2
        simp [bodyPost, hf]
        exact hb
      | cons x0 L' =>
        have hlen : (x0 :: L').length = L'.length + 1 := rfl
        have hc1 := KO.out.1.cell (i := 0) (q := 1) (by rw [hlen]; omega) (by omega)
        simp [cel] at hc1
        have HX0 : Hid (enK root c P = (P x0).k) := by show _ = _; unfold enK; rw [HLD.out]; rfl
        have HLE : Hid ((gsel root P c).length = L'.length + 1) := by rw [HLD.out]; exact hlen
        have HNE : Hid (gsel root P c ≠ []) := fun e => by rw [HLD.out] at e; cases e
        have HK1 : Hid (1 ≤ (P x0).k) := by
          have := (HLs.out x0 (by simp)).2.2
          by_cases hk : kOk (P x0).k (P x0).n (P x0).b
          · exact hk.1
          · unfold pok at this; rw [okP_no hk] at this; cases this
        have HII : Hid (∀ x ∈ x0 :: L', 0 ≤ (P x).i ∧ (P x).i ≤ 16) := fun x hx => by
          have := (HLs.out x hx).2.2
          unfold pok at this
          by_cases hk : kOk (P x).k (P x).n (P x).b
          · rw [okP_yes hk] at this
            have h2 := pvB_parts this
            have h3 := hk.2.2.1
            omega
          · rw [okP_no hk] at this; cases this
        have HSK : Hid (∀ x ∈ x0 :: L', (P x).k = (P x0).k) := fun x hx => by
          have := gsel_same (root := root) (P := P) (n := c)
          rw [HLD.out] at this
          exact this x hx
        have HSC : Hid (Calls Tryz.prog 67 #[.slice (some ⟨g, 0, none⟩) (x0 :: L').length cc, .func (.func 68) #[] #[]] wr fun e w' => e = .returned (.tuple #[]) ∧ Below w.heap.size wr w' ∧ ∃ M : List Nat, M.Perm (x0 :: L') ∧ (∀ x y, x < y → y < M.length → (P (M.getD x 0)).i ≤ (P (M.getD y 0)).i) ∧ OwnC w' w.heap.size (some ⟨g, 0, none⟩) M.length cc (fun j => celp P A C (M.getD j 0))) := HSO.out w.heap.size g cc (x0 :: L') wr KO.out.1 KO.out.2.size (by rw [hlen] at hsl ⊢; omega) HII.out
        have HKO : Hid (OwnC wr w.heap.size (some ⟨g, 0, none⟩) (x0 :: L').length cc (fun j => celp P A C ((x0 :: L').getD j 0)) ∧ Below w.heap.size w wr) := KO.out
        clear KO
        rw [hlen] at hsl HSC ⊢
        obtain ⟨l, hl⟩ : ∃ l, L'.length + 1 = l := ⟨_, rfl⟩
        rw [hl] at hsl HSC HLE ⊢
        have l0 : (0 : Int) < (l : Int) := by omega
        obtain ⟨K, HKd⟩ : ∃ K, Hid ((P x0).k = K) := ⟨_, rfl⟩
        rw [HKd.out] at hc1
        by_cases hK : K ≤ (l : Int)
        · go_wp2_with fail
          refine Calls.mono (need_ok 1 _) ?_
          rintro e w' ⟨rfl, hw⟩
          obtain rfl := hw.symm
          clear hw
          have hbw := HKO.out.2
          have hyes : Hid (enB root c P = true) := by show _ = _; unfold enB; rw [HX0.out, HLE.out, HKd.out]; simp [HNE.out, hK]; omega
          clear hc1
          go_wp2_with fail
          refine Calls.mono HSC.out ?_
          rintro e w2 ⟨rfl, b2, M, hM, hMs, hMo⟩
          have hMl : M.length = l := by rw [hM.length_eq, hlen, hl]
          obtain ⟨kn, HKN⟩ : ∃ kn : Nat, Hid (K = (kn : Int)) := ⟨K.toNat, by have := HK1.out; rw [HKd.out] at this; show _ = _; omega⟩
          have hk1 : 1 ≤ kn ∧ kn ≤ l := by have := HK1.out; rw [HKd.out, HKN.out] at this; rw [HKN.out] at hK; omega
          have hall : ∀ x ∈ M, (P x).k = K := fun x hx => by rw [← HKd.out]; exact HSK.out x (hM.mem_iff.1 hx)
          have hMc := hMo.cell (i := 0) (q := 1) (by rw [hMl]; omega) (by omega)
          have hM0 : (P (M.getD 0 0)).k = (kn : Int) := by
            rw [← HKN.out]
            apply hall
            cases M with
            | nil => simp at hMl; omega
            | cons y ys => simp
          have hc2 : w2.cell? ⟨g, 1, none⟩ = some (.int .i64 (kn : Int)) := by rw [← hM0]; exact hMc
          have hcap : l ≤ cc := by
            rcases hMo.2 with ⟨e, _⟩ | ⟨g', c', cu, e, _, _, hn', _⟩
            · cases e
            · cases e; rw [← hMl]; exact hn'
          have HF : Hid (Below w.heap.size w w2 ∧ (enK root c P).toNat = kn ∧ M.Perm (gsel root P c) ∧ (∀ x y, x < y → y < M.length → (P (M.getD x 0)).i ≤ (P (M.getD y 0)).i) ∧ OwnC w2 w.heap.size (some ⟨g, 0, none⟩) M.length cc (fun j => celp P A C (M.getD j 0))) := ⟨hbw.trans b2, by rw [HX0.out, HKd.out, HKN.out]; simp, by rw [HLD.out]; exact hM, hMs, hMo⟩
          have hki : (kn : Int) ≤ (l : Int) := by omega
          have hkc : (kn : Int) ≤ (cc : Int) := by omega
          have hk0 : (0 : Int) ≤ (kn : Int) := by omega
          clear b2 hM hMs hMo hMc hM0 hall hbw HSC
          go_wp2
          go_ret
          exact ⟨HF.out.1, .inr ⟨hyes.out, g, cc, M, by rw [HF.out.2.1]; rfl, HF.out.2.2.1, HF.out.2.2.2.1, by rw [HF.out.2.1]; omega, HF.out.2.2.2.2⟩⟩
        · go_wp2_with fail
          refine Calls.mono (need_no 1 _) ?_
          rintro e w' ⟨rfl, hw⟩
          obtain rfl := hw.symm
          have hf : enB root c P = false := by unfold enB; rw [HX0.out, HLE.out, HKd.out]; simp [hK]
          have hb := HKO.out.2
          clear hw
          go_wp2
          simp [bodyPost, hf]
          exact hb
end Go.Proofs.YtodpgbmpfflkoaaGreatDoor
/- Marks laid into lists of pieces, of any length that the laws bear: what turns is told. Conditions: at most 2^20 pieces, marks up to 2 * 10^7. Written by mkmarkp.py. -/
namespace Go.Proofs.YtodpgbmpfflkoaaGreatDoor
set_option maxRecDepth 2000
open Go.ChangeShapes Go.WideShapes Go.ChangeAt Go.RowKit

def pcsD (n : Nat) (P : Nat → Pc) : Dt := .lst 49 6 n fun i => pcD (P i)
end Go.Proofs.YtodpgbmpfflkoaaGreatDoor
/- The sort of the pieces that count, by their Index: what the program's call of the library's sort leaves. Condition: at most 64 pieces, whose Index is 0 .. 16. -/
namespace Go.Proofs.YtodpgbmpfflkoaaGreatDoor
set_option maxRecDepth 2000
open Go.ChangeShapes Go.WideShapes Go.ChangeAt Go.RowKit
open Go.Shelf Go.Lib Go.Sort

/-- The pieces with an Index that is one. -/
noncomputable def clp (P : Nat → Pc) (x : Nat) : Pc := @ite _ (0 ≤ (P x).i ∧ (P x).i ≤ 16) (Classical.propDecidable _) (P x) { P x with i := 0 }
theorem clp_is {P : Nat → Pc} {x : Nat} (h : 0 ≤ (P x).i ∧ (P x).i ≤ 16) : clp P x = P x := if_pos h
theorem clp_in (P : Nat → Pc) (x : Nat) : 0 ≤ (clp P x).i ∧ (clp P x).i ≤ 16 := by
  by_cases h : 0 ≤ (P x).i ∧ (P x).i ≤ 16
  · rw [clp_is h]; exact h
  · unfold clp; rw [if_neg h]; exact ⟨Int.le_refl _, show (0 : Int) ≤ 16 by decide⟩
noncomputable def encP (P : Nat → Pc) (A : Nat → Option Addr) (C : Nat → Nat) (x : Nat) : List Value := [.string (clp P x).r, .int .i64 (clp P x).k, .int .i64 (clp P x).n, .int .i64 (clp P x).i, .string (clp P x).b, .slice (A x) (clp P x).m (C x)]
theorem encP_get {P : Nat → Pc} {A : Nat → Option Addr} {C : Nat → Nat} {x : Nat} (h : 0 ≤ (P x).i ∧ (P x).i ≤ 16) {q : Nat} (hq : q < 6) : (encP P A C x)[q]! = celp P A C x q := by
  unfold encP
  rw [clp_is h]
  match q, hq with
  | 0, _ => rfl
  | 1, _ => rfl
  | 2, _ => rfl
  | 3, _ => rfl
  | 4, _ => rfl
  | 5, _ => rfl
noncomputable def cfP (P : Nat → Pc) (x y : Nat) : Int := (clp P x).i - (clp P y).i
theorem swoP (P : Nat → Pc) : SWO (ltOf (cfP P)) where
  irrefl x := by unfold ltOf cfP; simp
  trans x y z h1 h2 := by unfold ltOf cfP at *; simp at *; omega
  ntrans x y z h1 h2 := by unfold ltOf cfP at *; simp at *; omega
set_option maxHeartbeats 1000000 in
theorem closureP (P : Nat → Pc) (A : Nat → Option Addr) (C : Nat → Nat) (x y : Nat) (W : World) : Calls Tryz.prog 68 #[.agg (encP P A C x).toArray, .agg (encP P A C y).toArray] W fun e w' => e = .returned (.int .i64 (cfP P x y)) ∧ ∃ q os', w' = grow (W.drewN q) os' := by
  have hx := clp_in P x
  have hy := clp_in P y
  unfold encP cfP
  generalize clp P x = p at hx ⊢
  generalize clp P y = p' at hy ⊢
  obtain ⟨r, k, n, i, b, m, S⟩ := p
  obtain ⟨r', k', n', i', b', m', S'⟩ := p'
  simp only at hx hy
  have hw : IntKind.i64.wrap (i - i') = i - i' := by rw [IntKind.wrap_i64]; omega
  go_enter Tryz.func68, Tryz.ntmps68
  go_wp2
  go_ret
  exact ⟨rfl, 0, _, by rw [alloc_eq_grow, alloc_eq_grow, grow_grow]; rfl⟩

set_option maxHeartbeats 1000000 in
theorem sort_ok (P : Nat → Pc) (A : Nat → Option Addr) (C : Nat → Nat) : SortOk P A C := by
  intro B g cc L W ho hB hl hi
  have eg : ∀ args w, (callFunc 68 args).run Tryz.prog w = .ok (.enter 68 args) w := enters_of Tryz.func68 (by kernel_rfl) rfl
  have hinL : ∀ t, t < L.length → 0 ≤ (P (L.getD t 0)).i ∧ (P (L.getD t 0)).i ≤ 16 := fun t ht => hi _ (by simp [ht])
  have hH : HoldsK (encP P A C) 6 W g 0 L.toArray := by
    intro j hj
    have hj' : j < L.length * 6 := by simpa using hj
    rw [get_flatK _ _ _ _ (by simpa using hj)]
    have h1 : j / 6 < L.length := by omega
    have hc := ho.cell (i := j / 6) (q := j % 6) h1 (by omega)
    rw [show j / 6 * 6 + j % 6 = j by omega] at hc
    refine ⟨?_, by rw [Nat.zero_add]; exact World.ownsRow.frozenAt ho _⟩
    rw [Nat.zero_add, hc]
    have e : (L.toArray)[j / 6]! = L.getD (j / 6) 0 := by simp [h1]
    rw [e, encP_get (hinL _ h1) (by omega)]
    rfl
  have lg := World.ownsRow.lt ho g rfl
  have hcon := AnyQ.slices_SortFunc Tryz.sortP 6 Tryz.isAgg49 Tryz.sizeOf49 (encP P A C) (fun _ => rfl) (fun x v hv => by simp [encP] at hv; rcases hv with rfl | rfl | rfl | rfl | rfl | rfl <;> rfl) (cfP P) (swoP P) 68 #[] g 0 cc L.toArray W eg (fun _ _ _ _ x y => closureP P A C x y _) hH lg.2 (by simp; omega)
  have hcon' : Calls Tryz.prog 67 #[.slice (some ⟨g, 0, none⟩) L.length cc, .func (.func 68) #[] #[]] W fun e w' => e = .returned (.tuple #[]) ∧ ∃ d' n os, PermIn 0 L.toArray.size L.toArray d' ∧ SortedIn (ltOf (cfP P)) 0 L.toArray.size d' ∧ w' = sortWorldK (encP P A C) 6 W g 0 n d' os := hcon
  refine hcon'.mono ?_
  rintro e w' ⟨rfl, d', m, os, hp, hs, rfl⟩
  have hsz : d'.size = L.length := by simpa using hp.1
  have hperm : d'.toList.Perm L := by
    have h3 := hp.2.2
    have e1 : d'.extract 0 L.toArray.size = d' := by rw [show L.toArray.size = d'.size by rw [hsz]; simp]; simp
    have e2 : L.toArray.extract 0 L.toArray.size = L.toArray := by simp
    rw [e1, e2] at h3
    simpa using h3
  have hin' : ∀ t, t < d'.size → 0 ≤ (P (d'.toList.getD t 0)).i ∧ (P (d'.toList.getD t 0)).i ≤ 16 := fun t ht => hi _ (hperm.mem_iff.1 (by simp [ht]))
  have hget : ∀ t, t < d'.size → d'[t]! = d'.toList.getD t 0 := fun t ht => by simp [ht]
  refine ⟨rfl, ?_, d'.toList, hperm, ?_, ?_⟩
  · refine ⟨rfl, rfl, rfl, size_sortWorldK_c _ _ _ _ _ _ _ _, fun j hj => ?_⟩
    show ((Array.modify W.heap g _) ++ os)[j]? = _
    rw [Array.getElem?_append_left (by simp; omega), Array.getElem?_modify, if_neg (by omega)]
  · intro x y hxy hy
    have hy' : y < d'.size := by simpa using hy
    have h := hs x y (Nat.zero_le _) hxy (by rw [← hp.1]; exact hy')
    rw [hget x (by omega), hget y hy'] at h
    have h1 := hin' x (by omega)
    have h2 := hin' y hy'
    unfold ltOf cfP at h
    rw [clp_is h1, clp_is h2] at h
    simp at h
    simp
    omega
  · rcases ho.2 with ⟨e, _⟩ | ⟨g', cap', cur, e, hBg, hg, hn, hm, hcs, htk⟩
    · cases e
    cases e
    have hll : d'.toList.length = L.length := by rw [← hsz]; simp
    refine ⟨gL_len _ _, .inr ⟨g, cc, putCells id 0 (flatK (encP P A C) 6 d') cur, by rw [hll], hBg, ?_, by rw [hll]; exact hn, hm, by simp [putCells, hcs], ?_⟩⟩
    · show ((Array.modify W.heap g _) ++ os)[g]? = _
      rw [Array.getElem?_append_left (by simp; exact lg.2), Array.getElem?_modify, if_pos rfl, hg]
      rfl
    · apply List.ext_getElem?
      intro t
      by_cases ht : t < d'.toList.length * 6
      · have ht' : t < L.length * 6 := by rw [hll] at ht; exact ht
        have htc : t < cur.size := by rw [hcs]; omega
        rw [List.getElem?_take, if_pos ht]
        have h2 := gL_get (fun j => celp P A C (d'.toList.getD j 0)) d'.toList.length (t / 6) (t % 6) (by omega) (by omega)
        rw [show t / 6 * 6 + t % 6 = t by omega] at h2
        rw [h2]
        have h6 : t / 6 < d'.size := by rw [hsz]; omega
        simp only [putCells, Array.getElem?_toList, Array.getElem?_mapIdx]
        rw [Array.getElem?_eq_getElem htc]
        simp only [Option.map_some, Nat.zero_le, Nat.zero_add, Nat.sub_zero, true_and, size_flatK]
        rw [if_pos (by rw [hsz]; exact ht'), get_flatK _ _ _ _ (by rw [hsz]; exact ht'), hget _ h6, id, encP_get (hin' _ h6) (by omega)]
      · rw [List.getElem?_eq_none (by rw [List.length_take]; omega), List.getElem?_eq_none (by rw [gL_len]; omega)]
end Go.Proofs.YtodpgbmpfflkoaaGreatDoor
