/- The pieces of all bodies, of a text, and their root, in the model. Conditions: at most 64 bodies of at most 2^20 bytes; a text of at most 2^20 bytes. -/
import Derived.Test.YthnjhjgffkilcaaGreatDoorH33
import Derived.Test.YthnjhjgffkilcaaGreatDoorH32
import Derived.Test.YthnjhjgffkilcaaGreatDoorH8
import Derived.Test.YthnjhjgffkilcaaGreatDoorH12
import Derived.Test.YthnjhjgffkilcaaGreatDoorH19
namespace Go.Proofs.YthnjhjgffkilcaaGreatDoor
set_option maxRecDepth 2000
open Go.ChangeShapes Go.WideShapes Go.ChangeAt Go.RowKit

theorem OwnP.snoc {w w2 w3 : World} {B g g3 c cap cap3 : Nat} {A : Nat → Option Addr} {C : Nat → Nat} {P : Nat → Pc} {aP : Option Addr} {cP : Nat} {X : Obj}
    (h : OwnP w B (some ⟨g, 0, none⟩) c cap A C P) (hB : B ≤ w.heap.size) (hb : Below w.heap.size w w2) (ho : OwnT w2 w.heap.size aP (P c).m cP (P c).S)
    (h3 : w3.ownsRow B 33 6 (.slice (some ⟨g3, 0, none⟩) (c + 1) cap3) (c + 1) (gL (fun i => cel (P i) (.slice (A i) (P i).m (C i))) c ++ [.string (P c).r, .int .i64 (P c).k, .int .i64 (P c).n, .int .i64 (P c).i, .string (P c).b, .slice aP (P c).m cP]))
    (hg : (w2.alloc X).grownBy w3 (some g)) (hat : g = g3 ∨ g3 = w2.heap.size + 1) : ∃ A' C', OwnP w3 B (some ⟨g3, 0, none⟩) (c + 1) cap3 A' C' P := by
  obtain ⟨h1, h2, h4, h5⟩ := h
  have lg := (World.ownsRow.lt h1 g rfl).2
  have lA : ∀ i x, i < c → A i = some x → x.block < w.heap.size := fun i x hi e => by
    have := h2 i hi
    rw [e] at this
    exact (World.ownsRow.lt this x.block rfl).2
  have lP : ∀ x, aP = some x → w.heap.size ≤ x.block ∧ x.block < w2.heap.size := fun x e => by
    subst e
    exact World.ownsRow.lt ho x.block rfl
  have hs := hb.size
  refine ⟨fun i => if i = c then aP else A i, fun i => if i = c then cP else C i, ?_, ?_, ?_, ?_⟩
  · show World.ownsRow _ _ _ _ _ _ _
    have e : gL (fun i => cel (P i) (.slice (if i = c then aP else A i) (P i).m (if i = c then cP else C i))) (c + 1) = gL (fun i => cel (P i) (.slice (A i) (P i).m (C i))) c ++ [.string (P c).r, .int .i64 (P c).k, .int .i64 (P c).n, .int .i64 (P c).i, .string (P c).b, .slice aP (P c).m cP] := by
      rw [gL_snoc, gL_congr (c' := fun i => cel (P i) (.slice (A i) (P i).m (C i))) (fun i q hi _ => by simp [show i ≠ c by omega])]
      simp [cel]
    rw [e]
    exact h3
  · intro i hi
    by_cases ei : i = c
    · subst ei
      simp only [if_true]
      exact own_kept (World.ownsRow.alloc (OwnT.base ho hB) X) hg (fun x e => by have := lP x e; omega)
    · simp only [ei, if_false]
      exact own_kept (World.ownsRow.alloc (OwnT.below (h2 i (by omega)) hb) X) hg (fun x e => h5 i x _ (by omega) e rfl)
  · intro i j x y hij hj hx hy
    replace hx : (if i = c then aP else A i) = some x := hx
    replace hy : (if j = c then aP else A j) = some y := hy
    by_cases ej : j = c
    · subst ej
      simp only [if_true] at hy
      rw [if_neg (by omega)] at hx
      have l1 := lP y hy
      have l2 := lA i x (by omega) hx
      omega
    · rw [if_neg ej] at hy
      rw [if_neg (by omega)] at hx
      exact h4 i j x y hij (by omega) hx hy
  · intro i x y hi hx hy
    replace hx : (if i = c then aP else A i) = some x := hx
    cases hy
    by_cases ei : i = c
    · subst ei
      simp only [if_true] at hx
      have := lP x hx
      rcases hat with e | e
      · show x.block ≠ g3; omega
      · show x.block ≠ g3; omega
    · rw [if_neg ei] at hx
      have l2 := lA i x (by omega) hx
      rcases hat with e | e
      · subst e; exact h5 i x _ (by omega) hx rfl
      · show x.block ≠ g3; omega

theorem OwnP.base {w : World} {B B' : Nat} {a : Option Addr} {n cap : Nat} {A : Nat → Option Addr} {C : Nat → Nat} {P : Nat → Pc} (h : OwnP w B a n cap A C P) (hB : B' ≤ B) : OwnP w B' a n cap A C P :=
  ⟨own_base h.1 hB, fun i hi => OwnT.base (h.2.1 i hi) hB, h.2.2⟩
set_option maxHeartbeats 4000000 in
theorem sAll_any (k : Int) (a : Option Addr) (n cap : Nat) (S : Nat → ByteArray) (w : World) (h : TxtAt w a n S) (hn : n ≤ 64) (hS : ∀ i, i < n → (S i).size ≤ 1048576) :
    Calls Tryz.prog 51 #[.slice a n cap, .int .i64 k, .int .i64 (n : Int)] w fun e w' => ∃ v, e = .returned v ∧ ResP w w' v n (cutP k n S) ∧ Below w.heap.size w w' := by
  obtain ⟨i0, hi, hz0, hz1, hz2⟩ := info_parts Tryz.infoStr
  obtain ⟨j0, hj, hy0, hy1, hy2⟩ := info_parts Tryz.infoPc3
  have HPC : Hid (∀ i, cutP k n S i = ⟨rtS n (lvs k n S), k, (n : Int), (i : Int), S i, pfR n (lvs k n S) (i : Int), pfF n (lvs k n S) (i : Int)⟩) := fun i => rfl
  obtain ⟨P, HP⟩ : ∃ P, Hid (cutP k n S = P) := ⟨_, rfl⟩
  rw [HP.out] at HPC
  rw [HP.out]
  obtain ⟨L, HL⟩ : ∃ L, Hid (lvs k n S = L) := ⟨_, rfl⟩
  have HL16 : Hid (∀ i, (L i).size ≤ 16) := fun i => by rw [← HL.out]; exact lvs_le _ _ _ _
  obtain ⟨rt, HRT⟩ : ∃ rt, Hid (rtS n L = rt) := ⟨_, rfl⟩
  rw [HL.out, HRT.out] at HPC
  have KH : Hid (TxtAt w a n S) := h
  have KS : Hid (∀ i, i < n → (S i).size ≤ 1048576) := hS
  have K0 : Hid (OwnT (w.alloc (.cells #[] 9)) w.heap.size (some ⟨w.heap.size, 0, none⟩) 0 0 L ∧ Below w.heap.size w (w.alloc (.cells #[] 9))) := ⟨litT w _, (Below.refl _ _).alloc (Nat.le_refl _) _⟩
  clear h hS
  go_enter Tryz.func51, Tryz.ntmps51
  go_wp2
  go_loopw [7, 8] (fun v vi wr => ∃ c g cc : Nat, c ≤ n ∧ vi = .int .i64 (c : Int) ∧ v = .slice (some ⟨g, 0, none⟩) c cc ∧ OwnT wr w.heap.size (some ⟨g, 0, none⟩) c cc L ∧ Below w.heap.size w wr) (fun _ vi _ => n - (intOf vi).toNat)
  case atStart => exact ⟨0, w.heap.size, 0, Nat.zero_le _, rfl, rfl, K0.out.1, K0.out.2⟩
  case round =>
    obtain ⟨c, g, cc, hk, rfl, rfl, ho, hbel⟩ := hrel
    clear K0
    have KO : Hid (OwnT wr w.heap.size (some ⟨g, 0, none⟩) c cc L ∧ Below w.heap.size w wr) := ⟨ho, hbel⟩
    clear ho hbel
    by_cases hlt : c < n
    · have hki : (c : Int) < (n : Int) := by omega
      obtain ⟨b1, off1, rfl, hc1⟩ := (KH.out.below KO.out.2) c hlt
      have KC : Hid (∀ W, Calls Tryz.prog 22 #[.int .i64 k, .int .i64 (n : Int), .int .i64 (c : Int), .string (S c)] W fun e w' => e = .returned (.string (L c)) ∧ Below W.heap.size W w') := fun W => by
        have := sPieceLeaf_any k (n : Int) (c : Int) (S c) W (KS.out c hlt)
        rw [← HL.out]
        exact this
      have lg := World.ownsRow.lt KO.out.1 _ rfl
      generalize S c = sc at hc1 KC
      obtain ⟨z, HZ⟩ : ∃ z, Hid (L c = z) := ⟨_, rfl⟩
      rw [HZ.out] at KC
      go_wp2_with fail
      refine Calls.mono (KC.out _) ?_
      rintro e w6 ⟨rfl, hb6⟩
      have K6 : Hid (OwnT w6 w.heap.size (some ⟨g, 0, none⟩) c cc L ∧ Below w.heap.size w w6) := ⟨OwnT.below KO.out.1 hb6, below2 KO.out.2 hb6⟩
      have hsz6 := K6.out.2.size
      clear hb6 KC hc1 KO
      go_wp2_with (at_builtin; refine wpList_append_all _ (by rfl) _ _ 31 (by rfl) w.heap.size 9 i0 (.string ByteArray.empty) 1 16 Tryz.underlying31 hi hz0 hz1 hz2 rfl (by decide) g c cc _ (by rfl) (World.ownsRow.alloc K6.out.1 _) ⟨w6.heap.size, 0, none⟩ 1 1 [.string z] (by rfl) (by rfl) (World.news_of_block (cs := #[.string z]) (t := 9) (fr := (0, 0)) (heap_alloc_new w6 _)) (by simp [Value.oneCell']) (by unfold maxLen; omega) (by omega) (by simp; omega) ?_; intro g3 cap3 w7 hown3 hgrow3)
      have HL7 : Hid (OwnT w7 w.heap.size (some ⟨g3, 0, none⟩) (c + 1) cap3 L ∧ Below w.heap.size w w7) := by
        refine ⟨?_, (K6.out.2.alloc hsz6 _).grown (show World.grownBy _ w7 (some g) from hgrow3) (by simp; omega) (fun j hj => by cases hj; exact lg.1)⟩
        unfold OwnT
        rw [sL_snoc, HZ.out]
        exact hown3
      clear hown3 hgrow3 K6
      go_roundw
      case rel => exact ⟨c + 1, g3, cap3, by omega, by go_num, rfl, HL7.out.1, HL7.out.2⟩
      case measure => simp [intOf]; omega
    · obtain rfl : c = n := by omega
      have KR : Hid (Calls Tryz.prog 113 #[.slice (some ⟨g, 0, none⟩) c cc] wr fun e w' => e = .returned (.tuple #[.string rt, .bool (lvB c L)]) ∧ Below wr.heap.size wr w') := by
        have := sRoot_any (some ⟨g, 0, none⟩) c cc L wr (OwnT.at KO.out.1) (by omega) (fun i _ => by have := HL16.out i; unfold maxLen; omega)
        rw [HRT.out] at this
        exact this
      generalize lvB c L = okr at KR
      go_wp2_with fail
      refine Calls.mono KR.out ?_
      rintro e w3 ⟨rfl, hb3⟩
      obtain ⟨w4, HW4⟩ : ∃ w4, Hid (w4 = w3.alloc (.cells #[] 33)) := ⟨_, rfl⟩
      have hb34 : Below w3.heap.size w3 w4 := by rw [HW4.out]; exact (Below.refl _ _).alloc (Nat.le_refl _) _
      have KL3 : Hid (TxtAt w3 (some ⟨g, 0, none⟩) c L) := (OwnT.at KO.out.1).below hb3
      have KA3 : Hid (TxtAt w3 a c S) := (KH.out.below KO.out.2).below hb3
      have KB3 : Hid (Below w.heap.size w w3) := below2 KO.out.2 hb3
      have KB34 : Hid (Below w3.heap.size w3 w4) := hb34
      have KP4 : Hid (OwnP w4 w3.heap.size (some ⟨w3.heap.size, 0, none⟩) 0 0 (fun _ => none) (fun _ => 0) P) := by
        rw [HW4.out]
        exact ⟨World.ownsRow_lit w3 #[] 0 (Nat.le_refl _) (by unfold maxLen; omega) rfl, fun i hi => absurd hi (Nat.not_lt_zero _), fun i j x y _ hj => absurd hj (Nat.not_lt_zero _), fun i x y hi => absurd hi (Nat.not_lt_zero _)⟩
      clear hb3 hb34 KO KR hi hz0 hz1 hz2
      go_wp2_with fail
      rw [← HW4.out]
      go_loopw [11, 12] (fun v vi wr => ∃ q g2 cc2 : Nat, q ≤ c ∧ vi = .int .i64 (q : Int) ∧ v = .slice (some ⟨g2, 0, none⟩) q cc2 ∧ (∃ A C, OwnP wr w3.heap.size (some ⟨g2, 0, none⟩) q cc2 A C P) ∧ Below w3.heap.size w3 wr) (fun _ vi _ => c - (intOf vi).toNat)
      case atStart => exact ⟨0, _, 0, Nat.zero_le _, rfl, rfl, ⟨_, _, KP4.out⟩, KB34.out⟩
      case round =>
        obtain ⟨q, g2, cc2, hq, rfl, rfl, ⟨A, C, hop⟩, hb3r⟩ := hrel
        clear KP4
        have KOP : Hid (OwnP wr w3.heap.size (some ⟨g2, 0, none⟩) q cc2 A C P ∧ Below w3.heap.size w3 wr) := ⟨hop, hb3r⟩
        have lg2 := World.ownsRow.lt hop.1 g2 rfl
        clear hop hb3r
        by_cases hlt2 : q < c
        · have hqi : (q : Int) < (c : Int) := by omega
          have KPF : Hid (Calls Tryz.prog 114 #[.slice (some ⟨g, 0, none⟩) c cc, .int .i64 (q : Int)] wr fun e w' => ∃ v, e = .returned (.tuple #[v, .bool (pfB c L (q : Int))]) ∧ ResT wr w' v (P q).m (P q).S ∧ Below wr.heap.size wr w') := by
            rw [HPC.out]
            exact sProof_any (some ⟨g, 0, none⟩) c cc L (q : Int) wr (KL3.out.below KOP.out.2) (by omega) (fun i _ => by have := HL16.out i; unfold maxLen; omega)
          generalize pfB c L (q : Int) = okp at KPF
          obtain ⟨mq, HMQ⟩ : ∃ mc, Hid ((P q).m = mc) := ⟨_, rfl⟩
          rw [HMQ.out] at KPF
          obtain ⟨sc, HSC⟩ : ∃ sc, Hid (S q = sc) := ⟨_, rfl⟩
          have HS : Hid ((P q).r = rt ∧ (P q).k = k ∧ (P q).n = (c : Int) ∧ (P q).i = (q : Int) ∧ (P q).b = sc) := by rw [HPC.out, HSC.out]; exact ⟨rfl, rfl, rfl, rfl, rfl⟩
          go_wp2_with fail
          refine Calls.mono KPF.out ?_
          rintro e w5 ⟨v5, rfl, ⟨aP, cP, rfl, O5⟩, hb5⟩
          obtain ⟨b1, off1, rfl, hc1⟩ := ((KA3.out.below KOP.out.2).below hb5) q hlt2
          rw [HSC.out] at hc1
          have hs5 := hb5.size
          have hw5 := KOP.out.2.size
          have O5' : Hid (OwnT w5 wr.heap.size aP mq cP (P q).S) := O5
          have HB5 : Hid (Below wr.heap.size wr w5) := hb5
          have KX : Hid (OwnC w5 w3.heap.size (some ⟨g2, 0, none⟩) q cc2 (fun i => cel (P i) (.slice (A i) (P i).m (C i)))) := KOP.out.1.1.below hb5
          clear O5 hb5 KPF
          go_wp2_with (at_builtin; refine wpList_append_lies _ (by rfl) _ _ 26 (by rfl) w3.heap.size 33 j0 (.agg #[.string ByteArray.empty, .int .i64 0, .int .i64 0, .int .i64 0, .string ByteArray.empty, .slice none 0 0]) 6 80 Tryz.underlying26 hj hy0 hy1 hy2 rfl (by decide) (.slice (some ⟨g2, 0, none⟩) q cc2) q _ (by rfl) (World.ownsRow.alloc KX.out _) ⟨w5.heap.size, 0, none⟩ 1 1 [.string rt, .int .i64 k, .int .i64 (c : Int), .int .i64 (q : Int), .string sc, .slice aP mq cP] (by rfl) (by rfl) (World.news_of_block (cs := #[.string rt, .int .i64 k, .int .i64 (c : Int), .int .i64 (q : Int), .string sc, .slice aP mq cP]) (t := 33) (fr := (0, 0)) (heap_alloc_new w5 _)) (by simp [Value.oneCell']) (by omega) (by unfold maxLen; omega) (by omega) (by simp; omega) (w5.heap.size + 1) (by simp) ?_; intro g3 cap3 w7 hown3 hgrow3 hat3 hlt3)
          have hgr : World.grownBy (w5.alloc (.cells #[.string rt, .int .i64 k, .int .i64 (c : Int), .int .i64 (q : Int), .string sc, .slice aP mq cP] 33)) w7 (some g2) := hgrow3
          have HN : Hid ((∃ A C, OwnP w7 w3.heap.size (some ⟨g3, 0, none⟩) (q + 1) cap3 A C P) ∧ Below w3.heap.size w3 w7) := by
            refine ⟨OwnP.snoc (aP := aP) (cP := cP) KOP.out.1 hw5 HB5.out (by rw [HMQ.out]; exact O5'.out) ?_ hgr ?_, ?_⟩
            · rw [HMQ.out, HS.out.1, HS.out.2.1, HS.out.2.2.1, HS.out.2.2.2.1, HS.out.2.2.2.2]
              exact hown3
            · rcases hat3 with e | e
              · exact .inl (by simpa [Value.ownBlock] using e)
              · exact .inr e
            · exact ((below2 KOP.out.2 HB5.out).alloc (by omega) _).grown hgr (by simp; omega) (fun j hj => by cases hj; exact lg2.1)
          clear hown3 hgrow3 hgr hat3 hlt3 KOP KX HB5 O5' hc1
          go_roundw
          case rel => exact ⟨q + 1, g3, cap3, by omega, by go_num, rfl, HN.out.1, HN.out.2⟩
          case measure => simp [intOf]; omega
        · obtain rfl : q = c := by omega
          go_wp2
          go_ret
          exact ⟨_, rfl, ⟨_, _, A, C, rfl, KOP.out.1.base KB3.out.size⟩, below2 KB3.out KOP.out.2⟩

end Go.Proofs.YthnjhjgffkilcaaGreatDoor
/- Lists of pieces that the exact laws mark, ask for their marks, and compare. Conditions stand at each. -/
namespace Go.Proofs.YthnjhjgffkilcaaGreatDoor
set_option maxRecDepth 2000
open Go.ChangeShapes Go.WideShapes Go.ChangeAt Go.RowKit

/-- The first mark of piece i. -/
def ofs (k : Nat) (P : Nat → Pc) : Nat → Nat
  | 0 => k
  | i + 1 => ofs k P i + 5 + (P i).m
theorem ofs_le (k : Nat) (P : Nat → Pc) {i j : Nat} (h : i ≤ j) : ofs k P i ≤ ofs k P j := by
  induction j with
  | zero => obtain rfl : i = 0 := by omega
            exact Nat.le_refl _
  | succ j ih =>
    by_cases e : i = j + 1
    · subst e; exact Nat.le_refl _
    · have := ih (by omega)
      show _ ≤ ofs k P j + 5 + (P j).m
      omega
/-- The pieces, marked from k on. -/
def mkd (k : Nat) (P : Nat → Pc) (i : Nat) : Pc := ⟨mtxt (ofs k P i), ((ofs k P i + 1 : Nat) : Int), ((ofs k P i + 2 : Nat) : Int), ((ofs k P i + 3 : Nat) : Int), mtxt (ofs k P i + 4), (P i).m, fun j => mtxt (ofs k P i + 5 + j)⟩
theorem OwnP.congr {w : World} {B : Nat} {a : Option Addr} {n cap : Nat} {A : Nat → Option Addr} {C : Nat → Nat} {P P' : Nat → Pc} (h : OwnP w B a n cap A C P) (e : ∀ i, i < n → P i = P' i) : OwnP w B a n cap A C P' :=
  ⟨h.1.congr (fun i q hi _ => by rw [e i hi]), fun i hi => by rw [← e i hi]; exact h.2.1 i hi, h.2.2⟩
theorem OwnP.marked {w w1 w2 w3 : World} {B g n cap : Nat} {A : Nat → Option Addr} {C : Nat → Nat} {P : Nat → Pc} {c bB bE : Nat} {Q : Pc} (h : OwnP w B (some ⟨g, 0, none⟩) n cap A C P) (hc : c < n) (hB : B ≤ w.heap.size)
    (b1 : Below w.heap.size w w1)
    (b2 : Below ((((w1.setCell ⟨g, c * 6 + 0, none⟩ (.string Q.r)).setCell ⟨g, c * 6 + 1, none⟩ (.int .i64 Q.k)).setCell ⟨g, c * 6 + 2, none⟩ (.int .i64 Q.n)).setCell ⟨g, c * 6 + 3, none⟩ (.int .i64 Q.i)).heap.size ((((w1.setCell ⟨g, c * 6 + 0, none⟩ (.string Q.r)).setCell ⟨g, c * 6 + 1, none⟩ (.int .i64 Q.k)).setCell ⟨g, c * 6 + 2, none⟩ (.int .i64 Q.n)).setCell ⟨g, c * 6 + 3, none⟩ (.int .i64 Q.i)) w2) (hm : Q.m = (P c).m)
    (hX : (A c = none ∧ bE ≤ bB ∧ B ≤ bB) ∨ ∃ x, A c = some x ∧ bB = x.block ∧ bE = x.block + 1)
    (hR : RowT w3 bB bE (A c) (P c).m (C c) Q.S) (ht : TurnM (w2.setCell ⟨g, c * 6 + 4, none⟩ (.string Q.b)) w3 bB bE) :
    OwnP w3 B (some ⟨g, 0, none⟩) n cap A C (fun j => if j = c then Q else P j) ∧ Below B w w3 := by
  obtain ⟨h1, h2, h3, h4⟩ := h
  have lg := World.ownsRow.lt h1 g rfl
  have hbB : B ≤ bB := by
    rcases hX with ⟨_, _, e⟩ | ⟨x, e, e1, _⟩
    · exact e
    · have := h2 c hc
      rw [e] at this
      have := (World.ownsRow.lt this x.block rfl).1
      omega
  have hgb : ¬ (bB ≤ g ∧ g < bE) := by
    rcases hX with ⟨_, e, _⟩ | ⟨x, e, e1, e2⟩
    · omega
    · have := h4 c x _ hc e rfl
      have : x.block ≠ g := this
      omega
  have hb2' : Below w.heap.size ((((w1.setCell ⟨g, c * 6 + 0, none⟩ (.string Q.r)).setCell ⟨g, c * 6 + 1, none⟩ (.int .i64 Q.k)).setCell ⟨g, c * 6 + 2, none⟩ (.int .i64 Q.n)).setCell ⟨g, c * 6 + 3, none⟩ (.int .i64 Q.i)) w2 := b2.mono (by simpa using b1.size)
  refine ⟨⟨?_, ?_, h3, h4⟩, ?_⟩
  · have e := ((((h1.below b1).set hc (show 0 < 6 by omega) (.string Q.r)).set hc (show 1 < 6 by omega) (.int .i64 Q.k)).set hc (show 2 < 6 by omega) (.int .i64 Q.n)).set hc (show 3 < 6 by omega) (.int .i64 Q.i)
    have e2 := (e.below b2).set hc (show 4 < 6 by omega) (.string Q.b)
    have e3 := own_turn2 e2 ht (fun x ex => by cases ex; exact hgb)
    refine OwnC.congr e3 fun i q hi hq => ?_
    by_cases ei : i = c
    · subst ei
      match q, hq with
      | 0, _ => simp [cel]
      | 1, _ => simp [cel]
      | 2, _ => simp [cel]
      | 3, _ => simp [cel]
      | 4, _ => simp [cel]
      | 5, _ => simp [cel, hm]
    · simp [ei]
  · intro i hi
    by_cases ei : i = c
    · subst ei
      simp only [if_true]
      rw [hm]
      exact OwnT.base hR.1 hbB
    · simp only [ei, if_false]
      have far : ∀ x, A i = some x → x.block ≠ g := fun x e => h4 i x _ hi e rfl
      have o1 : OwnT ((((w1.setCell ⟨g, c * 6 + 0, none⟩ (.string Q.r)).setCell ⟨g, c * 6 + 1, none⟩ (.int .i64 Q.k)).setCell ⟨g, c * 6 + 2, none⟩ (.int .i64 Q.n)).setCell ⟨g, c * 6 + 3, none⟩ (.int .i64 Q.i)) B (A i) (P i).m (C i) (P i).S := own_kept (own_kept (own_kept (own_kept (OwnT.below (h2 i hi) b1) (grown_set _ _ _ _) far) (grown_set _ _ _ _) far) (grown_set _ _ _ _) far) (grown_set _ _ _ _) far
      have o2 : OwnT (w2.setCell ⟨g, c * 6 + 4, none⟩ (.string Q.b)) B (A i) (P i).m (C i) (P i).S := own_kept (OwnT.below o1 b2) (grown_set _ _ _ _) far
      refine own_turn2 o2 ht (fun x ex => ?_)
      rcases hX with ⟨_, e, _⟩ | ⟨y, e, e1, e2⟩
      · omega
      · have hne : x.block ≠ y.block := by
          by_cases hl : i < c
          · exact h3 i c x y hl hc ex e
          · exact Ne.symm (h3 c i y x (by omega) hi e ex)
        omega
  · have k1 : Below B w ((((w1.setCell ⟨g, c * 6 + 0, none⟩ (.string Q.r)).setCell ⟨g, c * 6 + 1, none⟩ (.int .i64 Q.k)).setCell ⟨g, c * 6 + 2, none⟩ (.int .i64 Q.n)).setCell ⟨g, c * 6 + 3, none⟩ (.int .i64 Q.i)) := Below.setCell (Below.setCell (Below.setCell (Below.setCell (b1.mono hB) lg.1 _) lg.1 _) lg.1 _) lg.1 _
    have s1 : B ≤ ((((w1.setCell ⟨g, c * 6 + 0, none⟩ (.string Q.r)).setCell ⟨g, c * 6 + 1, none⟩ (.int .i64 Q.k)).setCell ⟨g, c * 6 + 2, none⟩ (.int .i64 Q.n)).setCell ⟨g, c * 6 + 3, none⟩ (.int .i64 Q.i)).heap.size := by have := b1.size; simp; omega
    have k2 : Below B w w2 := k1.trans (b2.mono s1)
    exact (k2.setCell lg.1 _).trans (ht.below hbB (by have := b2.size; simp at this ⊢; have := b1.size; omega))

end Go.Proofs.YthnjhjgffkilcaaGreatDoor
/- Lists of pieces asked for their marks, and compared. Conditions stand at each. -/
namespace Go.Proofs.YthnjhjgffkilcaaGreatDoor
set_option maxRecDepth 2000
open Go.ChangeShapes Go.WideShapes Go.ChangeAt Go.RowKit

theorem PiAt.own {w : World} {g n : Nat} {P : Nat → Pc} (h : PiAt w (some ⟨g, 0, none⟩) n P) {i : Nat} (hi : i < n) : ∃ ap cp, (∀ q, q < 6 → w.cell? ⟨g, i * 6 + q, none⟩ = some (cel (P i) (.slice ap (P i).m cp) q)) ∧ TxtAt w ap (P i).m (P i).S := by
  obtain ⟨b, off, ap, cp, e, hc, ht⟩ := h i hi
  cases e
  exact ⟨ap, cp, fun q hq => by have := hc q hq; rwa [Nat.zero_add] at this, ht⟩

set_option maxHeartbeats 4000000 in
theorem eqPs_same (a a' : Option Addr) (n ca ca' : Nat) (P : Nat → Pc) (w : World) (h : PiAt w a n P) (h' : PiAt w a' n P) (hn : n ≤ 1048576) (hm : ∀ i, i < n → (P i).m ≤ 1048576) :
    Calls Tryz.prog 39 #[.slice a n ca, .slice a' n ca'] w fun e w' => e = .returned (.bool true) ∧ Below w.heap.size w w' := by
  have KH : Hid (PiAt w a n P ∧ PiAt w a' n P) := ⟨h, h'⟩
  have HM : Hid (∀ i, i < n → (P i).m ≤ 1048576) := hm
  have hnn : ((n : Int) != (n : Int)) = false := by simp
  clear h h' hm
  go_enter Tryz.func39, Tryz.ntmps39
  go_wp2
  go_loopw [5] (fun vi wr => ∃ c : Nat, c ≤ n ∧ vi = .int .i64 (c : Int) ∧ Below w.heap.size w wr) (fun vi _ => n - (intOf vi).toNat)
  case atStart => exact ⟨0, Nat.zero_le _, rfl, Below.refl _ _⟩
  case round =>
    obtain ⟨c, hcn, rfl, hbel⟩ := hrel
    by_cases hlt : c < n
    · have hki : (c : Int) < (n : Int) := by omega
      have hmc := HM.out c hlt
      obtain ⟨b1, f1, ap, cp, rfl, hc1, ht1⟩ := (KH.out.1.below hbel) c hlt
      obtain ⟨b2, f2, aq, cq, rfl, hc2, ht2⟩ := (KH.out.2.below hbel) c hlt
      generalize P c = p at hc1 hc2 ht1 ht2 hmc
      obtain ⟨rr, kk, nn, ii, bb, m, S⟩ := p
      have x0 := hc1 0 (by omega)
      have y0 := hc2 0 (by omega)
      have x1 := hc1 1 (by omega)
      have y1 := hc2 1 (by omega)
      have x2 := hc1 2 (by omega)
      have y2 := hc2 2 (by omega)
      have x3 := hc1 3 (by omega)
      have y3 := hc2 3 (by omega)
      have x4 := hc1 4 (by omega)
      have y4 := hc2 4 (by omega)
      have x5 := hc1 5 (by omega)
      have y5 := hc2 5 (by omega)
      simp only [cel, Nat.add_zero, ← Nat.add_assoc] at x0 y0 x1 y1 x2 y2 x3 y3 x4 y4 x5 y5
      have l1 := block_lt_of_cell x0
      have l2 := block_lt_of_cell y0
      have KT : Hid (∀ W, Below wr.heap.size wr W → Calls Tryz.prog 40 #[pcV rr kk nn ii bb (.slice ap m cp), pcV rr kk nn ii bb (.slice aq m cq)] W fun e w' => e = .returned (.bool true) ∧ Below W.heap.size W w') := fun W hW => eqPc_same rr kk nn ii bb ap aq m cp cq S W (ht1.below hW) (ht2.below hW) hmc
      have KB : Hid (Below w.heap.size w wr) := hbel
      clear hc1 hc2 ht1 ht2 hmc hbel
      go_wp2_with fail
      go_region_held3 (fun w' => w'.cell? ⟨b1, f1 + c * 6, none⟩ = some (.string rr) ∧ w'.cell? ⟨b1, f1 + c * 6 + 1, none⟩ = some (.int .i64 kk) ∧ w'.cell? ⟨b1, f1 + c * 6 + 2, none⟩ = some (.int .i64 nn) ∧ w'.cell? ⟨b1, f1 + c * 6 + 3, none⟩ = some (.int .i64 ii) ∧ w'.cell? ⟨b1, f1 + c * 6 + 4, none⟩ = some (.string bb) ∧ w'.cell? ⟨b1, f1 + c * 6 + 5, none⟩ = some (.slice ap m cp) ∧ w'.cell? ⟨b2, f2 + c * 6, none⟩ = some (.string rr) ∧ w'.cell? ⟨b2, f2 + c * 6 + 1, none⟩ = some (.int .i64 kk) ∧ w'.cell? ⟨b2, f2 + c * 6 + 2, none⟩ = some (.int .i64 nn) ∧ w'.cell? ⟨b2, f2 + c * 6 + 3, none⟩ = some (.int .i64 ii) ∧ w'.cell? ⟨b2, f2 + c * 6 + 4, none⟩ = some (.string bb) ∧ w'.cell? ⟨b2, f2 + c * 6 + 5, none⟩ = some (.slice aq m cq)) (go_keep) ((go_at_call 40; refine Calls.mono (KT.out _ ⟨rfl, rfl, rfl, Nat.le_refl _, fun _ _ => rfl⟩) ?_; rintro e w7 ⟨rfl, b7'⟩; have b7 := below_of_drew b7'; clear b7'; have p0 := (b7.cell (p := ⟨b1, f1 + c * 6, none⟩) l1).trans x0; have z0 := (b7.cell (p := ⟨b2, f2 + c * 6, none⟩) l2).trans y0; have p1 := (b7.cell (p := ⟨b1, f1 + c * 6 + 1, none⟩) l1).trans x1; have z1 := (b7.cell (p := ⟨b2, f2 + c * 6 + 1, none⟩) l2).trans y1; have p2 := (b7.cell (p := ⟨b1, f1 + c * 6 + 2, none⟩) l1).trans x2; have z2 := (b7.cell (p := ⟨b2, f2 + c * 6 + 2, none⟩) l2).trans y2; have p3 := (b7.cell (p := ⟨b1, f1 + c * 6 + 3, none⟩) l1).trans x3; have z3 := (b7.cell (p := ⟨b2, f2 + c * 6 + 3, none⟩) l2).trans y3; have p4 := (b7.cell (p := ⟨b1, f1 + c * 6 + 4, none⟩) l1).trans x4; have z4 := (b7.cell (p := ⟨b2, f2 + c * 6 + 4, none⟩) l2).trans y4; have p5 := (b7.cell (p := ⟨b1, f1 + c * 6 + 5, none⟩) l1).trans x5; have z5 := (b7.cell (p := ⟨b2, f2 + c * 6 + 5, none⟩) l2).trans y5))
      all_goals
        have HB7 : Hid (Below w.heap.size w w7) := below2 KB.out b7
        clear p0 z0 x0 y0 p1 z1 x1 y1 p2 z2 x2 y2 p3 z3 x3 y3 p4 z4 x4 y4 p5 z5 x5 y5 b7
        go_wp2
        go_roundw
        case rel => exact ⟨c + 1, by omega, by go_num, HB7.out⟩
        case measure => simp [intOf]; omega
    · go_wp2
      go_ret
      exact ⟨rfl, hbel⟩
end Go.Proofs.YthnjhjgffkilcaaGreatDoor
/- Marks laid into lists of pieces, of any length that the laws bear: what turns is told. Conditions: at most 2^20 pieces, marks up to 2 * 10^7. Written by mkmarkp.py. -/
namespace Go.Proofs.YthnjhjgffkilcaaGreatDoor
set_option maxRecDepth 2000
open Go.ChangeShapes Go.WideShapes Go.ChangeAt Go.RowKit

def pcsD (n : Nat) (P : Nat → Pc) : Dt := .lst 33 6 n fun i => pcD (P i)
theorem ow_pcs {w : World} {B g n cap : Nat} {A : Nat → Option Addr} {C : Nat → Nat} {P : Nat → Pc} {F : Nat → Prop} (h : OwnP w B (some ⟨g, 0, none⟩) n cap A C P) (hF : ∀ x, B ≤ x → x < w.heap.size → F x) : Ow w B (pcsD n P) (.slice (some ⟨g, 0, none⟩) n cap) F := by
  obtain ⟨h1, h2, h3, h4⟩ := h
  refine ⟨_, cap, fun i => cel (P i) (.slice (A i) (P i).m (C i)), fun i q x => q = 5 ∧ ∃ y, A i = some y ∧ y.block = x, rfl, h1, ⟨fun x e => ?_, ?_, ?_, ?_⟩, fun i q hi hq => ?_⟩
  · cases e
    have := World.ownsRow.lt h1 g rfl
    exact hF g this.1 this.2
  · rintro i q x hi _ ⟨_, y, e, rfl⟩
    have ho := h2 i hi
    rw [e] at ho
    have := World.ownsRow.lt ho y.block rfl
    exact hF _ this.1 this.2
  · rintro i q x hi _ ex ⟨_, y, e, ey⟩
    exact h4 i y x hi e ex ey
  · rintro i q i' q' x hi _ hi' _ ⟨h5, y, e, rfl⟩ ⟨h6, y', e', ey⟩
    refine ⟨?_, by omega⟩
    rcases Nat.lt_trichotomy i i' with h | h | h
    · exact absurd ey.symm (h3 i i' y y' h hi' e e')
    · exact h
    · exact absurd ey (h3 i' i y' y h hi e' e)
  · match q, hq with
    | 0, _ | 1, _ | 2, _ | 3, _ | 4, _ => rfl
    | 5, _ => exact ow_txt (h2 i hi) (fun x e => ⟨rfl, x, e, rfl⟩)
set_option maxHeartbeats 4000000 in
theorem markPcs_any (B g n cap : Nat) (F : Nat → Prop) (P : Nat → Pc) (k : Nat) (w : World) (h : Ow w B (pcsD n P) (.slice (some ⟨g, 0, none⟩) n cap) F) (hn : n ≤ 1048576) (hm : ∀ i, i < n → (P i).m ≤ 1048576) (hk : ofs k P n ≤ 20000000) :
    Calls Tryz.prog 41 #[.slice (some ⟨g, 0, none⟩) n cap, .int .i64 (k : Int)] w fun e w' => e = .returned (.int .i64 ((ofs k P n : Nat) : Int)) ∧ Ow w' B (pcsD n (mkd k P)) (.slice (some ⟨g, 0, none⟩) n cap) F ∧ Trn w w' F := by
  obtain ⟨G, hsep, hmk⟩ := Ow.mk h
  have KS : Hid (Sep (some ⟨g, 0, none⟩) n 6 G F) := hsep
  have HG : Hid (F g) := hsep.head _ rfl
  have K0 : Hid (MkS w B 33 6 g n cap G (fun i => if i < 0 then pcD (mkd k P i) else pcD (P i))) := hmk.congr (fun i q _ _ => by simp)
  have HM : Hid (∀ i, i < n → (P i).m ≤ 1048576) := hm
  clear h hm hsep hmk
  go_enter Tryz.func41, Tryz.ntmps41
  go_wp2
  go_loopw [1, 5] (fun vk vi wr => ∃ c : Nat, c ≤ n ∧ vk = .int .i64 ((ofs k P c : Nat) : Int) ∧ vi = .int .i64 (c : Int) ∧ MkS wr B 33 6 g n cap G (fun i => if i < c then pcD (mkd k P i) else pcD (P i)) ∧ Trn w wr F) (fun _ vi _ => n - (intOf vi).toNat)
  case atStart => exact ⟨0, Nat.zero_le _, rfl, rfl, K0.out, Trn.refl _ _⟩
  case round =>
    obtain ⟨c, hcn, rfl, rfl, hop, htr⟩ := hrel
    clear K0
    have KO : Hid (MkS wr B 33 6 g n cap G (fun i => if i < c then pcD (mkd k P i) else pcD (P i)) ∧ Trn w wr F) := ⟨hop, htr⟩
    clear hop htr
    by_cases hlt : c < n
    · have hki : (c : Int) < (n : Int) := by omega
      obtain ⟨o0, HO0⟩ : ∃ x, Hid (ofs k P c = x) := ⟨_, rfl⟩
      have ho : o0 + 5 + (P c).m ≤ 20000000 := by rw [← HO0.out]; exact Nat.le_trans (ofs_le k P (show c + 1 ≤ n by omega)) hk
      have HNX : Hid (ofs k P (c + 1) = o0 + 5 + (P c).m) := by show ofs k P c + 5 + (P c).m = _; rw [HO0.out]
      have hmc := HM.out c hlt
      rw [HO0.out]
      obtain ⟨o1, HO1⟩ : ∃ x, Hid (x = o0 + 1) := ⟨_, rfl⟩
      obtain ⟨o2, HO2⟩ : ∃ x, Hid (x = o0 + 2) := ⟨_, rfl⟩
      obtain ⟨o3, HO3⟩ : ∃ x, Hid (x = o0 + 3) := ⟨_, rfl⟩
      obtain ⟨o4, HO4⟩ : ∃ x, Hid (x = o0 + 4) := ⟨_, rfl⟩
      obtain ⟨o5, HO5⟩ : ∃ x, Hid (x = o0 + 5) := ⟨_, rfl⟩
      have e1 : (o0 : Int) + 1 = (o1 : Int) := by have := HO1.out; omega
      have e2 : (o1 : Int) + 1 = (o2 : Int) := by have := HO2.out; have := HO1.out; omega
      have e3 : (o2 : Int) + 1 = (o3 : Int) := by have := HO3.out; have := HO2.out; omega
      have e4 : (o3 : Int) + 1 = (o4 : Int) := by have := HO4.out; have := HO3.out; omega
      have e5 : (o4 : Int) + 1 = (o5 : Int) := by have := HO5.out; have := HO4.out; omega
      obtain ⟨m, HMm⟩ : ∃ x, Hid ((P c).m = x) := ⟨_, rfl⟩
      rw [HMm.out] at ho hmc HNX
      obtain ⟨q6, HQ6⟩ : ∃ x, Hid (o5 + m = x) := ⟨_, rfl⟩
      have u0 : o0 ≤ 20000000 := by omega
      have u1 : o1 ≤ 20000000 := by have := HO1.out; omega
      have u2 : o2 ≤ 20000000 := by have := HO2.out; omega
      have u3 : o3 ≤ 20000000 := by have := HO3.out; omega
      have u4 : o4 ≤ 20000000 := by have := HO4.out; omega
      have u5 : o5 ≤ 20000000 := by have := HO5.out; omega
      obtain ⟨s0, HS0⟩ : ∃ x, Hid (mtxt o0 = x) := ⟨_, rfl⟩
      have KM0 : Hid (∀ W, Calls Tryz.prog 99 #[.int .i64 (o0 : Int)] W fun e w' => e = .returned (.string s0) ∧ Below W.heap.size W w') := fun W => by rw [← HS0.out]; exact markText_any o0 W (by omega)
      obtain ⟨s4, HS4⟩ : ∃ x, Hid (mtxt o4 = x) := ⟨_, rfl⟩
      have KM4 : Hid (∀ W, Calls Tryz.prog 99 #[.int .i64 (o4 : Int)] W fun e w' => e = .returned (.string s4) ∧ Below W.heap.size W w') := fun W => by rw [← HS4.out]; exact markText_any o4 W (by omega)
      clear hk ho
      go_wp2_with fail
      refine Calls.mono (KM0.out _) ?_
      rintro e w0' ⟨rfl, b0⟩
      have KNk0 : Hid (MkS w0' B 33 6 g n cap G _) := MkS.below KO.out.1 b0
      have KNt0 : Hid (Trn w w0' F) := KO.out.2.trans (Trn.ofBelow F b0)
      clear b0
      obtain ⟨x0v, x0, f0, _⟩ := MkS.cell KNk0.out hlt (show 0 < 6 by omega)
      obtain ⟨x1v, x1, f1, _⟩ := MkS.cell KNk0.out hlt (show 1 < 6 by omega)
      obtain ⟨x2v, x2, f2, _⟩ := MkS.cell KNk0.out hlt (show 2 < 6 by omega)
      obtain ⟨x3v, x3, f3, _⟩ := MkS.cell KNk0.out hlt (show 3 < 6 by omega)
      simp only [Nat.add_zero] at x0 f0 x1 f1 x2 f2 x3 f3
      obtain ⟨W1, HW1⟩ : ∃ x, Hid (x = ((((w0'.setCell ⟨g, c * 6, none⟩ (.string s0)).setCell ⟨g, c * 6 + 1, none⟩ (.int .i64 (o1 : Int))).setCell ⟨g, c * 6 + 2, none⟩ (.int .i64 (o2 : Int))).setCell ⟨g, c * 6 + 3, none⟩ (.int .i64 (o3 : Int)))) := ⟨_, rfl⟩
      have M1 := KNk0.out
      have M1 := MkS.set M1 KS.out hlt (show 0 < 6 by omega) (.string s0)
      rw [Nat.add_zero] at M1
      have M1 := MkS.set M1 KS.out hlt (show 1 < 6 by omega) (.int .i64 (o1 : Int))
      have M1 := MkS.set M1 KS.out hlt (show 2 < 6 by omega) (.int .i64 (o2 : Int))
      have M1 := MkS.set M1 KS.out hlt (show 3 < 6 by omega) (.int .i64 (o3 : Int))
      rw [← HW1.out] at M1
      have KMk1 : Hid (MkS W1 B 33 6 g n cap G _) := M1
      clear M1
      have KTr1 : Hid (Trn w W1 F) := by show Trn _ _ _; rw [HW1.out]; exact ((((KNt0.out.trans (Trn.set _ (c * 6) _ HG.out)).trans (Trn.set _ (c * 6 + 1) _ HG.out)).trans (Trn.set _ (c * 6 + 2) _ HG.out)).trans (Trn.set _ (c * 6 + 3) _ HG.out))
      go_wp2_with fail
      rw [← HW1.out]
      clear x0 f0 x1 f1 x2 f2 x3 f3
      refine Calls.mono (KM4.out _) ?_
      rintro e w1 ⟨rfl, b1⟩
      have KNk1 : Hid (MkS w1 B 33 6 g n cap G _) := MkS.below KMk1.out b1
      have KNt1 : Hid (Trn w w1 F) := KTr1.out.trans (Trn.ofBelow F b1)
      clear b1 KMk1 KTr1
      obtain ⟨x4v, x4, f4, _⟩ := MkS.cell KNk1.out hlt (show 4 < 6 by omega)
      obtain ⟨v9, x9, _, ho9⟩ := MkS.cell KNk1.out hlt (show 5 < 6 by omega)
      obtain ⟨W2, HW2⟩ : ∃ x, Hid (x = (w1.setCell ⟨g, c * 6 + 4, none⟩ (.string s4))) := ⟨_, rfl⟩
      have M2 := KNk1.out
      have M2 := MkS.set M2 KS.out hlt (show 4 < 6 by omega) (.string s4)
      rw [← HW2.out] at M2
      have KMk2 : Hid (MkS W2 B 33 6 g n cap G _) := M2
      clear M2
      have KTr2 : Hid (Trn w W2 F) := by show Trn _ _ _; rw [HW2.out]; exact (KNt1.out.trans (Trn.set _ (c * 6 + 4) _ HG.out))
      obtain ⟨v9', x9', _, ho9'⟩ := MkS.cell KMk2.out hlt (show 5 < 6 by omega)
      have ev : v9' = v9 := by
        have h1 := x9'
        rw [HW2.out, World.cell?_setCell_other _ _ _ _ (by simp)] at h1
        exact Option.some.inj (h1.symm.trans x9)
      subst ev
      have HD9 : Hid (Ow W2 B (txD m (P c).S) v9' (G c 5)) := by
        have := ho9'
        show Ow _ _ _ _ _
        rw [← HMm.out]
        simpa [pcD] using this
      have KMS : Hid _ := markD_txt B v9' m (P c).S o5 q6 (G c 5) W2 HD9.out (by omega) (by omega) HQ6.out
      have X9 : Hid (W2.cell? ⟨g, c * 6 + 5, none⟩ = some v9') := x9'
      clear ho9 ho9' x9'
      obtain ⟨a9, c9, e9⟩ : ∃ a9 c9, v9' = .slice a9 m c9 := by
        obtain ⟨a, cp, e, _⟩ := txt_ow HD9.out
        exact ⟨a, cp, e⟩
      subst e9
      go_wp2_with fail
      rw [← HW2.out]
      refine Calls.mono KMS.out ?_
      rintro e w9 ⟨rfl, hR9, hT9⟩
      have M9 := MkS.turn KMk2.out KS.out hlt (show 5 < 6 by omega) X9.out hR9 hT9
      have KT9 : Hid (Trn w w9 F) := KTr2.out.trans (hT9.mono (fun x hx => KS.out.sub c 5 x hlt (by omega) hx))
      have HN : Hid (MkS w9 B 33 6 g n cap G (fun i => if i < c + 1 then pcD (mkd k P i) else pcD (P i))) := by
        refine MkS.congr M9 fun i q hi hq => ?_
        by_cases ei : i = c
        · subst ei
          have hd : mkd k P i = ⟨s0, (o1 : Int), (o2 : Int), (o3 : Int), s4, m, fun j => mtxt (o5 + j)⟩ := by
            unfold mkd
            rw [HO0.out, ← HO1.out, ← HO2.out, ← HO3.out, ← HO4.out, ← HO5.out, HS0.out, HS4.out, HMm.out]
          rw [if_pos (show i < i + 1 by omega), hd]
          match q, hq with
          | 0, _ | 1, _ | 2, _ | 3, _ | 4, _ | 5, _ => simp [pcD]
        · by_cases e2 : i < c
          · simp [ei, e2, show i < c + 1 by omega]
          · simp [ei, e2, show ¬ i < c + 1 by omega]
      have HQQ : Hid ((q6 : Int) = ((ofs k P (c + 1) : Nat) : Int)) := by show _ = _; rw [HNX.out, ← HQ6.out, HO5.out]
      clear M9 hR9 hT9 KMS x4 f4 x9
      go_wp2
      go_roundw
      case rel => exact ⟨c + 1, by omega, by rw [HQQ.out], by go_num, HN.out, KT9.out⟩
      case measure => simp [intOf]; omega
    · obtain rfl : c = n := by omega
      have HN : Hid (MkS wr B 33 6 g c cap G (fun i => pcD (mkd k P i))) := KO.out.1.congr (fun i q hi _ => by simp [hi])
      go_wp2
      go_ret
      exact ⟨rfl, HN.out.ow KS.out, KO.out.2⟩
end Go.Proofs.YthnjhjgffkilcaaGreatDoor
