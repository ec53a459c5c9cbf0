import Derived.Test.YtgooamiggebibaaGreatDoorG16
import Derived.Test.YtgooamiggebibaaGreatDoorG15
import Derived.Test.YtgooamiggebibaaGreatDoorG12
import Derived.Test.YtgooamiggebibaaGreatDoorG13
import Derived.Test.YtgooamiggebibaaGreatDoorG5
import Derived.Test.YtgooamiggebibaaGreatDoorG8
import Derived.Test.YtgooamiggebibaaGreatDoorG10
import Derived.Deep.CutRange
import Derived.Test.YtgooamiggebibaaGreatDoorG7
import Derived.Test.YtgooamiggebibaaGreatDoorShelf
import Derived.Test.YtgooamiggebibaaGreatDoorG14
import Derived.Test.YtgooamiggebibaaGreatDoorRows
import Derived.Test.YtgooamiggebibaaGreatDoorTie
import Derived.Test.YtgooamiggebibaaGreatDoorCards
import Derived.Deep.Slices
import Derived.ChangeSame
import Derived.ChangeVars
import Derived.JoinedOf
import Derived.RowKitTokens
import Derived.LaidLaws
import Derived.LaidHandle
import Derived.LaidMore
import Derived.Stop.Joined
import Derived.SevenTiedAt
import Derived.BigQuiet
set_option maxHeartbeats 8000000
set_option maxRecDepth 2000
open Go.ChangeShapes Go.WideShapes Go.ChangeAt Go.RowKit
namespace Go.Proofs.YtgooamiggebibaaGreatDoor
theorem Tryz.infoPc3 : (Tryz.prog.info? 66).map (fun i => (i.zero, i.size, i.bytes)) = some (some (.agg #[.string ByteArray.empty, .int .i64 0, .int .i64 0, .int .i64 0, .string ByteArray.empty, .slice none 0 0]), 6, 80) := by kernel_rfl
theorem OwnP.snoc {w w2 w3 : World} {B g g3 c cap cap3 : Nat} {A : Nat → Option Addr} {C : Nat → Nat} {P : Nat → Pc} {aP : Option Addr} {cP : Nat} {X : Obj}
  (h : OwnP w B (some ⟨g, 0, none⟩) c cap A C P) (hB : B ≤ w.heap.size) (hb : Below w.heap.size w w2) (ho : OwnT w2 w.heap.size aP (P c).m cP (P c).S)
  (h3 : w3.ownsRow B 66 6 (.slice (some ⟨g3, 0, none⟩) (c + 1) cap3) (c + 1) (gL (fun i => cel (P i) (.slice (A i) (P i).m (C i))) c ++ [.string (P c).r, .int .i64 (P c).k, .int .i64 (P c).n, .int .i64 (P c).i, .string (P c).b, .slice aP (P c).m cP]))
  (hg : (w2.alloc X).grownBy w3 (some g)) (hat : g = g3 ∨ g3 = w2.heap.size + 1) : ∃ A' C', OwnP w3 B (some ⟨g3, 0, none⟩) (c + 1) cap3 A' C' P := by
 obtain ⟨h1, h2, h4, h5⟩ := h
 have lg := (World.ownsRow.lt h1 g rfl).2
 have lA : ∀ i x, i < c → A i = some x → x.block < w.heap.size := fun i x hi e => by
  have := h2 i hi
  rw [e] at this
  exact (World.ownsRow.lt this x.block rfl).2
 have lP : ∀ x, aP = some x → w.heap.size ≤ x.block ∧ x.block < w2.heap.size := fun x e => by
  subst e
  exact World.ownsRow.lt ho x.block rfl
 have hs := hb.size
 refine ⟨fun i => if i = c then aP else A i, fun i => if i = c then cP else C i, ?_, ?_, ?_, ?_⟩
 ·show World.ownsRow _ _ _ _ _ _ _
  have e : gL (fun i => cel (P i) (.slice (if i = c then aP else A i) (P i).m (if i = c then cP else C i))) (c + 1) = gL (fun i => cel (P i) (.slice (A i) (P i).m (C i))) c ++ [.string (P c).r, .int .i64 (P c).k, .int .i64 (P c).n, .int .i64 (P c).i, .string (P c).b, .slice aP (P c).m cP] := by
   rw [gL_snoc, gL_congr (c' := fun i => cel (P i) (.slice (A i) (P i).m (C i))) (fun i q hi _ => by simp [show i ≠ c by omega])]
   simp [cel]
  rw [e]
  exact h3
 ·intro i hi
  by_cases ei : i = c
  ·subst ei
   simp only [if_true]
   exact own_kept (World.ownsRow.alloc (OwnT.base ho hB) X) hg (fun x e => by have := lP x e; omega)
  ·simp only [ei, if_false]
   exact own_kept (World.ownsRow.alloc (OwnT.below (h2 i (by omega)) hb) X) hg (fun x e => h5 i x _ (by omega) e rfl)
 ·intro i j x y hij hj hx hy
  replace hx : (if i = c then aP else A i) = some x := hx
  replace hy : (if j = c then aP else A j) = some y := hy
  by_cases ej : j = c
  ·subst ej
   simp only [if_true] at hy
   rw [if_neg (by omega)] at hx
   have l1 := lP y hy
   have l2 := lA i x (by omega) hx
   omega
  ·rw [if_neg ej] at hy
   rw [if_neg (by omega)] at hx
   exact h4 i j x y hij (by omega) hx hy
 ·intro i x y hi hx hy
  replace hx : (if i = c then aP else A i) = some x := hx
  cases hy
  by_cases ei : i = c
  ·subst ei
   simp only [if_true] at hx
   have := lP x hx
   rcases hat with e | e
   ·show x.block ≠ g3; omega
   ·show x.block ≠ g3; omega
  ·rw [if_neg ei] at hx
   have l2 := lA i x (by omega) hx
   rcases hat with e | e
   ·subst e; exact h5 i x _ (by omega) hx rfl
   ·show x.block ≠ g3; omega
theorem OwnP.base {w : World} {B B' : Nat} {a : Option Addr} {n cap : Nat} {A : Nat → Option Addr} {C : Nat → Nat} {P : Nat → Pc} (h : OwnP w B a n cap A C P) (hB : B' ≤ B) : OwnP w B' a n cap A C P :=
 ⟨own_base h.1 hB, fun i hi => OwnT.base (h.2.1 i hi) hB, h.2.2⟩
theorem sAll_any (k : Int) (a : Option Addr) (n cap : Nat) (S : Nat → ByteArray) (w : World) (h : TxtAt w a n S) (hn : n ≤ 64) (hS : ∀ i, i < n → (S i).size ≤ 1048576) :
  Calls Tryz.prog 69 #[.slice a n cap, .int .i64 k, .int .i64 (n : Int)] w fun e w' => ∃ v, e = .returned v ∧ ResP w w' v n (cutP k n S) ∧ Below w.heap.size w w' := by
 obtain ⟨i0, hi, hz0, hz1, hz2⟩ := info_parts Tryz.infoStr
 obtain ⟨j0, hj, hy0, hy1, hy2⟩ := info_parts Tryz.infoPc3
 have HPC : Hid (∀ i, cutP k n S i = ⟨rtS n (lvs k n S), k, (n : Int), (i : Int), S i, pfR n (lvs k n S) (i : Int), pfF n (lvs k n S) (i : Int)⟩) := fun i => rfl
 obtain ⟨P, HP⟩ : ∃ P, Hid (cutP k n S = P) := ⟨_, rfl⟩
 rw [HP.out] at HPC
 rw [HP.out]
 obtain ⟨L, HL⟩ : ∃ L, Hid (lvs k n S = L) := ⟨_, rfl⟩
 have HL16 : Hid (∀ i, (L i).size ≤ 16) := fun i => by rw [← HL.out]; exact lvs_le _ _ _ _
 obtain ⟨rt, HRT⟩ : ∃ rt, Hid (rtS n L = rt) := ⟨_, rfl⟩
 rw [HL.out, HRT.out] at HPC
 have KH : Hid (TxtAt w a n S) := h
 have KS : Hid (∀ i, i < n → (S i).size ≤ 1048576) := hS
 have K0 : Hid (OwnT (w.alloc (.cells #[] 9)) w.heap.size (some ⟨w.heap.size, 0, none⟩) 0 0 L ∧ Below w.heap.size w (w.alloc (.cells #[] 9))) := ⟨litT w _, (Below.refl _ _).alloc (Nat.le_refl _) _⟩
 clear h hS
 go_enter Tryz.func69, Tryz.ntmps69
 go_wp2
 go_loopw [7, 8] (fun v vi wr => ∃ c g cc : Nat, c ≤ n ∧ vi = .int .i64 (c : Int) ∧ v = .slice (some ⟨g, 0, none⟩) c cc ∧ OwnT wr w.heap.size (some ⟨g, 0, none⟩) c cc L ∧ Below w.heap.size w wr) (fun _ vi _ => n - (intOf vi).toNat)
 case atStart => exact ⟨0, w.heap.size, 0, Nat.zero_le _, rfl, rfl, K0.out.1, K0.out.2⟩
 case round =>
  obtain ⟨c, g, cc, hk, rfl, rfl, ho, hbel⟩ := hrel
  clear K0
  have KO : Hid (OwnT wr w.heap.size (some ⟨g, 0, none⟩) c cc L ∧ Below w.heap.size w wr) := ⟨ho, hbel⟩
  clear ho hbel
  by_cases hlt : c < n
  ·have hki : (c : Int) < (n : Int) := by omega
   obtain ⟨b1, off1, rfl, hc1⟩ := (KH.out.below KO.out.2) c hlt
   have KC : Hid (∀ W, Calls Tryz.prog 96 #[.int .i64 k, .int .i64 (n : Int), .int .i64 (c : Int), .string (S c)] W fun e w' => e = .returned (.string (L c)) ∧ Below W.heap.size W w') := fun W => by
    have := sPieceLeaf_any k (n : Int) (c : Int) (S c) W (KS.out c hlt)
    rw [← HL.out]
    exact this
   have lg := World.ownsRow.lt KO.out.1 _ rfl
   generalize S c = sc at hc1 KC
   obtain ⟨z, HZ⟩ : ∃ z, Hid (L c = z) := ⟨_, rfl⟩
   rw [HZ.out] at KC
   go_wp2_with fail
   refine Calls.mono (KC.out _) ?_
   rintro e w6 ⟨rfl, hb6⟩
   have K6 : Hid (OwnT w6 w.heap.size (some ⟨g, 0, none⟩) c cc L ∧ Below w.heap.size w w6) := ⟨OwnT.below KO.out.1 hb6, below2 KO.out.2 hb6⟩
   have hsz6 := K6.out.2.size
   clear hb6 KC hc1 KO
   go_wp2_with (at_builtin; refine wpList_append_all _ (by rfl) _ _ 27 (by rfl) w.heap.size 9 i0 (.string ByteArray.empty) 1 16 Tryz.underlying27 hi hz0 hz1 hz2 rfl (by decide) g c cc _ (by rfl) (World.ownsRow.alloc K6.out.1 _) ⟨w6.heap.size, 0, none⟩ 1 1 [.string z] (by rfl) (by rfl) (World.news_of_block (cs := #[.string z]) (t := 9) (fr := (0, 0)) (heap_alloc_new w6 _)) (by simp [Value.oneCell']) (by unfold maxLen; omega) (by omega) (by simp; omega) ?_; intro g3 cap3 w7 hown3 hgrow3)
   have HL7 : Hid (OwnT w7 w.heap.size (some ⟨g3, 0, none⟩) (c + 1) cap3 L ∧ Below w.heap.size w w7) := by
    refine ⟨?_, (K6.out.2.alloc hsz6 _).grown (show World.grownBy _ w7 (some g) from hgrow3) (by simp; omega) (fun j hj => by cases hj; exact lg.1)⟩
    unfold OwnT
    rw [sL_snoc, HZ.out]
    exact hown3
   clear hown3 hgrow3 K6
   go_roundw
   case rel => exact ⟨c + 1, g3, cap3, by omega, by go_num, rfl, HL7.out.1, HL7.out.2⟩
   case measure => simp [intOf]; omega
  ·obtain rfl : c = n := by omega
   have KR : Hid (Calls Tryz.prog 99 #[.slice (some ⟨g, 0, none⟩) c cc] wr fun e w' => e = .returned (.tuple #[.string rt, .bool (lvB c L)]) ∧ Below wr.heap.size wr w') := by
    have := sRoot_any (some ⟨g, 0, none⟩) c cc L wr (OwnT.at KO.out.1) (by omega) (fun i _ => by have := HL16.out i; unfold maxLen; omega)
    rw [HRT.out] at this
    exact this
   generalize lvB c L = okr at KR
   go_wp2_with fail
   refine Calls.mono KR.out ?_
   rintro e w3 ⟨rfl, hb3⟩
   obtain ⟨w4, HW4⟩ : ∃ w4, Hid (w4 = w3.alloc (.cells #[] 66)) := ⟨_, rfl⟩
   have hb34 : Below w3.heap.size w3 w4 := by rw [HW4.out]; exact (Below.refl _ _).alloc (Nat.le_refl _) _
   have KL3 : Hid (TxtAt w3 (some ⟨g, 0, none⟩) c L) := (OwnT.at KO.out.1).below hb3
   have KA3 : Hid (TxtAt w3 a c S) := (KH.out.below KO.out.2).below hb3
   have KB3 : Hid (Below w.heap.size w w3) := below2 KO.out.2 hb3
   have KB34 : Hid (Below w3.heap.size w3 w4) := hb34
   have KP4 : Hid (OwnP w4 w3.heap.size (some ⟨w3.heap.size, 0, none⟩) 0 0 (fun _ => none) (fun _ => 0) P) := by
    rw [HW4.out]
    exact ⟨World.ownsRow_lit w3 #[] 0 (Nat.le_refl _) (by unfold maxLen; omega) rfl, fun i hi => absurd hi (Nat.not_lt_zero _), fun i j x y _ hj => absurd hj (Nat.not_lt_zero _), fun i x y hi => absurd hi (Nat.not_lt_zero _)⟩
   clear hb3 hb34 KO KR hi hz0 hz1 hz2
   go_wp2_with fail
   rw [← HW4.out]
   go_loopw [11, 12] (fun v vi wr => ∃ q g2 cc2 : Nat, q ≤ c ∧ vi = .int .i64 (q : Int) ∧ v = .slice (some ⟨g2, 0, none⟩) q cc2 ∧ (∃ A C, OwnP wr w3.heap.size (some ⟨g2, 0, none⟩) q cc2 A C P) ∧ Below w3.heap.size w3 wr) (fun _ vi _ => c - (intOf vi).toNat)
   case atStart => exact ⟨0, _, 0, Nat.zero_le _, rfl, rfl, ⟨_, _, KP4.out⟩, KB34.out⟩
   case round =>
    obtain ⟨q, g2, cc2, hq, rfl, rfl, ⟨A, C, hop⟩, hb3r⟩ := hrel
    clear KP4
    have KOP : Hid (OwnP wr w3.heap.size (some ⟨g2, 0, none⟩) q cc2 A C P ∧ Below w3.heap.size w3 wr) := ⟨hop, hb3r⟩
    have lg2 := World.ownsRow.lt hop.1 g2 rfl
    clear hop hb3r
    by_cases hlt2 : q < c
    ·have hqi : (q : Int) < (c : Int) := by omega
     have KPF : Hid (Calls Tryz.prog 100 #[.slice (some ⟨g, 0, none⟩) c cc, .int .i64 (q : Int)] wr fun e w' => ∃ v, e = .returned (.tuple #[v, .bool (pfB c L (q : Int))]) ∧ ResT wr w' v (P q).m (P q).S ∧ Below wr.heap.size wr w') := by
      rw [HPC.out]
      exact sProof_any (some ⟨g, 0, none⟩) c cc L (q : Int) wr (KL3.out.below KOP.out.2) (by omega) (fun i _ => by have := HL16.out i; unfold maxLen; omega)
     generalize pfB c L (q : Int) = okp at KPF
     obtain ⟨mq, HMQ⟩ : ∃ mc, Hid ((P q).m = mc) := ⟨_, rfl⟩
     rw [HMQ.out] at KPF
     obtain ⟨sc, HSC⟩ : ∃ sc, Hid (S q = sc) := ⟨_, rfl⟩
     have HS : Hid ((P q).r = rt ∧ (P q).k = k ∧ (P q).n = (c : Int) ∧ (P q).i = (q : Int) ∧ (P q).b = sc) := by rw [HPC.out, HSC.out]; exact ⟨rfl, rfl, rfl, rfl, rfl⟩
     go_wp2_with fail
     refine Calls.mono KPF.out ?_
     rintro e w5 ⟨v5, rfl, ⟨aP, cP, rfl, O5⟩, hb5⟩
     obtain ⟨b1, off1, rfl, hc1⟩ := ((KA3.out.below KOP.out.2).below hb5) q hlt2
     rw [HSC.out] at hc1
     have hs5 := hb5.size
     have hw5 := KOP.out.2.size
     have O5' : Hid (OwnT w5 wr.heap.size aP mq cP (P q).S) := O5
     have HB5 : Hid (Below wr.heap.size wr w5) := hb5
     have KX : Hid (OwnC w5 w3.heap.size (some ⟨g2, 0, none⟩) q cc2 (fun i => cel (P i) (.slice (A i) (P i).m (C i)))) := KOP.out.1.1.below hb5
     clear O5 hb5 KPF
     go_wp2_with (at_builtin; refine wpList_append_lies _ (by rfl) _ _ 46 (by rfl) w3.heap.size 66 j0 (.agg #[.string ByteArray.empty, .int .i64 0, .int .i64 0, .int .i64 0, .string ByteArray.empty, .slice none 0 0]) 6 80 Tryz.underlying46 hj hy0 hy1 hy2 rfl (by decide) (.slice (some ⟨g2, 0, none⟩) q cc2) q _ (by rfl) (World.ownsRow.alloc KX.out _) ⟨w5.heap.size, 0, none⟩ 1 1 [.string rt, .int .i64 k, .int .i64 (c : Int), .int .i64 (q : Int), .string sc, .slice aP mq cP] (by rfl) (by rfl) (World.news_of_block (cs := #[.string rt, .int .i64 k, .int .i64 (c : Int), .int .i64 (q : Int), .string sc, .slice aP mq cP]) (t := 66) (fr := (0, 0)) (heap_alloc_new w5 _)) (by simp [Value.oneCell']) (by omega) (by unfold maxLen; omega) (by omega) (by simp; omega) (w5.heap.size + 1) (by simp) ?_; intro g3 cap3 w7 hown3 hgrow3 hat3 hlt3)
     have hgr : World.grownBy (w5.alloc (.cells #[.string rt, .int .i64 k, .int .i64 (c : Int), .int .i64 (q : Int), .string sc, .slice aP mq cP] 66)) w7 (some g2) := hgrow3
     have HN : Hid ((∃ A C, OwnP w7 w3.heap.size (some ⟨g3, 0, none⟩) (q + 1) cap3 A C P) ∧ Below w3.heap.size w3 w7) := by
      refine ⟨OwnP.snoc (aP := aP) (cP := cP) KOP.out.1 hw5 HB5.out (by rw [HMQ.out]; exact O5'.out) ?_ hgr ?_, ?_⟩
      ·rw [HMQ.out, HS.out.1, HS.out.2.1, HS.out.2.2.1, HS.out.2.2.2.1, HS.out.2.2.2.2]
       exact hown3
      ·rcases hat3 with e | e
       ·exact .inl (by simpa [Value.ownBlock] using e)
       ·exact .inr e
      ·exact ((below2 KOP.out.2 HB5.out).alloc (by omega) _).grown hgr (by simp; omega) (fun j hj => by cases hj; exact lg2.1)
     clear hown3 hgrow3 hgr hat3 hlt3 KOP KX HB5 O5' hc1
     go_roundw
     case rel => exact ⟨q + 1, g3, cap3, by omega, by go_num, rfl, HN.out.1, HN.out.2⟩
     case measure => simp [intOf]; omega
    ·obtain rfl : q = c := by omega
     go_wp2
     go_ret
     exact ⟨_, rfl, ⟨_, _, A, C, rfl, KOP.out.1.base KB3.out.size⟩, below2 KB3.out KOP.out.2⟩
def ofs (k : Nat) (P : Nat → Pc) : Nat → Nat
 | 0 => k
 | i + 1 => ofs k P i + 5 + (P i).m
def PiA (w : World) (a : Option Addr) (n : Nat) (A : Nat → Option Addr) (C : Nat → Nat) (P : Nat → Pc) : Prop := ∀ i, i < n → (∃ b off, a = some ⟨b, off, none⟩ ∧ ∀ q, q < 6 → w.cell? ⟨b, off + (i * 6 + q), none⟩ = some (cel (P i) (.slice (A i) (P i).m (C i)) q)) ∧ TxtAt w (A i) (P i).m (P i).S
theorem PiA.below {w w' : World} {a : Option Addr} {n : Nat} {A : Nat → Option Addr} {C : Nat → Nat} {P : Nat → Pc} (h : PiA w a n A C P) (hb : Below w.heap.size w w') : PiA w' a n A C P := fun i hi => by
 obtain ⟨⟨b, off, e, hc⟩, ht⟩ := h i hi
 exact ⟨⟨b, off, e, fun q hq => (hb.cell (p := ⟨b, off + (i * 6 + q), none⟩) (block_lt_of_cell (hc q hq))).trans (hc q hq)⟩, ht.below hb⟩
theorem PiAt.a {w : World} {a : Option Addr} {n : Nat} {P : Nat → Pc} (h : PiAt w a n P) : ∃ A C, PiA w a n A C P := by
 refine ⟨fun i => if hi : i < n then (h i hi).choose_spec.choose_spec.choose else none, fun i => if hi : i < n then (h i hi).choose_spec.choose_spec.choose_spec.choose else 0, fun i hi => ?_⟩
 simp only [hi, dif_pos]
 have := (h i hi).choose_spec.choose_spec.choose_spec.choose_spec
 exact ⟨⟨_, _, this.1, this.2.1⟩, this.2.2⟩
noncomputable def pok (P : Nat → Pc) (c : Nat) : Bool := okP (P c).r (P c).k (P c).n (P c).i (P c).b (P c).m (P c).S
open Classical in
noncomputable def gsel (root : ByteArray) (P : Nat → Pc) : Nat → List Nat
 | 0 => []
 | c + 1 => if (P c).r = root ∧ gwB (P c).k (P c).n (P c).i (gsel root P c).length (fun j => P ((gsel root P c).getD j 0)) = true ∧ pok P c = true then gsel root P c ++ [c] else gsel root P c
theorem gsel_yes {root : ByteArray} {P : Nat → Pc} {c : Nat} (h : (P c).r = root ∧ gwB (P c).k (P c).n (P c).i (gsel root P c).length (fun j => P ((gsel root P c).getD j 0)) = true ∧ pok P c = true) : gsel root P (c + 1) = gsel root P c ++ [c] := by
 show (if _ then _ else _) = _
 rw [if_pos h]
theorem gsel_no {root : ByteArray} {P : Nat → Pc} {c : Nat} (h : ¬ ((P c).r = root ∧ gwB (P c).k (P c).n (P c).i (gsel root P c).length (fun j => P ((gsel root P c).getD j 0)) = true ∧ pok P c = true)) : gsel root P (c + 1) = gsel root P c := by
 show (if _ then _ else _) = _
 rw [if_neg h]
theorem gsel_len (root : ByteArray) (P : Nat → Pc) (c : Nat) : (gsel root P c).length ≤ c := by
 induction c with
 | zero => exact Nat.le_refl _
 | succ c ih =>
  by_cases h : (P c).r = root ∧ gwB (P c).k (P c).n (P c).i (gsel root P c).length (fun j => P ((gsel root P c).getD j 0)) = true ∧ pok P c = true
  ·rw [gsel_yes h, List.length_append]; show _ + 1 ≤ _; omega
  ·rw [gsel_no h]; omega
theorem gsel_mem {root : ByteArray} {P : Nat → Pc} {c x : Nat} (h : x ∈ gsel root P c) : x < c ∧ (P x).r = root ∧ pok P x = true := by
 induction c with
 | zero => cases h
 | succ c ih =>
  by_cases hp : (P c).r = root ∧ gwB (P c).k (P c).n (P c).i (gsel root P c).length (fun j => P ((gsel root P c).getD j 0)) = true ∧ pok P c = true
  ·rw [gsel_yes hp, List.mem_append] at h
   rcases h with h | h
   ·have := ih h; exact ⟨by omega, this.2⟩
   ·obtain rfl : x = c := by simpa using h
    exact ⟨by omega, hp.1, hp.2.2⟩
  ·rw [gsel_no hp] at h
   have := ih h; exact ⟨by omega, this.2⟩
abbrev celp (P : Nat → Pc) (A : Nat → Option Addr) (C : Nat → Nat) (x : Nat) : Nat → Value := cel (P x) (.slice (A x) (P x).m (C x))
theorem OwnC.snoc {w3 : World} {B g3 cap3 : Nat} {P : Nat → Pc} {A : Nat → Option Addr} {C : Nat → Nat} {L : List Nat} {c : Nat} (h3 : w3.ownsRow B 66 6 (.slice (some ⟨g3, 0, none⟩) (L.length + 1) cap3) (L.length + 1) (gL (fun j => celp P A C (L.getD j 0)) L.length ++ [.string (P c).r, .int .i64 (P c).k, .int .i64 (P c).n, .int .i64 (P c).i, .string (P c).b, .slice (A c) (P c).m (C c)])) :
  OwnC w3 B (some ⟨g3, 0, none⟩) (L ++ [c]).length cap3 (fun j => celp P A C ((L ++ [c]).getD j 0)) := by
 unfold OwnC
 have hl : (L ++ [c]).length = L.length + 1 := by simp
 rw [hl, gL_snoc, gL_congr (c' := fun j => celp P A C (L.getD j 0)) (fun i q hi _ => by simp [List.getElem?_append, hi])]
 have e : ((L ++ [c]).getD L.length 0) = c := by simp
 rw [e]
 exact h3
noncomputable def enK (root : ByteArray) (n : Nat) (P : Nat → Pc) : Int := (P ((gsel root P n).getD 0 0)).k
noncomputable def enB (root : ByteArray) (n : Nat) (P : Nat → Pc) : Bool := decide (n ≤ 64) && decide (gsel root P n ≠ []) && decide (enK root n P ≤ ((gsel root P n).length : Int))
theorem gsel_same {root : ByteArray} {P : Nat → Pc} {n : Nat} : ∀ x ∈ gsel root P n, (P x).k = (P ((gsel root P n).getD 0 0)).k := by
 induction n with
 | zero => intro x hx; cases hx
 | succ c ih =>
  intro x hx
  by_cases hp : (P c).r = root ∧ gwB (P c).k (P c).n (P c).i (gsel root P c).length (fun j => P ((gsel root P c).getD j 0)) = true ∧ pok P c = true
  ·rw [gsel_yes hp] at hx ⊢
   cases hL : gsel root P c with
   | nil =>
    rw [hL] at hx
    obtain rfl : x = c := by simpa using hx
    simp
   | cons y ys =>
    rw [hL] at hx ih hp
    have e0 : ((y :: ys ++ [c]).getD 0 0) = y := rfl
    rw [e0]
    rcases List.mem_append.1 hx with h | h
    ·exact ih x h
    ·obtain rfl : x = c := by simpa using h
     have h2 : GwP (P x).k (P x).n (P x).i (y :: ys).length (fun j => P ((y :: ys).getD j 0)) := by
      have := hp.2.1
      unfold gwB at this
      simpa using this
     exact (h2 0 (by simp)).1
  ·rw [gsel_no hp] at hx ⊢
   exact ih x hx
def SortOk (P : Nat → Pc) (A : Nat → Option Addr) (C : Nat → Nat) : Prop := ∀ (B g cc : Nat) (L : List Nat) (W : World), OwnC W B (some ⟨g, 0, none⟩) L.length cc (fun j => celp P A C (L.getD j 0)) → B ≤ W.heap.size → L.length ≤ 64 → (∀ x ∈ L, 0 ≤ (P x).i ∧ (P x).i ≤ 16) →
    Calls Tryz.prog 79 #[.slice (some ⟨g, 0, none⟩) L.length cc, .func (.func 80) #[] #[]] W fun e w' => e = .returned (.tuple #[]) ∧ Below B W w' ∧ ∃ L' : List Nat, L'.Perm L ∧ (∀ x y, x < y → y < L'.length → (P (L'.getD x 0)).i ≤ (P (L'.getD y 0)).i) ∧ OwnC w' B (some ⟨g, 0, none⟩) L'.length cc (fun j => celp P A C (L'.getD j 0))
theorem enough_any (root : ByteArray) (a : Option Addr) (n cap : Nat) (A : Nat → Option Addr) (C : Nat → Nat) (P : Nat → Pc) (w : World) (h : PiA w a n A C P) (hn : n ≤ 1048576) (hm : ∀ i, i < n → (P i).m ≤ 1048576) (hL : ∀ i, i < n → ∀ j, j < (P i).m → ((P i).S j).size ≤ maxLen) (hsort : SortOk P A C) :
  Calls Tryz.prog 57 #[.string root, .slice a n cap] w fun e w' => Below w.heap.size w w' ∧ ((enB root n P = false ∧ e = .panicked (failC 1)) ∨ (enB root n P = true ∧ ∃ (g cc : Nat) (L : List Nat), e = .returned (.slice (some ⟨g, 0, none⟩) (enK root n P).toNat cc) ∧ L.Perm (gsel root P n) ∧ (∀ x y, x < y → y < L.length → (P (L.getD x 0)).i ≤ (P (L.getD y 0)).i) ∧ (enK root n P).toNat ≤ cc ∧ OwnC w' w.heap.size (some ⟨g, 0, none⟩) L.length cc (fun j => celp P A C (L.getD j 0)))) := by
 by_cases h64 : 64 < n
 ·have KN : Hid (Calls Tryz.prog 61 #[.bool false, .int .i64 1] w fun e w' => e = .panicked (failC 1) ∧ w' = w) := need_no 1 w
  have hle : ¬ ((n : Int) ≤ 64) := by omega
  clear h hL hsort
  go_enter Tryz.func57, Tryz.ntmps57
  go_wp2_with fail
  refine Calls.mono KN.out ?_
  rintro e w' ⟨rfl, rfl⟩
  go_wp2
  have hf : enB root n P = false := by unfold enB; simp; omega
  simp [bodyPost, hf]
  exact Below.refl _ _
 obtain ⟨i0, hi0, hz0, hz1, hz2⟩ := info_parts Tryz.infoPc3
 have hle : (n : Int) ≤ 64 := by omega
 have KH : Hid (PiA w a n A C P) := h
 have HM : Hid (∀ i, i < n → (P i).m ≤ 1048576) := hm
 have HLn : Hid (∀ i, i < n → ∀ j, j < (P i).m → ((P i).S j).size ≤ maxLen) := hL
 have K0 : Hid (OwnC (w.alloc (.cells #[] 66)) w.heap.size (some ⟨w.heap.size, 0, none⟩) 0 0 (fun j => celp P A C (([] : List Nat).getD j 0)) ∧ Below w.heap.size w (w.alloc (.cells #[] 66))) := ⟨World.ownsRow_lit w #[] 0 (Nat.le_refl _) (by unfold maxLen; omega) rfl, (Below.refl _ _).alloc (Nat.le_refl _) _⟩
 have HSO : Hid (SortOk P A C) := hsort
 clear h hm hL hsort
 go_enter Tryz.func57, Tryz.ntmps57
 go_wp2_with fail
 refine Calls.mono (need_ok 1 w) ?_
 rintro e w' ⟨rfl, hw⟩
 obtain rfl := hw.symm
 clear hw
 go_wp2
 go_loopw [5, 15] (fun v vi wr => ∃ c g cc : Nat, c ≤ n ∧ vi = .int .i64 (c : Int) ∧ v = .slice (some ⟨g, 0, none⟩) (gsel root P c).length cc ∧ OwnC wr w.heap.size (some ⟨g, 0, none⟩) (gsel root P c).length cc (fun j => celp P A C ((gsel root P c).getD j 0)) ∧ Below w.heap.size w wr) (fun _ vi _ => n - (intOf vi).toNat)
 case atStart => exact ⟨0, w.heap.size, 0, Nat.zero_le _, rfl, rfl, K0.out.1, K0.out.2⟩
 case round =>
  obtain ⟨c, g, cc, hcn, rfl, rfl, ho, hbel⟩ := hrel
  clear K0
  have KO : Hid (OwnC wr w.heap.size (some ⟨g, 0, none⟩) (gsel root P c).length cc (fun j => celp P A C ((gsel root P c).getD j 0)) ∧ Below w.heap.size w wr) := ⟨ho, hbel⟩
  clear ho hbel
  by_cases hlt : c < n
  ·have hci : (c : Int) < (n : Int) := by omega
   have hsl := gsel_len root P c
   obtain ⟨⟨b1, f1, rfl, hx⟩, ht⟩ := (KH.out.below KO.out.2) c hlt
   have lg := World.ownsRow.lt KO.out.1 g rfl
   have hsz := KO.out.2.size
   have HY : Hid (((P c).r = root ∧ gwB (P c).k (P c).n (P c).i (gsel root P c).length (fun j => P ((gsel root P c).getD j 0)) = true ∧ pok P c = true → gsel root P (c + 1) = gsel root P c ++ [c]) ∧ (¬ ((P c).r = root ∧ gwB (P c).k (P c).n (P c).i (gsel root P c).length (fun j => P ((gsel root P c).getD j 0)) = true ∧ pok P c = true) → gsel root P (c + 1) = gsel root P c)) := ⟨gsel_yes, gsel_no⟩
   generalize HLd : gsel root P c = L at KO hsl HY ⊢
   have HG : Hid (∀ W, Below wr.heap.size wr W → ∀ (v : Value), Calls Tryz.prog 77 #[pcV (P c).r (P c).k (P c).n (P c).i (P c).b v, .slice (some ⟨g, 0, none⟩) L.length cc] W fun e w' => e = .returned (.bool (gwB (P c).k (P c).n (P c).i L.length (fun j => P (L.getD j 0)))) ∧ Below W.heap.size W w') := fun W hW v => goesWith_any (P c).r (P c).k (P c).n (P c).i (P c).b v g L.length cc (fun j => P (L.getD j 0)) (fun j => A (L.getD j 0)) (fun j => C (L.getD j 0)) W (fun j q hj hq => (KO.out.1.below hW).cell hj hq) (by omega)
   have HK : Hid (∀ W, Below wr.heap.size wr W → Calls Tryz.prog 78 #[pcV (P c).r (P c).k (P c).n (P c).i (P c).b (.slice (A c) (P c).m (C c))] W fun e w' => e = .returned (.bool (pok P c)) ∧ Below W.heap.size W w') := fun W hW => pieceOk_any (P c).r (P c).k (P c).n (P c).i (P c).b (A c) (P c).m (C c) (P c).S W (ht.below hW) (HM.out c hlt) (HLn.out c hlt)
   have HSN : Hid (∀ (w3 : World) (g3 cap3 : Nat), w3.ownsRow w.heap.size 66 6 (.slice (some ⟨g3, 0, none⟩) (L.length + 1) cap3) (L.length + 1) (gL (fun j => celp P A C (L.getD j 0)) L.length ++ [.string (P c).r, .int .i64 (P c).k, .int .i64 (P c).n, .int .i64 (P c).i, .string (P c).b, .slice (A c) (P c).m (C c)]) → OwnC w3 w.heap.size (some ⟨g3, 0, none⟩) (L ++ [c]).length cap3 (fun j => celp P A C ((L ++ [c]).getD j 0))) := fun w3 g3 cap3 h => OwnC.snoc h
   clear HLd
   generalize gwB (P c).k (P c).n (P c).i L.length (fun j => P (L.getD j 0)) = gwb at HG HY
   generalize pok P c = okb at HK HY
   have x0 := hx 0 (by omega)
   have x1 := hx 1 (by omega)
   have x2 := hx 2 (by omega)
   have x3 := hx 3 (by omega)
   have x4 := hx 4 (by omega)
   have x5 := hx 5 (by omega)
   simp only [cel, Nat.add_zero, ← Nat.add_assoc] at x0 x1 x2 x3 x4 x5
   clear hx ht
   generalize (P c).r = rc at *
   generalize (P c).k = kc at *
   generalize (P c).n = nc at *
   generalize (P c).i = ic at *
   generalize (P c).b = bc at *
   generalize (P c).m = mc at *
   generalize A c = ac at *
   generalize C c = cc' at *
   obtain ⟨D, HD⟩ : ∃ x, Hid (x = wr.heap.size) := ⟨_, rfl⟩
   obtain ⟨w1, HW1⟩ : ∃ x, Hid (x = wr.alloc (.cells (pcC rc kc nc ic bc (.slice ac mc cc')) 66)) := ⟨_, rfl⟩
   have HR1 : Hid (Row w1 D 66 (pcC rc kc nc ic bc (.slice ac mc cc'))) := by show Row _ _ _ _; rw [HW1.out, HD.out]; exact Row.new wr _ _
   have B1 : Hid (Below wr.heap.size wr w1) := by show Below _ _ _; rw [HW1.out]; exact (Below.refl _ _).alloc (Nat.le_refl _) _
   have lD1 := HR1.out.lt
   have HB1 : Hid (Below w.heap.size w w1) := below2 KO.out.2 B1.out
   have q0 := HR1.out.cell 0
   have q1 := HR1.out.cell 1
   have q2 := HR1.out.cell 2
   have q3 := HR1.out.cell 3
   have q4 := HR1.out.cell 4
   have q5 := HR1.out.cell 5
   simp at q0 q1 q2 q3 q4 q5
   by_cases hr : rc = root
   case neg =>
    have nr : (rc.toList == root.toList) = false := ba_ne hr
    have HE : Hid (gsel root P (c + 1) = L) := HY.out.2 (fun h => hr h.1)
    have HO : Hid (OwnC w1 w.heap.size (some ⟨g, 0, none⟩) L.length cc (fun j => celp P A C (L.getD j 0))) := KO.out.1.below B1.out
    clear q0 q1 q2 q3 q4 q5
    go_wp2
    go_roundw
    case rel => exact ⟨c + 1, g, cc, by omega, by go_num, by rw [HE.out], by rw [HE.out, ← HW1.out]; exact HO.out, by rw [← HW1.out]; exact HB1.out⟩
    case measure => simp [intOf]; omega
   subst hr
   have nr := ba_beq rc
   go_wp2_with fail
   rw [← HW1.out, ← HD.out]
   clear x0 x1 x2 x3 x4 x5
   refine Calls.mono (HG.out _ B1.out _) ?_
   rintro e w2 ⟨rfl, b2⟩
   have HR2 : Hid (Row w2 D 66 (pcC rc kc nc ic bc (.slice ac mc cc'))) := HR1.out.below b2 lD1
   have HB2 : Hid (Below w.heap.size w w2) := below2 HB1.out b2
   have B2 : Hid (Below wr.heap.size wr w2) := below2 B1.out b2
   have y0 := HR2.out.cell 0
   have y1 := HR2.out.cell 1
   have y2 := HR2.out.cell 2
   have y3 := HR2.out.cell 3
   have y4 := HR2.out.cell 4
   have y5 := HR2.out.cell 5
   simp at y0 y1 y2 y3 y4 y5
   clear b2 q0 q1 q2 q3 q4 q5 HG
   cases gwb with
   | false =>
    have HE : Hid (gsel rc P (c + 1) = L) := HY.out.2 (fun h => by cases h.2.1)
    have HO : Hid (OwnC w2 w.heap.size (some ⟨g, 0, none⟩) L.length cc (fun j => celp P A C (L.getD j 0))) := KO.out.1.below B2.out
    clear y0 y1 y2 y3 y4 y5
    go_wp2
    go_roundw
    case rel => exact ⟨c + 1, g, cc, by omega, by go_num, by rw [HE.out], by rw [HE.out]; exact HO.out, HB2.out⟩
    case measure => simp [intOf]; omega
   | true =>
    go_wp2_with fail
    refine Calls.mono (HK.out _ B2.out) ?_
    rintro e w3 ⟨rfl, b3⟩
    have HR3 : Hid (Row w3 D 66 (pcC rc kc nc ic bc (.slice ac mc cc'))) := HR2.out.below b3 HR2.out.lt
    have HB3 : Hid (Below w.heap.size w w3) := below2 HB2.out b3
    have HO : Hid (OwnC w3 w.heap.size (some ⟨g, 0, none⟩) L.length cc (fun j => celp P A C (L.getD j 0))) := KO.out.1.below (below2 B2.out b3)
    have z0 := HR3.out.cell 0
    have z1 := HR3.out.cell 1
    have z2 := HR3.out.cell 2
    have z3 := HR3.out.cell 3
    have z4 := HR3.out.cell 4
    have z5 := HR3.out.cell 5
    simp at z0 z1 z2 z3 z4 z5
    have hs3 := HB3.out.size
    clear b3 y0 y1 y2 y3 y4 y5 HK
    cases okb with
    | false =>
     have HE : Hid (gsel rc P (c + 1) = L) := HY.out.2 (fun h => by cases h.2.2)
     clear z0 z1 z2 z3 z4 z5
     go_wp2
     go_roundw
     case rel => exact ⟨c + 1, g, cc, by omega, by go_num, by rw [HE.out], by rw [HE.out]; exact HO.out, HB3.out⟩
     case measure => simp [intOf]; omega
    | true =>
     have HE : Hid (gsel rc P (c + 1) = L ++ [c]) := HY.out.1 (by simp)
     have hll : (L ++ [c]).length = L.length + 1 := by simp
     go_wp2_with (at_builtin; refine wpList_append_all _ (by rfl) _ _ 46 (by rfl) w.heap.size 66 i0 (.agg #[.string ByteArray.empty, .int .i64 0, .int .i64 0, .int .i64 0, .string ByteArray.empty, .slice none 0 0]) 6 80 Tryz.underlying46 hi0 hz0 hz1 hz2 rfl (by decide) g L.length cc _ (by rfl) (World.ownsRow.alloc HO.out _) ⟨w3.heap.size, 0, none⟩ 1 1 [.string rc, .int .i64 kc, .int .i64 nc, .int .i64 ic, .string bc, .slice ac mc cc'] (by rfl) (by rfl) (World.news_of_block (cs := #[.string rc, .int .i64 kc, .int .i64 nc, .int .i64 ic, .string bc, .slice ac mc cc']) (t := 66) (fr := (0, 0)) (heap_alloc_new w3 _)) (by simp [Value.oneCell']) (by unfold maxLen; omega) (by omega) (by simp; omega) ?_; intro g3 cap3 w7 hown3 hgrow3)
     have HN : Hid (OwnC w7 w.heap.size (some ⟨g3, 0, none⟩) (L ++ [c]).length cap3 (fun j => celp P A C ((L ++ [c]).getD j 0)) ∧ Below w.heap.size w w7) := ⟨HSN.out _ _ _ hown3, (HB3.out.alloc hs3 _).grown (show World.grownBy _ w7 (some g) from hgrow3) (by simp; omega) (fun j hj => by cases hj; exact lg.1)⟩
     clear hown3 hgrow3 HO z0 z1 z2 z3 z4 z5
     go_roundw
     case rel => exact ⟨c + 1, g3, cap3, by omega, by go_num, by rw [HE.out, hll], by rw [HE.out]; exact HN.out.1, HN.out.2⟩
     case measure => simp [intOf]; omega
  ·obtain rfl : c = n := by omega
   have hsl := gsel_len root P c
   have HLs : Hid (∀ x ∈ gsel root P c, x < c ∧ (P x).r = root ∧ pok P x = true) := fun x hx => gsel_mem hx
   generalize HLd : gsel root P c = L at KO hsl HLs ⊢
   have HLD : Hid (gsel root P c = L) := HLd
   clear HLd hi0 hz0 hz1 hz2
   cases L with
   | nil =>
    go_wp2_with fail
    refine Calls.mono (need_no 1 _) ?_
    rintro e w' ⟨rfl, hw⟩
    obtain rfl := hw.symm
    have hf : enB root c P = false := by unfold enB; rw [HLD.out]; simp
    have hb := KO.out.2
    clear hw KO
    go_wp2
    simp [bodyPost, hf]
    exact hb
   | cons x0 L' =>
    have hlen : (x0 :: L').length = L'.length + 1 := rfl
    have hc1 := KO.out.1.cell (i := 0) (q := 1) (by rw [hlen]; omega) (by omega)
    simp [cel] at hc1
    have HX0 : Hid (enK root c P = (P x0).k) := by show _ = _; unfold enK; rw [HLD.out]; rfl
    have HLE : Hid ((gsel root P c).length = L'.length + 1) := by rw [HLD.out]; exact hlen
    have HNE : Hid (gsel root P c ≠ []) := fun e => by rw [HLD.out] at e; cases e
    have HK1 : Hid (1 ≤ (P x0).k) := by
     have := (HLs.out x0 (by simp)).2.2
     by_cases hk : kOk (P x0).k (P x0).n (P x0).b
     ·exact hk.1
     ·unfold pok at this; rw [okP_no hk] at this; cases this
    have HII : Hid (∀ x ∈ x0 :: L', 0 ≤ (P x).i ∧ (P x).i ≤ 16) := fun x hx => by
     have := (HLs.out x hx).2.2
     unfold pok at this
     by_cases hk : kOk (P x).k (P x).n (P x).b
     ·rw [okP_yes hk] at this
      have h2 := pvB_parts this
      have h3 := hk.2.2.1
      omega
     ·rw [okP_no hk] at this; cases this
    have HSK : Hid (∀ x ∈ x0 :: L', (P x).k = (P x0).k) := fun x hx => by
     have := gsel_same (root := root) (P := P) (n := c)
     rw [HLD.out] at this
     exact this x hx
    have HSC : Hid (Calls Tryz.prog 79 #[.slice (some ⟨g, 0, none⟩) (x0 :: L').length cc, .func (.func 80) #[] #[]] wr fun e w' => e = .returned (.tuple #[]) ∧ Below w.heap.size wr w' ∧ ∃ M : List Nat, M.Perm (x0 :: L') ∧ (∀ x y, x < y → y < M.length → (P (M.getD x 0)).i ≤ (P (M.getD y 0)).i) ∧ OwnC w' w.heap.size (some ⟨g, 0, none⟩) M.length cc (fun j => celp P A C (M.getD j 0))) := HSO.out w.heap.size g cc (x0 :: L') wr KO.out.1 KO.out.2.size (by rw [hlen] at hsl ⊢; omega) HII.out
    have HKO : Hid (OwnC wr w.heap.size (some ⟨g, 0, none⟩) (x0 :: L').length cc (fun j => celp P A C ((x0 :: L').getD j 0)) ∧ Below w.heap.size w wr) := KO.out
    clear KO
    rw [hlen] at hsl HSC ⊢
    obtain ⟨l, hl⟩ : ∃ l, L'.length + 1 = l := ⟨_, rfl⟩
    rw [hl] at hsl HSC HLE ⊢
    have l0 : (0 : Int) < (l : Int) := by omega
    obtain ⟨K, HKd⟩ : ∃ K, Hid ((P x0).k = K) := ⟨_, rfl⟩
    rw [HKd.out] at hc1
    by_cases hK : K ≤ (l : Int)
    ·go_wp2_with fail
     refine Calls.mono (need_ok 1 _) ?_
     rintro e w' ⟨rfl, hw⟩
     obtain rfl := hw.symm
     clear hw
     have hbw := HKO.out.2
     have hyes : Hid (enB root c P = true) := by show _ = _; unfold enB; rw [HX0.out, HLE.out, HKd.out]; simp [HNE.out, hK]; omega
     clear hc1
     go_wp2_with fail
     refine Calls.mono HSC.out ?_
     rintro e w2 ⟨rfl, b2, M, hM, hMs, hMo⟩
     have hMl : M.length = l := by rw [hM.length_eq, hlen, hl]
     obtain ⟨kn, HKN⟩ : ∃ kn : Nat, Hid (K = (kn : Int)) := ⟨K.toNat, by have := HK1.out; rw [HKd.out] at this; show _ = _; omega⟩
     have hk1 : 1 ≤ kn ∧ kn ≤ l := by have := HK1.out; rw [HKd.out, HKN.out] at this; rw [HKN.out] at hK; omega
     have hall : ∀ x ∈ M, (P x).k = K := fun x hx => by rw [← HKd.out]; exact HSK.out x (hM.mem_iff.1 hx)
     have hMc := hMo.cell (i := 0) (q := 1) (by rw [hMl]; omega) (by omega)
     have hM0 : (P (M.getD 0 0)).k = (kn : Int) := by
      rw [← HKN.out]
      apply hall
      cases M with
      | nil => simp at hMl; omega
      | cons y ys => simp
     have hc2 : w2.cell? ⟨g, 1, none⟩ = some (.int .i64 (kn : Int)) := by rw [← hM0]; exact hMc
     have hcap : l ≤ cc := by
      rcases hMo.2 with ⟨e, _⟩ | ⟨g', c', cu, e, _, _, hn', _⟩
      ·cases e
      ·cases e; rw [← hMl]; exact hn'
     have HF : Hid (Below w.heap.size w w2 ∧ (enK root c P).toNat = kn ∧ M.Perm (gsel root P c) ∧ (∀ x y, x < y → y < M.length → (P (M.getD x 0)).i ≤ (P (M.getD y 0)).i) ∧ OwnC w2 w.heap.size (some ⟨g, 0, none⟩) M.length cc (fun j => celp P A C (M.getD j 0))) := ⟨hbw.trans b2, by rw [HX0.out, HKd.out, HKN.out]; simp, by rw [HLD.out]; exact hM, hMs, hMo⟩
     have hki : (kn : Int) ≤ (l : Int) := by omega
     have hkc : (kn : Int) ≤ (cc : Int) := by omega
     have hk0 : (0 : Int) ≤ (kn : Int) := by omega
     clear b2 hM hMs hMo hMc hM0 hall hbw HSC
     go_wp2
     go_ret
     exact ⟨HF.out.1, .inr ⟨hyes.out, g, cc, M, by rw [HF.out.2.1]; rfl, HF.out.2.2.1, HF.out.2.2.2.1, by rw [HF.out.2.1]; omega, HF.out.2.2.2.2⟩⟩
    ·go_wp2_with fail
     refine Calls.mono (need_no 1 _) ?_
     rintro e w' ⟨rfl, hw⟩
     obtain rfl := hw.symm
     have hf : enB root c P = false := by unfold enB; rw [HX0.out, HLE.out, HKd.out]; simp [hK]
     have hb := HKO.out.2
     clear hw
     go_wp2
     simp [bodyPost, hf]
     exact hb
def pcsD (n : Nat) (P : Nat → Pc) : Dt := .lst 66 6 n fun i => pcD (P i)
theorem Tryz.infoI3 : (Tryz.prog.info? 3).map (fun i => (i.zero, i.size, i.bytes)) = some (some (.int .i64 0), 1, 8) := by kernel_rfl
theorem makeI (c : Nat) (hc : c ≤ 64) (W : World) : (Instr.makeSlice 23 (.int .i64 (c : Int)) (.int .i64 (c : Int))).run Tryz.prog W = .ok (.slice (some ⟨W.heap.size, 0, none⟩) c c) (W.alloc (.cells (madeCells #[.int .i64 0] (c * 1)) 3)) := by
 obtain ⟨i0, hi, hz0, hz1, hz2⟩ := info_parts Tryz.infoI3
 have hr := run_make (P := Tryz.prog) W 23 3 i0 (.int .i64 0) Tryz.underlying23 hi hz0 .i64 .i64 c c (by omega) (Int.le_refl _) (by rw [hz2]; omega) (by omega)
 simp only [Int.toNat_natCast, hz1] at hr
 exact hr
theorem makeS (c : Nat) (hc : c ≤ 64) (W : World) : (Instr.makeSlice 27 (.int .i64 (c : Int)) (.int .i64 (c : Int))).run Tryz.prog W = .ok (.slice (some ⟨W.heap.size, 0, none⟩) c c) (W.alloc (.cells (madeCells #[.string ByteArray.empty] (c * 1)) 9)) := by
 obtain ⟨i0, hi, hz0, hz1, hz2⟩ := info_parts Tryz.infoStr
 have hr := run_make (P := Tryz.prog) W 27 9 i0 (.string ByteArray.empty) Tryz.underlying27 hi hz0 .i64 .i64 c c (by omega) (Int.le_refl _) (by rw [hz2]; omega) (by omega)
 simp only [Int.toNat_natCast, hz1] at hr
 exact hr
def zL (f : Nat → Int) (n : Nat) : List Value := (List.range n).map fun i => Value.int .i64 (f i)
theorem zL_len (f : Nat → Int) (n : Nat) : (zL f n).length = n := by simp [zL]
theorem zL_get (f : Nat → Int) (n i : Nat) (h : i < n) : (zL f n)[i]? = some (Value.int .i64 (f i)) := by simp [zL, h]
theorem zL_congr {f f' : Nat → Int} {n : Nat} (h : ∀ i, i < n → f i = f' i) : zL f n = zL f' n := by
 unfold zL
 refine List.map_congr_left fun i hi => ?_
 rw [h i (by simpa using hi)]
theorem zL_set (f : Nat → Int) (n k : Nat) (x : Int) (h : k < n) : (zL f n).set k (.int .i64 x) = zL (fun i => if i = k then x else f i) n := by
 apply List.ext_getElem?
 intro j
 rw [List.getElem?_set]
 by_cases hj : j < n
 ·by_cases e : k = j
  ·subst e
   rw [if_pos rfl, if_pos (by rw [zL_len]; exact h), zL_get _ _ _ h]
   simp
  ·rw [if_neg e, zL_get _ _ _ hj, zL_get _ _ _ hj, if_neg (Ne.symm e)]
 ·rw [List.getElem?_eq_none (l := zL _ n) (by rw [zL_len]; omega)]
  rw [List.getElem?_eq_none (l := zL (fun i => if i = k then x else f i) n) (by rw [zL_len]; omega)]
  repeat' split
  all_goals first | rfl | (exfalso; simp only [zL_len] at *; omega)
def LoI (w : World) (B g1 g2 c j : Nat) (Q : Nat → Pc) : Prop := w.ownsRow B 3 1 (.slice (some ⟨g1, 0, none⟩) c c) c (zL (fun x => if x < j then (Q x).i else 0) c) ∧ OwnT w B (some ⟨g2, 0, none⟩) c c (fun x => if x < j then (Q x).b else ByteArray.empty) ∧ g1 ≠ g2
theorem zeroI (Q : Nat → Pc) (c : Nat) : (madeCells #[.int .i64 0] c).toList = zL (fun x => if x < 0 then (Q x).i else 0) c := by
 rw [toList_madeCells_one]
 apply List.ext_getElem?
 intro j
 by_cases hj : j < c
 ·rw [zL_get _ _ _ hj]; simp [hj]
 ·rw [List.getElem?_eq_none (by simp; omega), List.getElem?_eq_none (by rw [zL_len]; omega)]
theorem zeroS (Q : Nat → Pc) (c : Nat) : (madeCells #[.string ByteArray.empty] c).toList = sL (fun x => if x < 0 then (Q x).b else ByteArray.empty) c := by
 rw [toList_madeCells_one, ← sL_empty]
 exact sL_congr fun i _ => by simp
theorem LoI.first (w : World) (c : Nat) (Q : Nat → Pc) (hc : c ≤ 64) : LoI ((w.alloc (.cells (madeCells #[.int .i64 0] c) 3)).alloc (.cells (madeCells #[.string ByteArray.empty] c) 9)) w.heap.size w.heap.size (w.heap.size + 1) c 0 Q := by
 refine ⟨?_, ?_, by omega⟩
 ·have := World.ownsRow_lit (e := 3) (size := 1) w (madeCells #[.int .i64 0] c) c (Nat.le_refl _) (by unfold maxLen; omega) (by rw [size_madeCells]; omega)
  rw [zeroI Q] at this
  exact World.ownsRow.alloc this _
 ·have := World.ownsRow_lit (e := 9) (size := 1) (base := w.heap.size) (w.alloc (.cells (madeCells #[.int .i64 0] c) 3)) (madeCells #[.string ByteArray.empty] c) c (by simp) (by unfold maxLen; omega) (by rw [size_madeCells]; omega)
  rw [zeroS Q] at this
  unfold OwnT
  simpa using this
theorem LoI.second (w : World) (c : Nat) (Q : Nat → Pc) (hc : c ≤ 64) : LoI ((w.alloc (.cells (madeCells #[.string ByteArray.empty] c) 9)).alloc (.cells (madeCells #[.int .i64 0] c) 3)) w.heap.size (w.heap.size + 1) w.heap.size c 0 Q := by
 refine ⟨?_, ?_, by omega⟩
 ·have := World.ownsRow_lit (e := 3) (size := 1) (base := w.heap.size) (w.alloc (.cells (madeCells #[.string ByteArray.empty] c) 9)) (madeCells #[.int .i64 0] c) c (by simp) (by unfold maxLen; omega) (by rw [size_madeCells]; omega)
  rw [zeroI Q] at this
  simpa using this
 ·have := World.ownsRow_lit (e := 9) (size := 1) w (madeCells #[.string ByteArray.empty] c) c (Nat.le_refl _) (by unfold maxLen; omega) (by rw [size_madeCells]; omega)
  rw [zeroS Q] at this
  exact World.ownsRow.alloc this _
theorem LoI.lt {w : World} {B g1 g2 c j : Nat} {Q : Nat → Pc} (h : LoI w B g1 g2 c j Q) : (B ≤ g1 ∧ g1 < w.heap.size) ∧ (B ≤ g2 ∧ g2 < w.heap.size) := ⟨World.ownsRow.lt h.1 _ rfl, World.ownsRow.lt h.2.1 _ rfl⟩
theorem LoI.alloc {w : World} {B g1 g2 c j : Nat} {Q : Nat → Pc} (h : LoI w B g1 g2 c j Q) (o : Obj) : LoI (w.alloc o) B g1 g2 c j Q := ⟨World.ownsRow.alloc h.1 o, World.ownsRow.alloc h.2.1 o, h.2.2⟩
theorem LoI.cell1 {w : World} {B g1 g2 c j : Nat} {Q : Nat → Pc} (h : LoI w B g1 g2 c j Q) {x : Nat} (hx : x < c) : w.cell? ⟨g1, x, none⟩ = some (.int .i64 (if x < j then (Q x).i else 0)) := by
 rw [World.ownsRow.cellAt h.1 x (by omega), zL_get _ _ _ hx]
theorem LoI.cell2 {w : World} {B g1 g2 c j : Nat} {Q : Nat → Pc} (h : LoI w B g1 g2 c j Q) {x : Nat} (hx : x < c) : w.cell? ⟨g2, x, none⟩ = some (.string (if x < j then (Q x).b else ByteArray.empty)) := by
 rw [World.ownsRow.cellAt h.2.1 x (by omega), sL_get _ _ _ hx]
theorem LoI.set12 {w : World} {B g1 g2 c j : Nat} {Q : Nat → Pc} (h : LoI w B g1 g2 c j Q) (hj : j < c) : LoI ((w.setCell ⟨g1, j, none⟩ (.int .i64 (Q j).i)).setCell ⟨g2, j, none⟩ (.string (Q j).b)) B g1 g2 c (j + 1) Q := by
 have s1 := World.ownsRow.stored h.1 j (.int .i64 (Q j).i)
 have k2 := World.ownsRow.kept h.2.1 s1.2 (.inr (by intro e; exact h.2.2 (by simpa [Value.ownBlock] using e.symm)))
 have s2 := World.ownsRow.stored k2 j (.string (Q j).b)
 have k1 := World.ownsRow.kept s1.1 s2.2 (.inr (by intro e; exact h.2.2 (by simpa [Value.ownBlock] using e)))
 refine ⟨?_, ?_, h.2.2⟩
 ·rw [zL_set _ _ _ _ hj] at k1
  rw [zL_congr (f' := fun x => if x < j + 1 then (Q x).i else 0) (fun i _ => by
   by_cases e : i = j
   ·simp [e]
   ·by_cases e2 : i < j
    ·simp [e, e2, show i < j + 1 by omega]
    ·simp [e, e2, show ¬ i < j + 1 by omega])] at k1
  exact k1
 ·have k3 := s2.1
  rw [sL_set _ _ _ _ hj] at k3
  exact OwnT.congr k3 (fun i _ => by
   by_cases e : i = j
   ·simp [e]
   ·by_cases e2 : i < j
    ·simp [e, e2, show i < j + 1 by omega]
    ·simp [e, e2, show ¬ i < j + 1 by omega])
theorem LoI.set21 {w : World} {B g1 g2 c j : Nat} {Q : Nat → Pc} (h : LoI w B g1 g2 c j Q) (hj : j < c) : LoI ((w.setCell ⟨g2, j, none⟩ (.string (Q j).b)).setCell ⟨g1, j, none⟩ (.int .i64 (Q j).i)) B g1 g2 c (j + 1) Q := by
 have s2 := World.ownsRow.stored h.2.1 j (.string (Q j).b)
 have k1 := World.ownsRow.kept h.1 s2.2 (.inr (by intro e; exact h.2.2 (by simpa [Value.ownBlock] using e)))
 have s1 := World.ownsRow.stored k1 j (.int .i64 (Q j).i)
 have k2 := World.ownsRow.kept s2.1 s1.2 (.inr (by intro e; exact h.2.2 (by simpa [Value.ownBlock] using e.symm)))
 refine ⟨?_, ?_, h.2.2⟩
 ·have k3 := s1.1
  rw [zL_set _ _ _ _ hj] at k3
  rw [zL_congr (f' := fun x => if x < j + 1 then (Q x).i else 0) (fun i _ => by
   by_cases e : i = j
   ·simp [e]
   ·by_cases e2 : i < j
    ·simp [e, e2, show i < j + 1 by omega]
    ·simp [e, e2, show ¬ i < j + 1 by omega])] at k3
  exact k3
 ·rw [sL_set _ _ _ _ hj] at k2
  exact OwnT.congr k2 (fun i _ => by
   by_cases e : i = j
   ·simp [e]
   ·by_cases e2 : i < j
    ·simp [e, e2, show i < j + 1 by omega]
    ·simp [e, e2, show ¬ i < j + 1 by omega])
theorem LoI.ints {w : World} {B g1 g2 c : Nat} {Q : Nat → Pc} (h : LoI w B g1 g2 c c Q) : IntsAt w (some ⟨g1, 0, none⟩) c ((List.range c).map fun j => (Q j).i) := by
 refine ⟨by simp, fun i hi => ⟨g1, 0, rfl, ?_⟩⟩
 rw [Nat.zero_add, h.cell1 hi]
 simp [hi]
theorem LoI.txts {w : World} {B g1 g2 c : Nat} {Q : Nat → Pc} (h : LoI w B g1 g2 c c Q) : TxtAt w (some ⟨g2, 0, none⟩) c (fun j => (Q j).b) := fun i hi => ⟨g2, 0, rfl, by
 rw [Nat.zero_add, h.cell2 hi]
 simp [hi]⟩
theorem lo_facts {w : World} {B g1 g2 c j : Nat} {Q : Nat → Pc} (h : LoI w B g1 g2 c j Q) (hj : j < c) : (∃ v, w.cell? ⟨g1, j, none⟩ = some v) ∧ w.frozen? ⟨g1, j, none⟩ = false ∧ (∃ v, w.cell? ⟨g2, j, none⟩ = some v) ∧ w.frozen? ⟨g2, j, none⟩ = false ∧
  (∃ v, (w.setCell ⟨g1, j, none⟩ (.int .i64 (Q j).i)).cell? ⟨g2, j, none⟩ = some v) ∧ (w.setCell ⟨g1, j, none⟩ (.int .i64 (Q j).i)).frozen? ⟨g2, j, none⟩ = false ∧
  (∃ v, (w.setCell ⟨g2, j, none⟩ (.string (Q j).b)).cell? ⟨g1, j, none⟩ = some v) ∧ (w.setCell ⟨g2, j, none⟩ (.string (Q j).b)).frozen? ⟨g1, j, none⟩ = false := by
 have s1 := World.ownsRow.stored h.1 j (.int .i64 (Q j).i)
 have k2 := World.ownsRow.kept h.2.1 s1.2 (.inr (by intro e; exact h.2.2 (by simpa [Value.ownBlock] using e.symm)))
 have s2 := World.ownsRow.stored h.2.1 j (.string (Q j).b)
 have k1 := World.ownsRow.kept h.1 s2.2 (.inr (by intro e; exact h.2.2 (by simpa [Value.ownBlock] using e)))
 exact ⟨⟨_, h.cell1 hj⟩, World.ownsRow.frozenAt h.1 j, ⟨_, h.cell2 hj⟩, World.ownsRow.frozenAt h.2.1 j,
  ⟨_, (World.ownsRow.cellAt k2 j (by omega)).trans (sL_get _ _ _ hj)⟩, World.ownsRow.frozenAt k2 j, ⟨_, (World.ownsRow.cellAt k1 j (by omega)).trans (zL_get _ _ _ hj)⟩, World.ownsRow.frozenAt k1 j⟩
theorem laidOut_any (g c cc : Nat) (Q : Nat → Pc) (A : Nat → Option Addr) (C : Nat → Nat) (w : World) (hcell : ∀ j q, j < c → q < 6 → w.cell? ⟨g, j * 6 + q, none⟩ = some (cel (Q j) (.slice (A j) (Q j).m (C j)) q)) (hc : c ≤ 64) :
  Calls Tryz.prog 59 #[.slice (some ⟨g, 0, none⟩) c cc] w fun e w' => ∃ g1 g2, e = .returned (.tuple #[.slice (some ⟨g1, 0, none⟩) c c, .slice (some ⟨g2, 0, none⟩) c c]) ∧ IntsAt w' (some ⟨g1, 0, none⟩) c ((List.range c).map fun j => (Q j).i) ∧ TxtAt w' (some ⟨g2, 0, none⟩) c (fun j => (Q j).b) ∧ Below w.heap.size w w' := by
 have mI := makeI c hc
 have mS := makeS c hc
 go_enter Tryz.func59, Tryz.ntmps59
 have K1 := LoI.first w c Q hc
 have K2 := LoI.second w c Q hc
 have B1 : Below w.heap.size w ((w.alloc (.cells (madeCells #[.int .i64 0] c) 3)).alloc (.cells (madeCells #[.string ByteArray.empty] c) 9)) := ((Below.refl _ _).alloc (Nat.le_refl _) _).alloc (by simp) _
 have B2 : Below w.heap.size w ((w.alloc (.cells (madeCells #[.string ByteArray.empty] c) 9)).alloc (.cells (madeCells #[.int .i64 0] c) 3)) := ((Below.refl _ _).alloc (Nat.le_refl _) _).alloc (by simp) _
 have HK : Hid (LoI ((w.alloc (.cells (madeCells #[.int .i64 0] c) 3)).alloc (.cells (madeCells #[.string ByteArray.empty] c) 9)) w.heap.size w.heap.size (w.heap.size + 1) c 0 Q ∧ LoI ((w.alloc (.cells (madeCells #[.string ByteArray.empty] c) 9)).alloc (.cells (madeCells #[.int .i64 0] c) 3)) w.heap.size (w.heap.size + 1) w.heap.size c 0 Q ∧ Below w.heap.size w ((w.alloc (.cells (madeCells #[.int .i64 0] c) 3)).alloc (.cells (madeCells #[.string ByteArray.empty] c) 9)) ∧ Below w.heap.size w ((w.alloc (.cells (madeCells #[.string ByteArray.empty] c) 9)).alloc (.cells (madeCells #[.int .i64 0] c) 3))) := ⟨K1, K2, B1, B2⟩
 have HCe : Hid (∀ j q, j < c → q < 6 → w.cell? ⟨g, j * 6 + q, none⟩ = some (cel (Q j) (.slice (A j) (Q j).m (C j)) q)) := hcell
 clear K1 K2 B1 B2 hcell
 go_wp2
 go_cut [4, 5] from 8 to 13 (fun v4 v5 wx => ∃ g1 g2, v4 = .slice (some ⟨g1, 0, none⟩) c c ∧ v5 = .slice (some ⟨g2, 0, none⟩) c c ∧ LoI wx w.heap.size g1 g2 c 0 Q ∧ Below w.heap.size w wx)
 case first =>
  go_region
  all_goals
   go_wp2_with fail
   go_meet
  ·exact ⟨_, _, rfl, rfl, HK.out.1, HK.out.2.2.1.drew⟩
  ·exact ⟨_, _, rfl, rfl, HK.out.2.1, HK.out.2.2.2.drew⟩
 case rest =>
  obtain ⟨g1, g2, rfl, rfl, hlo, hb⟩ := hcut
  have KL : Hid (LoI wc w.heap.size g1 g2 c 0 Q ∧ Below w.heap.size w wc) := ⟨hlo, hb⟩
  clear hlo hb HK mI mS
  go_wp2
  go_loopw [16] (fun vi wr => ∃ j : Nat, j ≤ c ∧ vi = .int .i64 (j : Int) ∧ LoI wr w.heap.size g1 g2 c j Q ∧ Below w.heap.size w wr) (fun vi _ => c - (intOf vi).toNat)
  case atStart => exact ⟨0, Nat.zero_le _, rfl, KL.out.1, KL.out.2⟩
  case round =>
   obtain ⟨j, hjc, rfl, hl, hbel⟩ := hrel
   clear KL
   by_cases hlt : j < c
   ·have hji : (j : Int) < (c : Int) := by omega
    have hx := fun q (hq : q < 6) => (hbel.cell (p := ⟨g, j * 6 + q, none⟩) (block_lt_of_cell (HCe.out j q hlt hq))).trans (HCe.out j q hlt hq)
    have lg := hl.lt
    obtain ⟨⟨o1, f1⟩, f2, ⟨o2, f3⟩, f4, ⟨o3, f5⟩, f6, ⟨o4, f7⟩, f8⟩ := lo_facts hl hlt
    have HN : Hid (LoI _ w.heap.size g1 g2 c (j + 1) Q ∧ LoI _ w.heap.size g1 g2 c (j + 1) Q) := ⟨(hl.set12 hlt).alloc (.cells (pcC (Q j).r (Q j).k (Q j).n (Q j).i (Q j).b (.slice (A j) (Q j).m (C j))) 66), (hl.set21 hlt).alloc (.cells (pcC (Q j).r (Q j).k (Q j).n (Q j).i (Q j).b (.slice (A j) (Q j).m (C j))) 66)⟩
    have b12 := (hbel.setCell (p := ⟨g1, j, none⟩) lg.1.1 (.int .i64 (Q j).i)).setCell (p := ⟨g2, j, none⟩) lg.2.1 (.string (Q j).b)
    have b21 := (hbel.setCell (p := ⟨g2, j, none⟩) lg.2.1 (.string (Q j).b)).setCell (p := ⟨g1, j, none⟩) lg.1.1 (.int .i64 (Q j).i)
    have HB : Hid (Below w.heap.size w _ ∧ Below w.heap.size w _) := ⟨(b12.alloc b12.size (.cells (pcC (Q j).r (Q j).k (Q j).n (Q j).i (Q j).b (.slice (A j) (Q j).m (C j))) 66)).drew, (b21.alloc b21.size (.cells (pcC (Q j).r (Q j).k (Q j).n (Q j).i (Q j).b (.slice (A j) (Q j).m (C j))) 66)).drew⟩
    have x0 := hx 0 (by omega)
    have x1 := hx 1 (by omega)
    have x2 := hx 2 (by omega)
    have x3 := hx 3 (by omega)
    have x4 := hx 4 (by omega)
    have x5 := hx 5 (by omega)
    simp only [cel, Nat.add_zero] at x0 x1 x2 x3 x4 x5
    clear hx hl hbel b12 b21
    go_wp2
    go_region
    go_wp2
    go_roundw
    case rel => exact ⟨j + 1, by omega, by go_num, HN.out.1, HB.out.1⟩
    case measure => simp [intOf]; omega
   ·obtain rfl : j = c := by omega
    have HL : Hid (LoI wr w.heap.size g1 g2 j j Q) := hl
    clear hl
    go_wp2
    go_ret2
    exact ⟨g1, g2, rfl, HL.out.ints, HL.out.txts, hbel⟩
structure PcB (p : Pc) : Prop where
 r : p.r.size ≤ maxLen
 b : p.b.size ≤ maxLen
 m : p.m ≤ maxLen
 tx : ∀ i, i < p.m → (p.S i).size ≤ maxLen
def wtLp (n : Nat) (P : Nat → Pc) : Nat := n + tot (fun i => wtP (P i)) n
end Go.Proofs.YtgooamiggebibaaGreatDoor
namespace Go.Proofs.YtgooamiggebibaaGreatDoor
open Go.Shelf Go.Lib Go.Sort
noncomputable def clp (P : Nat → Pc) (x : Nat) : Pc := @ite _ (0 ≤ (P x).i ∧ (P x).i ≤ 16) (Classical.propDecidable _) (P x) { P x with i := 0 }
theorem clp_is {P : Nat → Pc} {x : Nat} (h : 0 ≤ (P x).i ∧ (P x).i ≤ 16) : clp P x = P x := if_pos h
theorem clp_in (P : Nat → Pc) (x : Nat) : 0 ≤ (clp P x).i ∧ (clp P x).i ≤ 16 := by
 by_cases h : 0 ≤ (P x).i ∧ (P x).i ≤ 16
 ·rw [clp_is h]; exact h
 ·unfold clp; rw [if_neg h]; exact ⟨Int.le_refl _, show (0 : Int) ≤ 16 by decide⟩
noncomputable def encP (P : Nat → Pc) (A : Nat → Option Addr) (C : Nat → Nat) (x : Nat) : List Value := [.string (clp P x).r, .int .i64 (clp P x).k, .int .i64 (clp P x).n, .int .i64 (clp P x).i, .string (clp P x).b, .slice (A x) (clp P x).m (C x)]
theorem encP_get {P : Nat → Pc} {A : Nat → Option Addr} {C : Nat → Nat} {x : Nat} (h : 0 ≤ (P x).i ∧ (P x).i ≤ 16) {q : Nat} (hq : q < 6) : (encP P A C x)[q]! = celp P A C x q := by
 unfold encP
 rw [clp_is h]
 match q, hq with
 | 0, _ => rfl
 | 1, _ => rfl
 | 2, _ => rfl
 | 3, _ => rfl
 | 4, _ => rfl
 | 5, _ => rfl
noncomputable def cfP (P : Nat → Pc) (x y : Nat) : Int := (clp P x).i - (clp P y).i
theorem swoP (P : Nat → Pc) : SWO (ltOf (cfP P)) where
 irrefl x := by unfold ltOf cfP; simp
 trans x y z h1 h2 := by unfold ltOf cfP at *; simp at *; omega
 ntrans x y z h1 h2 := by unfold ltOf cfP at *; simp at *; omega
theorem closureP (P : Nat → Pc) (A : Nat → Option Addr) (C : Nat → Nat) (x y : Nat) (W : World) : Calls Tryz.prog 80 #[.agg (encP P A C x).toArray, .agg (encP P A C y).toArray] W fun e w' => e = .returned (.int .i64 (cfP P x y)) ∧ ∃ q os', w' = grow (W.drewN q) os' := by
 have hx := clp_in P x
 have hy := clp_in P y
 unfold encP cfP
 generalize clp P x = p at hx ⊢
 generalize clp P y = p' at hy ⊢
 obtain ⟨r, k, n, i, b, m, S⟩ := p
 obtain ⟨r', k', n', i', b', m', S'⟩ := p'
 simp only at hx hy
 have hw : IntKind.i64.wrap (i - i') = i - i' := by rw [IntKind.wrap_i64]; omega
 go_enter Tryz.func80, Tryz.ntmps80
 go_wp2
 go_ret
 exact ⟨rfl, 0, _, by rw [alloc_eq_grow, alloc_eq_grow, grow_grow]; rfl⟩
theorem sort_ok (P : Nat → Pc) (A : Nat → Option Addr) (C : Nat → Nat) : SortOk P A C := by
 intro B g cc L W ho hB hl hi
 have eg : ∀ args w, (callFunc 80 args).run Tryz.prog w = .ok (.enter 80 args) w := enters_of Tryz.func80 (by kernel_rfl) rfl
 have hinL : ∀ t, t < L.length → 0 ≤ (P (L.getD t 0)).i ∧ (P (L.getD t 0)).i ≤ 16 := fun t ht => hi _ (by simp [ht])
 have hH : HoldsK (encP P A C) 6 W g 0 L.toArray := by
  intro j hj
  have hj' : j < L.length * 6 := by simpa using hj
  rw [get_flatK _ _ _ _ (by simpa using hj)]
  have h1 : j / 6 < L.length := by omega
  have hc := ho.cell (i := j / 6) (q := j % 6) h1 (by omega)
  rw [show j / 6 * 6 + j % 6 = j by omega] at hc
  refine ⟨?_, by rw [Nat.zero_add]; exact World.ownsRow.frozenAt ho _⟩
  rw [Nat.zero_add, hc]
  have e : (L.toArray)[j / 6]! = L.getD (j / 6) 0 := by simp [h1]
  rw [e, encP_get (hinL _ h1) (by omega)]
  rfl
 have lg := World.ownsRow.lt ho g rfl
 have hcon := AnyQ.slices_SortFunc Tryz.sortP 6 Tryz.isAgg66 Tryz.sizeOf66 (encP P A C) (fun _ => rfl) (fun x v hv => by simp [encP] at hv; rcases hv with rfl | rfl | rfl | rfl | rfl | rfl <;> rfl) (cfP P) (swoP P) 80 #[] g 0 cc L.toArray W eg (fun _ _ _ _ x y => closureP P A C x y _) hH lg.2 (by simp; omega)
 have hcon' : Calls Tryz.prog 79 #[.slice (some ⟨g, 0, none⟩) L.length cc, .func (.func 80) #[] #[]] W fun e w' => e = .returned (.tuple #[]) ∧ ∃ d' n os, PermIn 0 L.toArray.size L.toArray d' ∧ SortedIn (ltOf (cfP P)) 0 L.toArray.size d' ∧ w' = sortWorldK (encP P A C) 6 W g 0 n d' os := hcon
 refine hcon'.mono ?_
 rintro e w' ⟨rfl, d', m, os, hp, hs, rfl⟩
 have hsz : d'.size = L.length := by simpa using hp.1
 have hperm : d'.toList.Perm L := by
  have h3 := hp.2.2
  have e1 : d'.extract 0 L.toArray.size = d' := by rw [show L.toArray.size = d'.size by rw [hsz]; simp]; simp
  have e2 : L.toArray.extract 0 L.toArray.size = L.toArray := by simp
  rw [e1, e2] at h3
  simpa using h3
 have hin' : ∀ t, t < d'.size → 0 ≤ (P (d'.toList.getD t 0)).i ∧ (P (d'.toList.getD t 0)).i ≤ 16 := fun t ht => hi _ (hperm.mem_iff.1 (by simp [ht]))
 have hget : ∀ t, t < d'.size → d'[t]! = d'.toList.getD t 0 := fun t ht => by simp [ht]
 refine ⟨rfl, ?_, d'.toList, hperm, ?_, ?_⟩
 ·refine ⟨rfl, rfl, rfl, size_sortWorldK_c _ _ _ _ _ _ _ _, fun j hj => ?_⟩
  show ((Array.modify W.heap g _) ++ os)[j]? = _
  rw [Array.getElem?_append_left (by simp; omega), Array.getElem?_modify, if_neg (by omega)]
 ·intro x y hxy hy
  have hy' : y < d'.size := by simpa using hy
  have h := hs x y (Nat.zero_le _) hxy (by rw [← hp.1]; exact hy')
  rw [hget x (by omega), hget y hy'] at h
  have h1 := hin' x (by omega)
  have h2 := hin' y hy'
  unfold ltOf cfP at h
  rw [clp_is h1, clp_is h2] at h
  simp at h
  simp
  omega
 ·rcases ho.2 with ⟨e, _⟩ | ⟨g', cap', cur, e, hBg, hg, hn, hm, hcs, htk⟩
  ·cases e
  cases e
  have hll : d'.toList.length = L.length := by rw [← hsz]; simp
  refine ⟨gL_len _ _, .inr ⟨g, cc, putCells id 0 (flatK (encP P A C) 6 d') cur, by rw [hll], hBg, ?_, by rw [hll]; exact hn, hm, by simp [putCells, hcs], ?_⟩⟩
  ·show ((Array.modify W.heap g _) ++ os)[g]? = _
   rw [Array.getElem?_append_left (by simp; exact lg.2), Array.getElem?_modify, if_pos rfl, hg]
   rfl
  ·apply List.ext_getElem?
   intro t
   by_cases ht : t < d'.toList.length * 6
   ·have ht' : t < L.length * 6 := by rw [hll] at ht; exact ht
    have htc : t < cur.size := by rw [hcs]; omega
    rw [List.getElem?_take, if_pos ht]
    have h2 := gL_get (fun j => celp P A C (d'.toList.getD j 0)) d'.toList.length (t / 6) (t % 6) (by omega) (by omega)
    rw [show t / 6 * 6 + t % 6 = t by omega] at h2
    rw [h2]
    have h6 : t / 6 < d'.size := by rw [hsz]; omega
    simp only [putCells, Array.getElem?_toList, Array.getElem?_mapIdx]
    rw [Array.getElem?_eq_getElem htc]
    simp only [Option.map_some, Nat.zero_le, Nat.zero_add, Nat.sub_zero, true_and, size_flatK]
    rw [if_pos (by rw [hsz]; exact ht'), get_flatK _ _ _ _ (by rw [hsz]; exact ht'), hget _ h6, id, encP_get (hin' _ h6) (by omega)]
   ·rw [List.getElem?_eq_none (by rw [List.length_take]; omega), List.getElem?_eq_none (by rw [gL_len]; omega)]
end Go.Proofs.YtgooamiggebibaaGreatDoor
namespace Go.Proofs.YtgooamiggebibaaGreatDoor
def zsQ (c : Nat) (Q : Nat → Pc) : List Int := (List.range c).map fun j => (Q j).i
def sQ (Q : Nat → Pc) (j : Nat) : ByteArray := (Q j).b
noncomputable def alQ (c : Nat) (Q : Nat → Pc) : Nat → ByteArray := bdS (Q 0).k (Q 0).n (zsQ c Q) (sQ Q)
noncomputable def rtQ (c : Nat) (Q : Nat → Pc) : ByteArray := rtS (Q 0).n.toNat (lvs (Q 0).k (Q 0).n.toNat (alQ c Q))
def Cm (root : ByteArray) (c : Nat) (Q : Nat → Pc) : Prop := Rgt (Q 0).k (Q 0).n (zsQ c Q) c (sQ Q) ∧ rtQ c Q = root
theorem completed_any (root : ByteArray) (g c cc : Nat) (Q : Nat → Pc) (A : Nat → Option Addr) (C : Nat → Nat) (w : World) (hcell : ∀ j q, j < c → q < 6 → w.cell? ⟨g, j * 6 + q, none⟩ = some (cel (Q j) (.slice (A j) (Q j).m (C j)) q)) (hc0 : 0 < c) (hc : c ≤ 64) (hS : (Q 0).b.size ≤ 1048576) :
  Calls Tryz.prog 58 #[.string root, .slice (some ⟨g, 0, none⟩) c cc] w fun e w' => Below w.heap.size w w' ∧ ((¬ Cm root c Q ∧ e = .panicked (failC 2)) ∨ (Cm root c Q ∧ ∃ (a2 : Option Addr) (cap2 G : Nat), e = .returned (.agg #[.int .i64 (Q 0).k, .slice a2 (Q 0).n.toNat cap2, .slice (some ⟨G, 0, none⟩) (Q 0).n.toNat (Q 0).n.toNat, .string root]) ∧
   OwnT w' w.heap.size a2 (Q 0).n.toNat cap2 (alQ c Q) ∧ OwnT w' w.heap.size (some ⟨G, 0, none⟩) (Q 0).n.toNat (Q 0).n.toNat (lvs (Q 0).k (Q 0).n.toNat (alQ c Q)))) := by
 obtain ⟨B, HB⟩ : ∃ x, Hid (x = w.heap.size) := ⟨_, rfl⟩
 obtain ⟨w0, HW0⟩ : ∃ x, Hid (x = w.alloc (.cells #[.int .i64 0, .slice none 0 0, .slice none 0 0, .string ⟨#[]⟩] 99)) := ⟨_, rfl⟩
 have HR0 : Hid (Row w0 B 99 #[.int .i64 0, .slice none 0 0, .slice none 0 0, .string ⟨#[]⟩]) := by show Row _ _ _ _; rw [HW0.out, HB.out]; exact Row.new w _ _
 have hb0 : Below w.heap.size w w0 := by rw [HW0.out]; exact (Below.refl _ _).alloc (Nat.le_refl _) _
 have hlt0 : B < w0.heap.size := HR0.out.lt
 have hBw : w.heap.size ≤ B := by rw [HB.out]; exact Nat.le_refl _
 have hs0 := hb0.size
 have HC0 : Hid (∀ j q, j < c → q < 6 → w0.cell? ⟨g, j * 6 + q, none⟩ = some (cel (Q j) (.slice (A j) (Q j).m (C j)) q)) := fun j q h1 h2 => (hb0.cell (p := ⟨g, j * 6 + q, none⟩) (block_lt_of_cell (hcell j q h1 h2))).trans (hcell j q h1 h2)
 have KB0 : Hid (Below w.heap.size w w0) := hb0
 have KLO : Hid _ := laidOut_any g c cc Q A C w0 HC0.out hc
 have HS : Hid ((Q 0).b.size ≤ 1048576) := hS
 have hci : (0 : Int) < (c : Int) := by omega
 clear hb0 hcell hS
 go_enter Tryz.func58, Tryz.ntmps58
 go_wp2_with fail
 rw [← HW0.out, ← HB.out]
 refine Calls.mono KLO.out ?_
 rintro e w1 ⟨g1, g2, rfl, hI1, hT1, hb1⟩
 have x1 := (hb1.cell (p := ⟨g, 0 * 6 + 1, none⟩) (block_lt_of_cell (HC0.out 0 1 hc0 (by omega)))).trans (HC0.out 0 1 hc0 (by omega))
 have x2 := (hb1.cell (p := ⟨g, 0 * 6 + 2, none⟩) (block_lt_of_cell (HC0.out 0 2 hc0 (by omega)))).trans (HC0.out 0 2 hc0 (by omega))
 simp only [cel, Nat.zero_mul, Nat.zero_add] at x1 x2
 have KBD : Hid (∀ W, Below w1.heap.size w1 W → Calls Tryz.prog 81 #[.int .i64 (Q 0).k, .int .i64 (Q 0).n, .slice (some ⟨g1, 0, none⟩) c c, .slice (some ⟨g2, 0, none⟩) c c] W fun e w' => ∃ v, e = .returned (.tuple #[v, .bool (rgt (Q 0).k (Q 0).n (zsQ c Q) c (sQ Q))]) ∧ ResT W w' v (bdR (Q 0).k (Q 0).n (zsQ c Q) c (sQ Q)) (alQ c Q) ∧ Below W.heap.size W w') := fun W hW => bodies_any (Q 0).k (Q 0).n (some ⟨g1, 0, none⟩) c c (zsQ c Q) (some ⟨g2, 0, none⟩) c c (sQ Q) W (hI1.below hW) (hT1.below hW) (by omega) (by omega) (fun _ => HS.out)
 have HR1 : Hid (Row w1 B 99 #[.int .i64 0, .slice none 0 0, .slice none 0 0, .string ⟨#[]⟩]) := HR0.out.below hb1 hlt0
 have KB1 : Hid (Below w.heap.size w w1) := below2 KB0.out hb1
 have lB1 : B < w1.heap.size := HR1.out.lt
 clear hI1 hT1 hb1 KLO HR0 KB0
 go_wp2_with fail
 go_cut [7, 8] from 15 to 28 (fun v7 v8 wx => Hid (Below w1.heap.size w1 wx ∧ ∃ a2 cap2, v8 = .bool (rgt (Q 0).k (Q 0).n (zsQ c Q) c (sQ Q)) ∧ v7 = .slice a2 (bdR (Q 0).k (Q 0).n (zsQ c Q) c (sQ Q)) cap2 ∧ OwnT wx w1.heap.size a2 (bdR (Q 0).k (Q 0).n (zsQ c Q) c (sQ Q)) cap2 (alQ c Q)))
 case first =>
  go_region_with ((go_at_call 81; refine Calls.mono (KBD.out _ ⟨rfl, rfl, rfl, Nat.le_refl _, fun _ _ => rfl⟩) ?_; rintro e w2 ⟨v2, rfl, hR2, hb2⟩; obtain ⟨a2, cap2, rfl, hO2⟩ := hR2; have HF : Hid (Below w1.heap.size w1 w2 ∧ OwnT w2 w1.heap.size a2 (bdR (Q 0).k (Q 0).n (zsQ c Q) c (sQ Q)) cap2 (alQ c Q)) := ⟨below_of_drew hb2, hO2⟩; have z1 := (HF.out.1.cell (p := ⟨g, 1, none⟩) (block_lt_of_cell x1)).trans x1; have z2 := (HF.out.1.cell (p := ⟨g, 2, none⟩) (block_lt_of_cell x2)).trans x2; clear hb2 hO2))
  all_goals
   go_wp2_with fail
   go_meet
   exact ⟨HF.out.1, a2, cap2, rfl, rfl, HF.out.2⟩
 obtain ⟨hb12, a2, cap2, rfl, rfl, hO2⟩ := hcut.out
 clear hcut
 have HR2 : Hid (Row wc B 99 #[.int .i64 0, .slice none 0 0, .slice none 0 0, .string ⟨#[]⟩]) := HR1.out.below hb12 HR1.out.lt
 have y1 := (hb12.cell (p := ⟨g, 1, none⟩) (block_lt_of_cell x1)).trans x1
 have KB2 : Hid (Below w.heap.size w wc) := below2 KB1.out hb12
 have HO2 : Hid (OwnT wc w.heap.size a2 (bdR (Q 0).k (Q 0).n (zsQ c Q) c (sQ Q)) cap2 (alQ c Q)) := OwnT.base hO2 KB1.out.size
 have HO2b : Hid (OwnT wc w1.heap.size a2 (bdR (Q 0).k (Q 0).n (zsQ c Q) c (sQ Q)) cap2 (alQ c Q)) := hO2
 clear hb12 hO2 x1 x2 KBD HR1
 by_cases hr : Rgt (Q 0).k (Q 0).n (zsQ c Q) c (sQ Q)
 case neg =>
  rw [rgt_no hr]
  have KN : Hid _ := need_no 2 wc
  have hno : ¬ Cm root c Q := fun h => hr h.1
  clear y1 HR2
  go_wp2_with fail
  refine Calls.mono KN.out ?_
  rintro e w' ⟨rfl, rfl⟩
  go_wp2
  simp [bodyPost, hno]
  exact KB2.out
 rw [rgt_yes hr]
 have hpar := sprOk_parts hr.1
 have hR : bdR (Q 0).k (Q 0).n (zsQ c Q) c (sQ Q) = (Q 0).n.toNat := by unfold bdR; rw [rgt_yes hr, if_pos rfl]
 rw [hR] at HO2 HO2b ⊢
 have KN : Hid _ := need_ok 2 wc
 have HNL : Hid ((Q 0).n.toNat ≤ 64) := by show (Q 0).n.toNat ≤ 64; omega
 have KBI : Hid (Calls Tryz.prog 82 #[.int .i64 (Q 0).k, .slice a2 (Q 0).n.toNat cap2] wc fun e w' => ∃ G, e = .returned (.agg #[.int .i64 (Q 0).k, .slice a2 (Q 0).n.toNat cap2, .slice (some ⟨G, 0, none⟩) (Q 0).n.toNat (Q 0).n.toNat, .string (rtQ c Q)]) ∧ OwnT w' wc.heap.size (some ⟨G, 0, none⟩) (Q 0).n.toNat (Q 0).n.toNat (lvs (Q 0).k (Q 0).n.toNat (alQ c Q)) ∧ Below wc.heap.size wc w') := bind_any (Q 0).k a2 (Q 0).n.toNat cap2 (alQ c Q) wc (OwnT.at HO2.out) HNL.out (fun i _ => by unfold alQ bdS; rw [bod_size]; exact HS.out)
 have HCm : Hid (Cm root c Q ↔ rtQ c Q = root) := ⟨fun h => h.2, fun h => ⟨hr, h⟩⟩
 generalize rtQ c Q = rt at KBI HCm
 clear hr hR hpar HNL
 go_wp2_with fail
 refine Calls.mono KN.out ?_
 rintro e w' ⟨rfl, rfl⟩
 go_wp2_with fail
 refine Calls.mono KBI.out ?_
 rintro e w3 ⟨G, rfl, hO3, hb3⟩
 obtain ⟨D, HD⟩ : ∃ x, Hid (x = w3.heap.size) := ⟨_, rfl⟩
 obtain ⟨w4, HW4⟩ : ∃ x, Hid (x = w3.alloc (.cells #[.int .i64 (Q 0).k, .slice a2 (Q 0).n.toNat cap2, .slice (some ⟨G, 0, none⟩) (Q 0).n.toNat (Q 0).n.toNat, .string rt] 99)) := ⟨_, rfl⟩
 have HR4 : Hid (Row w4 D 99 #[.int .i64 (Q 0).k, .slice a2 (Q 0).n.toNat cap2, .slice (some ⟨G, 0, none⟩) (Q 0).n.toNat (Q 0).n.toNat, .string rt]) := by show Row _ _ _ _; rw [HW4.out, HD.out]; exact Row.new w3 _ _
 have b34 : Below w3.heap.size w3 w4 := by rw [HW4.out]; exact (Below.refl _ _).alloc (Nat.le_refl _) _
 have b24 := below2 hb3 b34
 have lB := HR2.out.lt
 have HRB : Hid (Row w4 B 99 #[.int .i64 0, .slice none 0 0, .slice none 0 0, .string ⟨#[]⟩]) := HR2.out.below b24 lB
 have KB4 : Hid (Below w.heap.size w w4) := below2 KB2.out b24
 have hGl := World.ownsRow.lt hO3 G rfl
 have hGB : G ≠ B := by omega
 have hA2 : ∀ x, a2 = some x → x.block ≠ B := fun x e => by
  subst e
  have h1 := (World.ownsRow.lt HO2b.out x.block rfl).1
  omega
 have HO4 : Hid (OwnT w4 w.heap.size a2 (Q 0).n.toNat cap2 (alQ c Q)) := HO2.out.below b24
 have HO5 : Hid (OwnT w4 w.heap.size (some ⟨G, 0, none⟩) (Q 0).n.toNat (Q 0).n.toNat (lvs (Q 0).k (Q 0).n.toNat (alQ c Q))) := OwnT.base (hO3.below b34) KB2.out.size
 have q0 := HRB.out.cell 0
 have q1 := HRB.out.cell 1
 have q2 := HRB.out.cell 2
 have q3 := HRB.out.cell 3
 have f0 := HRB.out.free 0
 have f1 := HRB.out.free 1
 have f2 := HRB.out.free 2
 have f3 := HRB.out.free 3
 have r0 := HR4.out.cell 0
 have r1 := HR4.out.cell 1
 have r2 := HR4.out.cell 2
 have r3 := HR4.out.cell 3
 simp at q0 q1 q2 q3 r0 r1 r2 r3
 clear hO3 hb3 b34 b24 y1 KBI KN
 by_cases he : rt = root
 case neg =>
  have nr : (rt.toList == root.toList) = false := ba_ne he
  have hno : ¬ Cm root c Q := fun h => he (HCm.out.1 h)
  have KN : Hid _ := need_no 2 w4
  go_wp2_with fail
  rw [← HW4.out]
  refine Calls.mono KN.out ?_
  rintro e w' ⟨rfl, rfl⟩
  clear q0 q1 q2 q3 r0 r1 r2 r3
  go_wp2
  simp [bodyPost, hno]
  exact KB4.out
 subst he
 have nr := ba_beq rt
 have hyes : Cm rt c Q := HCm.out.2 rfl
 have KN : Hid _ := need_ok 2 w4
 go_wp2_with fail
 rw [← HW4.out, ← HD.out]
 refine Calls.mono KN.out ?_
 rintro e w' ⟨rfl, rfl⟩
 have ZR : Hid (Row ((((w'.setCell ⟨B, 0, none⟩ (.int .i64 (Q 0).k)).setCell ⟨B, 1, none⟩ (.slice a2 (Q 0).n.toNat cap2)).setCell ⟨B, 2, none⟩ (.slice (some ⟨G, 0, none⟩) (Q 0).n.toNat (Q 0).n.toNat)).setCell ⟨B, 3, none⟩ (.string rt)) B 99 #[.int .i64 (Q 0).k, .slice a2 (Q 0).n.toNat cap2, .slice (some ⟨G, 0, none⟩) (Q 0).n.toNat (Q 0).n.toNat, .string rt]) := (((HRB.out.set 0 _).set 1 _).set 2 _).set 3 _
 have set1 : ∀ (W : World) (o : Nat) (v : Value), OwnT W w.heap.size (some ⟨G, 0, none⟩) (Q 0).n.toNat (Q 0).n.toNat (lvs (Q 0).k (Q 0).n.toNat (alQ c Q)) → OwnT (W.setCell ⟨B, o, none⟩ v) w.heap.size (some ⟨G, 0, none⟩) (Q 0).n.toNat (Q 0).n.toNat (lvs (Q 0).k (Q 0).n.toNat (alQ c Q)) := fun W o v hW => own_kept hW (grown_set _ _ _ _) (fun x e => by cases e; exact hGB)
 have set2 : ∀ (W : World) (o : Nat) (v : Value), OwnT W w.heap.size a2 (Q 0).n.toNat cap2 (alQ c Q) → OwnT (W.setCell ⟨B, o, none⟩ v) w.heap.size a2 (Q 0).n.toNat cap2 (alQ c Q) := fun W o v hW => own_kept hW (grown_set _ _ _ _) hA2
 have ZO : Hid (OwnT ((((w'.setCell ⟨B, 0, none⟩ (.int .i64 (Q 0).k)).setCell ⟨B, 1, none⟩ (.slice a2 (Q 0).n.toNat cap2)).setCell ⟨B, 2, none⟩ (.slice (some ⟨G, 0, none⟩) (Q 0).n.toNat (Q 0).n.toNat)).setCell ⟨B, 3, none⟩ (.string rt)) w.heap.size (some ⟨G, 0, none⟩) (Q 0).n.toNat (Q 0).n.toNat (lvs (Q 0).k (Q 0).n.toNat (alQ c Q))) := set1 _ _ _ (set1 _ _ _ (set1 _ _ _ (set1 _ _ _ HO5.out)))
 have ZA : Hid (OwnT ((((w'.setCell ⟨B, 0, none⟩ (.int .i64 (Q 0).k)).setCell ⟨B, 1, none⟩ (.slice a2 (Q 0).n.toNat cap2)).setCell ⟨B, 2, none⟩ (.slice (some ⟨G, 0, none⟩) (Q 0).n.toNat (Q 0).n.toNat)).setCell ⟨B, 3, none⟩ (.string rt)) w.heap.size a2 (Q 0).n.toNat cap2 (alQ c Q)) := set2 _ _ _ (set2 _ _ _ (set2 _ _ _ (set2 _ _ _ HO4.out)))
 clear set1 set2
 go_wp2
 refine bodyPost_ret (v := .agg #[.int .i64 (Q 0).k, .slice a2 (Q 0).n.toNat cap2, .slice (some ⟨G, 0, none⟩) (Q 0).n.toNat (Q 0).n.toNat, .string rt]) (results_cell_row Tryz.results58 _ _ B 99 _ (0, 0) _ (by simp) ZR.out Tryz.underlying99 (by rfl) Tryz.infoCut) rfl ⟨?_, .inr ⟨hyes, a2, cap2, G, rfl, ZA.out, ZO.out⟩⟩
 exact Below.setCell (Below.setCell (Below.setCell (Below.setCell KB4.out hBw _) hBw _) hBw _) hBw _
def laidE : List (String × DataW Unit) := [("errors.errorType", Rows.laid_errors_errorType)]
theorem Tryz.et : Tryz.prog.globalNamed "errors.errorType" = some 0 := by kernel_rfl
theorem Tryz.rt0 : (Tryz.prog.cutTypes.find? (·.1 == "internal/reflectlite.rtype")).map (·.2) = some 194 := by kernel_rfl
theorem Tryz.oneRow : ((List.range 306).filter fun t => Tryz.prog.rowNamed t [101, 114, 114, 111, 114]) = [127] := by kernel_rfl
theorem Tryz.tsize : Tryz.prog.types.size = 306 := by kernel_rfl
theorem errT_of_laid {W : World} (h : laidMetH Tryz.prog laidE W) : ErrT W := by
 have h' : laidMet Tryz.prog [] W ∧ handlesMet Tryz.prog laidE W := h
 obtain ⟨name, u, ty, e1, e2, e3, e4, e5⟩ := h'.2 _ (List.mem_singleton.2 rfl)
 have en : name = [101, 114, 114, 111, 114] := (Option.some.inj e1).symm
 subst en
 obtain rfl := Option.some.inj (Tryz.rt0.symm.trans e2)
 have hm : ty ∈ (List.range 306).filter fun t => Tryz.prog.rowNamed t [101, 114, 114, 111, 114] := List.mem_filter.2 ⟨List.mem_range.2 (by rw [← Tryz.tsize]; exact e3), e4⟩
 rw [Tryz.oneRow] at hm
 obtain rfl := List.mem_singleton.1 hm
 have hh : typeHandle Tryz.prog 127 = .pointer (some ⟨1, 127, none⟩) := by kernel_rfl
 rw [hh] at e5
 have := World.var?_cell Tryz.et e5 0
 show World.cell? _ _ = _
 simpa using this
noncomputable def laidWorld (os : Os) : World :=
 let w0 := World.holding Tryz.prog os ⟨#[], #[], []⟩
 { w0 with heap := w0.heap.modify 0 fun
   | .cells _ t frozen => .cells #[.iface 194 (.agg #[.pointer (some ⟨1, 127, none⟩)])] t frozen
   | o => o }
theorem laidWorld_met (os : Os) (args : Array Value) : laidMetH Tryz.prog laidE ((laidWorld os).forCall (fun _ _ => 0) ⟨#[], args, []⟩).memory :=
 laidMetH_of_parts (laidMet_nil _ _) (by kernel_rfl)
def qL (P : Nat → Pc) (L : List Nat) (j : Nat) : Pc := P (L.getD j 0)
theorem getD_memL {L : List Nat} {j : Nat} (h : j < L.length) : L.getD j 0 ∈ L := by
 rw [List.getD_eq_getElem?_getD, List.getElem?_eq_getElem h]
 exact List.getElem_mem h
theorem pok_k {P : Nat → Pc} {x : Nat} (h : pok P x = true) : kOk (P x).k (P x).n (P x).b := Classical.byContradiction fun hno => by
 unfold pok at h
 rw [okP_no hno] at h
 cases h
def RgE (root : ByteArray) (K : Nat) (Q : Nat → Pc) (e : Ending) : Prop :=
 (¬ Cm root K Q ∧ e = .returned (.tuple #[.string ⟨#[]⟩, .int .i64 2])) ∨
 (Cm root K Q ∧ dcB (Q 0).k (Q 0).n (zsQ K Q) K (sQ Q) = false ∧ e = .returned (.tuple #[.string ⟨#[]⟩, .int .i64 2])) ∨
 (Cm root K Q ∧ dcB (Q 0).k (Q 0).n (zsQ K Q) K (sQ Q) = true ∧ e = .returned (.tuple #[.string (dcS (Q 0).k (Q 0).n (zsQ K Q) K (sQ Q)), .int .i64 0]))
theorem regain_any (root : ByteArray) (a : Option Addr) (n cap : Nat) (A : Nat → Option Addr) (C : Nat → Nat) (P : Nat → Pc) (w : World) (h : PiA w a n A C P) (hE : ErrT w) (hn : n ≤ 1048576) (hm : ∀ i, i < n → (P i).m ≤ 1048576) (hL : ∀ i, i < n → ∀ j, j < (P i).m → ((P i).S j).size ≤ maxLen) (hsort : SortOk P A C) :
  Calls Tryz.prog 40 #[.string root, .slice a n cap] w fun e w' => Below w.heap.size w w' ∧ ((enB root n P = false ∧ e = .returned (.tuple #[.string ⟨#[]⟩, .int .i64 1])) ∨ (enB root n P = true ∧ ∃ L : List Nat, L.Perm (gsel root P n) ∧ (∀ x y, x < y → y < L.length → (P (L.getD x 0)).i ≤ (P (L.getD y 0)).i) ∧ RgE root (enK root n P).toNat (qL P L) e)) := by
 have hmf : ∀ (fn : Fn) (first cap : Array Value) (w : World), (Instr.makeFunc fn first cap).run Tryz.prog w = .ok (.func fn first cap) w := fun _ _ _ _ => rfl
 obtain ⟨B, HB⟩ : ∃ x, Hid (x = w.heap.size) := ⟨_, rfl⟩
 obtain ⟨w0, HW0⟩ : ∃ x, Hid (x = w.alloc (.cells #[.int .i64 0] 3)) := ⟨_, rfl⟩
 have c0 : w0.cell? ⟨B, 0, none⟩ = some (.int .i64 0) := by rw [HW0.out, HB.out]; simp
 have f0 : w0.frozen? ⟨B, 0, none⟩ = false := by rw [HW0.out, HB.out]; simp
 have b0 : Below w.heap.size w w0 := by rw [HW0.out]; exact (Below.refl _ _).alloc (Nat.le_refl _) _
 have hBw : w.heap.size ≤ B := by rw [HB.out]; exact Nat.le_refl _
 have lB : B < w0.heap.size := block_lt_of_cell c0
 have KB0 : Hid (Below w.heap.size w w0) := b0
 have KE : Hid (ErrT w0) := hE.below b0
 have KC0 : Hid (w0.cell? ⟨B, 0, none⟩ = some (.int .i64 0) ∧ w0.frozen? ⟨B, 0, none⟩ = false) := ⟨c0, f0⟩
 have KEN : Hid _ := enough_any root a n cap A C P w0 (h.below b0) hn hm hL hsort
 have KD : Hid (∀ W, Below w0.heap.size w0 W → ErrT W ∧ W.cell? ⟨B, 0, none⟩ = some (.int .i64 0) ∧ W.frozen? ⟨B, 0, none⟩ = false ∧ Below w.heap.size w W) := fun W hW => ⟨KE.out.below hW, (hW.cell (p := ⟨B, 0, none⟩) lB).trans c0, (World.frozen?_of_block (a := ⟨B, 0, none⟩) (hW.block _ lB)).trans f0, below2 KB0.out hW⟩
 clear h hE hm hL hsort b0 c0 f0
 go_enter_defers Tryz.func40, Tryz.ntmps40
 go_wp2_with fail
 rw [← HW0.out, ← HB.out]
 refine Calls.mono KEN.out ?_
 rintro e w1 ⟨hb1, h1⟩
 rcases h1 with ⟨hen, rfl⟩ | ⟨hen, g, cc, L, rfl, hp, hso, hcc, hO⟩
 ·obtain ⟨d1, d2, d3, d4⟩ := KD.out w1 hb1
  go_wp2
  refine leaves_cons (f := 55) (args := #[.pointer (some ⟨B, 0, none⟩)]) (by simp) (by simp [go_sem]) ?_
  refine (catchR_panicking ⟨B, 0, none⟩ _ 1 [] _ d1 d2 d3).mono ?_
  rintro e u' w'' ⟨rfl, rfl, W, hW, rfl⟩
  have z := World.cell?_setCell_same W ⟨B, 0, none⟩ (.int .i64 1) ((hW.cell (p := ⟨B, 0, none⟩) (block_lt_of_cell d2)).trans d2)
  simp [Leaves, settle, results, Tryz.results40, go_sem, z, hen]
  exact (below2 d4 hW).setCell hBw _
 ·have hlen : L.length = (gsel root P n).length := hp.length_eq
  have hpart : n ≤ 64 ∧ gsel root P n ≠ [] ∧ enK root n P ≤ ((gsel root P n).length : Int) := by
   unfold enB at hen
   simp only [Bool.and_eq_true, decide_eq_true_eq] at hen
   exact ⟨hen.1.1, hen.1.2, hen.2⟩
  have hgl := gsel_len root P n
  have hg0 : 0 < (gsel root P n).length := List.length_pos_iff.2 hpart.2.1
  have hfst : (gsel root P n).getD 0 0 ∈ gsel root P n := getD_memL hg0
  have hk1 : 1 ≤ enK root n P := (pok_k (gsel_mem hfst).2.2).1
  have hL0 := (pok_k (gsel_mem (hp.mem_iff.1 (getD_memL (L := L) (j := 0) (by omega)))).2.2).2.2.2.2
  have HQb : Hid ((qL P L 0).b.size ≤ 1048576) := Nat.le_trans hL0 (by omega)
  obtain ⟨K, HK⟩ : ∃ x, Hid ((enK root n P).toNat = x) := ⟨_, rfl⟩
  have hK0 : 0 < K := by rw [← HK.out]; omega
  have hK64 : K ≤ 64 := by rw [← HK.out]; omega
  have hKL : K ≤ L.length := by rw [← HK.out]; omega
  rw [HK.out]
  obtain ⟨Q, HQ⟩ : ∃ x, Hid (qL P L = x) := ⟨_, rfl⟩
  have HCell : Hid (∀ W, Below w1.heap.size w1 W → ∀ j q, j < K → q < 6 → W.cell? ⟨g, j * 6 + q, none⟩ = some (cel (Q j) (.slice (A (L.getD j 0)) (Q j).m (C (L.getD j 0))) q)) := fun W hW j q hj hq => by
   rw [← HQ.out]
   exact OwnC.cell (OwnC.below hO hW) (by omega) hq
  have HQ0 : Hid ((Q 0).b.size ≤ 1048576) := by rw [← HQ.out]; exact HQb.out
  have HFin : Hid (∀ e, RgE root K Q e → (enB root n P = false ∧ e = .returned (.tuple #[.string ⟨#[]⟩, .int .i64 1])) ∨ (enB root n P = true ∧ ∃ L : List Nat, L.Perm (gsel root P n) ∧ (∀ x y, x < y → y < L.length → (P (L.getD x 0)).i ≤ (P (L.getD y 0)).i) ∧ RgE root (enK root n P).toNat (qL P L) e)) := fun e he => .inr ⟨hen, L, hp, hso, by rw [HK.out, HQ.out]; exact he⟩
  have KCm : Hid _ := completed_any root g K cc Q (fun j => A (L.getD j 0)) (fun j => C (L.getD j 0)) w1 (HCell.out w1 (Below.refl _ _)) hK0 hK64 HQ0.out
  have KB1 : Hid (Below w0.heap.size w0 w1) := hb1
  clear hO hp hso hcc hb1 hlen hpart hgl hg0 hfst hk1 hL0 HQb HQ HK hen KEN
  go_wp2_with fail
  refine Calls.mono KCm.out ?_
  rintro e w2 ⟨hb2, h2⟩
  have hb12 := hb2
  have hb02 := below2 KB1.out hb2
  obtain ⟨N, HN⟩ : ∃ x, Hid ((Q 0).n.toNat = x) := ⟨_, rfl⟩
  rw [HN.out] at h2
  rcases h2 with ⟨hcm, rfl⟩ | ⟨hcm, a2, cap2, G, rfl, hO1, hO2⟩
  ·obtain ⟨d1, d2, d3, d4⟩ := KD.out w2 hb02
   go_wp2
   refine leaves_cons (f := 55) (args := #[.pointer (some ⟨B, 0, none⟩)]) (by simp) (by simp [go_sem]) ?_
   refine (catchR_panicking ⟨B, 0, none⟩ _ 2 [] _ d1 d2 d3).mono ?_
   rintro e u' w'' ⟨rfl, rfl, W, hW, rfl⟩
   have z := World.cell?_setCell_same W ⟨B, 0, none⟩ (.int .i64 2) ((hW.cell (p := ⟨B, 0, none⟩) (block_lt_of_cell d2)).trans d2)
   have hf := HFin.out _ (.inl ⟨hcm, rfl⟩)
   simp [Leaves, settle, results, Tryz.results40, go_sem, z]
   exact ⟨(below2 d4 hW).setCell hBw _, by simpa using hf⟩
  ·have hsp := sprOk_parts hcm.1.1
   have hnn : (N : Int) = (Q 0).n := by rw [← HN.out]; exact Int.toNat_of_nonneg (by omega)
   obtain ⟨D, HD⟩ : ∃ x, Hid (x = w2.heap.size) := ⟨_, rfl⟩
   obtain ⟨w3, HW3⟩ : ∃ x, Hid (x = w2.alloc (.cells #[.int .i64 (Q 0).k, .slice a2 N cap2, .slice (some ⟨G, 0, none⟩) N N, .string root] 99)) := ⟨_, rfl⟩
   have HR3 : Hid (Row w3 D 99 #[.int .i64 (Q 0).k, .slice a2 N cap2, .slice (some ⟨G, 0, none⟩) N N, .string root]) := by show Row _ _ _ _; rw [HW3.out, HD.out]; exact Row.new w2 _ _
   have b23 : Below w2.heap.size w2 w3 := by rw [HW3.out]; exact (Below.refl _ _).alloc (Nat.le_refl _) _
   have KB3 : Hid (Below w0.heap.size w0 w3) := below2 hb02 b23
   have KLO : Hid _ := laidOut_any g K cc Q (fun j => A (L.getD j 0)) (fun j => C (L.getD j 0)) w3 (HCell.out w3 (below2 hb12 b23)) hK64
   have HCM : Hid (Cm root K Q) := hcm
   have lD := HR3.out.lt
   clear hO1 hO2 hb2 hb12 hb02 b23 HCell KCm hcm
   go_wp2_with fail
   rw [← HW3.out, ← HD.out]
   refine Calls.mono KLO.out ?_
   rintro e w4 ⟨g1, g2, rfl, hI, hT, hb4⟩
   have HR4 : Hid (Row w4 D 99 #[.int .i64 (Q 0).k, .slice a2 N cap2, .slice (some ⟨G, 0, none⟩) N N, .string root]) := HR3.out.below hb4 lD
   have r0 := HR4.out.cell 0
   have r1 := HR4.out.cell 1
   simp at r0 r1
   have KDC : Hid (Calls Tryz.prog 60 #[.int .i64 (Q 0).k, .int .i64 (N : Int), .slice (some ⟨g1, 0, none⟩) K K, .slice (some ⟨g2, 0, none⟩) K K] w4 fun e w' => e = .returned (.tuple #[.string (dcS (Q 0).k (Q 0).n (zsQ K Q) K (sQ Q)), .bool (dcB (Q 0).k (Q 0).n (zsQ K Q) K (sQ Q))]) ∧ Below w4.heap.size w4 w') := by
    show Calls _ _ _ _ _
    rw [hnn]
    exact decode_any (Q 0).k (Q 0).n (some ⟨g1, 0, none⟩) K K (zsQ K Q) (some ⟨g2, 0, none⟩) K K (sQ Q) w4 hI hT (by omega) (by omega) (fun _ => HQ0.out)
   have KB4 : Hid (Below w0.heap.size w0 w4) := below2 KB3.out hb4
   clear hI hT hb4 KLO HR3 hnn
   go_wp2_with fail
   refine Calls.mono KDC.out ?_
   rintro e w5 ⟨rfl, hb5⟩
   have hb05 := below2 KB4.out hb5
   obtain ⟨d1, d2, d3, d4⟩ := KD.out w5 hb05
   clear r0 r1 KDC
   obtain ⟨ok, HOK⟩ : ∃ x, Hid (dcB (Q 0).k (Q 0).n (zsQ K Q) K (sQ Q) = x) := ⟨_, rfl⟩
   rw [HOK.out]
   cases ok with
   | false =>
    have hf := HFin.out _ (.inr (.inl ⟨HCM.out, HOK.out, rfl⟩))
    go_wp2_with fail
    refine Calls.mono (need_no 2 w5) ?_
    rintro e w' ⟨rfl, rfl⟩
    go_wp2
    refine leaves_cons (f := 55) (args := #[.pointer (some ⟨B, 0, none⟩)]) (by simp) (by simp [go_sem]) ?_
    refine (catchR_panicking ⟨B, 0, none⟩ _ 2 [] _ d1 d2 d3).mono ?_
    rintro e u' w'' ⟨rfl, rfl, W, hW, rfl⟩
    have z := World.cell?_setCell_same W ⟨B, 0, none⟩ (.int .i64 2) ((hW.cell (p := ⟨B, 0, none⟩) (block_lt_of_cell d2)).trans d2)
    simp [Leaves, settle, results, Tryz.results40, go_sem, z]
    exact ⟨(below2 d4 hW).setCell hBw _, by simpa using hf⟩
   | true =>
    have hf := HFin.out _ (.inr (.inr ⟨HCM.out, HOK.out, rfl⟩))
    obtain ⟨tx, HTX⟩ : ∃ x, Hid (dcS (Q 0).k (Q 0).n (zsQ K Q) K (sQ Q) = x) := ⟨_, rfl⟩
    rw [HTX.out] at hf ⊢
    go_wp2_with fail
    refine Calls.mono (need_ok 2 w5) ?_
    rintro e w' ⟨rfl, rfl⟩
    go_wp2
    refine leaves_cons (f := 55) (args := #[.pointer (some ⟨B, 0, none⟩)]) (by simp) (by simp [go_sem]) ?_
    have z1 := World.cell?_setCell_same w' ⟨B, 0, none⟩ (.int .i64 0) d2
    have z2 : (w'.setCell ⟨B, 0, none⟩ (.int .i64 0)).frozen? ⟨B, 0, none⟩ = false := by simpa using d3
    refine (catchR_idle ⟨B, 0, none⟩ _ _ z1 z2).mono ?_
    rintro e u' w'' ⟨rfl, rfl, rfl⟩
    have z := World.cell?_setCell_same (w'.setCell ⟨B, 0, none⟩ (.int .i64 0)) ⟨B, 0, none⟩ (.int .i64 0) z1
    simp [Leaves, settle, results, Tryz.results40, go_sem, z]
    exact ⟨(d4.setCell hBw _).setCell hBw _, by simpa using hf⟩
theorem zL_snoc (f : Nat → Int) (n : Nat) : zL f (n + 1) = zL f n ++ [Value.int .i64 (f n)] := by
 unfold zL
 rw [List.range_succ, List.map_append]
 rfl
def SbI (w : World) (B g1 c1 g2 c2 j : Nat) (Q : Nat → Pc) : Prop := w.ownsRow B 3 1 (.slice (some ⟨g1, 0, none⟩) j c1) j (zL (fun x => (Q x).i) j) ∧ OwnT w B (some ⟨g2, 0, none⟩) j c2 (sQ Q) ∧ g1 ≠ g2
theorem SbI.ints {w : World} {B g1 c1 g2 c2 j : Nat} {Q : Nat → Pc} (h : SbI w B g1 c1 g2 c2 j Q) : IntsAt w (some ⟨g1, 0, none⟩) j (zsQ j Q) := by
 refine ⟨by simp [zsQ], fun i hi => ⟨g1, 0, rfl, ?_⟩⟩
 rw [Nat.zero_add, World.ownsRow.cellAt h.1 i (by omega), zL_get _ _ _ hi]
 simp [zsQ, hi]
theorem own_ne {g1 g2 g3 H j c1 : Nat} (hat : (Value.slice (some ⟨g1, 0, none⟩) j c1).ownBlock = some g3 ∨ g3 = H) (h : g1 ≠ g2) (h2 : g2 < H) : g3 ≠ g2 := by
 rcases hat with e | e
 ·have e' : g1 = g3 := by simpa [Value.ownBlock] using e
  omega
 ·omega
theorem sBod_any (root : ByteArray) (g c cc : Nat) (Q : Nat → Pc) (A : Nat → Option Addr) (C : Nat → Nat) (w : World) (hcell : ∀ j q, j < c → q < 6 → w.cell? ⟨g, j * 6 + q, none⟩ = some (cel (Q j) (.slice (A j) (Q j).m (C j)) q)) (hc0 : 0 < c) (hc : c ≤ 64) (hS : (Q 0).b.size ≤ 1048576) :
  Calls Tryz.prog 49 #[.string root, .slice (some ⟨g, 0, none⟩) c cc] w fun e w' => Below w.heap.size w w' ∧ ((¬ Cm root c Q ∧ ∃ g', e = .returned (.tuple #[.slice (some ⟨g', 0, none⟩) 0 0, .int .i64 2])) ∨ (Cm root c Q ∧ ∃ v, e = .returned (.tuple #[v, .int .i64 0]) ∧ ResP w w' v (Q 0).n.toNat (cutP (Q 0).k (Q 0).n.toNat (alQ c Q)))) := by
 obtain ⟨i0, hi, hz0, hz1, hz2⟩ := info_parts Tryz.infoInt
 obtain ⟨j0, hj, hy0, hy1, hy2⟩ := info_parts Tryz.infoStr
 have HCe : Hid (∀ j q, j < c → q < 6 → w.cell? ⟨g, j * 6 + q, none⟩ = some (cel (Q j) (.slice (A j) (Q j).m (C j)) q)) := hcell
 have hci : (0 : Int) < (c : Int) := by omega
 clear hcell
 go_enter Tryz.func49, Tryz.ntmps49
 go_wp2
 go_loopw [6, 7, 8] (fun v6 v7 v8 wr => ∃ j g1 c1 g2 c2 : Nat, j ≤ c ∧ v8 = .int .i64 (j : Int) ∧ v6 = .slice (some ⟨g1, 0, none⟩) j c1 ∧ v7 = .slice (some ⟨g2, 0, none⟩) j c2 ∧ SbI wr w.heap.size g1 c1 g2 c2 j Q ∧ Below w.heap.size w wr) (fun _ _ v8 _ => c - (intOf v8).toNat)
 case atStart =>
  refine ⟨0, w.heap.size, 0, w.heap.size + 1, 0, Nat.zero_le _, rfl, rfl, rfl, ⟨World.ownsRow.alloc (World.ownsRow_lit w #[] 0 (Nat.le_refl _) (by unfold maxLen; omega) (by simp)) _, ?_, by omega⟩, ((Below.refl _ _).alloc (Nat.le_refl _) _).alloc (by simp) _⟩
  have := OwnT.base (litT (w.alloc (.cells #[] 3)) (sQ Q)) (B' := w.heap.size) (by simp)
  simpa using this
 case round =>
  obtain ⟨j, g1, c1, g2, c2, hjc, rfl, rfl, rfl, hl, hbel⟩ := hrel
  by_cases hlt : j < c
  ·have hji : (j : Int) < (c : Int) := by omega
   have hsz := hbel.size
   have lg1 := World.ownsRow.lt hl.1 g1 rfl
   have lg2 := World.ownsRow.lt hl.2.1 g2 rfl
   have lgs := block_lt_of_cell (HCe.out j 3 hlt (by omega))
   have x3 := (hbel.cell (p := ⟨g, j * 6 + 3, none⟩) (block_lt_of_cell (HCe.out j 3 hlt (by omega)))).trans (HCe.out j 3 hlt (by omega))
   have x4w := HCe.out j 4 hlt (by omega)
   simp only [cel] at x3 x4w
   have hgw : g < w.heap.size := lgs
   obtain ⟨ii, HI⟩ : ∃ x, Hid ((Q j).i = x) := ⟨_, rfl⟩
   obtain ⟨bb, HBB⟩ : ∃ x, Hid ((Q j).b = x) := ⟨_, rfl⟩
   rw [HI.out] at x3
   rw [HBB.out] at x4w
   have hgg := hl.2.2
   have HL : Hid (OwnT wr w.heap.size (some ⟨g2, 0, none⟩) j c2 (sQ Q)) := hl.2.1
   have HBel : Hid (Below w.heap.size w wr) := hbel
   have hl1 := hl.1
   clear hl hbel
   go_wp2_with (first | (guard_hyp KA; at_builtin; refine wpList_append_lies _ (by rfl) _ _ 27 (by rfl) w.heap.size 9 j0 (.string ByteArray.empty) 1 16 Tryz.underlying27 hj hy0 hy1 hy2 rfl (by decide) (.slice (some ⟨g2, 0, none⟩) j c2) j _ (by rfl) (World.ownsRow.alloc KA.out.2.1 _) ⟨w2.heap.size, 0, none⟩ 1 1 [.string bb] (by rfl) (by rfl) (World.news_of_block (cs := #[.string bb]) (t := 9) (fr := (0, 0)) (heap_alloc_new w2 _)) (by simp [Value.oneCell']) (by omega) (by unfold maxLen; omega) (by omega) (by simp; omega) (w2.heap.size + 1) (by simp) ?_; intro g4 c4 w3 hown3 hgrow3 hat3 hltg3) | (at_builtin; refine wpList_append_lies _ (by rfl) _ _ 23 (by rfl) w.heap.size 3 i0 (.int .i64 0) 1 8 Tryz.underlying23 hi hz0 hz1 hz2 rfl (by decide) (.slice (some ⟨g1, 0, none⟩) j c1) j _ (by rfl) (World.ownsRow.alloc hl1 _) ⟨wr.heap.size, 0, none⟩ 1 1 [.int .i64 ii] (by rfl) (by rfl) (World.news_of_block (cs := #[.int .i64 ii]) (t := 3) (fr := (0, 0)) (heap_alloc_new wr _)) (by simp [Value.oneCell']) (by omega) (by unfold maxLen; omega) (by omega) (by simp; omega) (wr.heap.size + 1) (by simp) ?_; intro g3 c3 w2 hown2 hgrow hat hltg; have hb2 : Below w.heap.size w w2 := (HBel.out.alloc hsz _).grown (show World.grownBy _ w2 (some g1) from hgrow) (by simp; omega) (fun x hx => by cases hx; exact lg1.1); have x4 := (hb2.cell (p := ⟨g, j * 6 + 4, none⟩) hgw).trans x4w; have KA : Hid (w2.ownsRow w.heap.size 3 1 (.slice (some ⟨g3, 0, none⟩) (j + 1) c3) (j + 1) (zL (fun x => (Q x).i) j ++ [.int .i64 ii]) ∧ OwnT w2 w.heap.size (some ⟨g2, 0, none⟩) j c2 (sQ Q) ∧ Below w.heap.size w w2) := ⟨hown2, World.ownsRow.kept (World.ownsRow.alloc HL.out _) (show World.grownBy _ w2 (some g1) from hgrow) (.inr (by intro e; exact hgg (by simpa [Value.ownBlock] using e.symm))), hb2⟩; have hg3 : g3 ≠ g2 := own_ne hat hgg (Nat.lt_succ_of_lt lg2.2); have hsz2 := hb2.size; have lg3 := (World.ownsRow.lt hown2 g3 rfl); have lg2' : g2 < w2.heap.size := (World.ownsRow.lt KA.out.2.1 g2 rfl).2; clear hown2 hgrow hat hb2 x3))
   have KF : Hid (SbI w3 w.heap.size g3 c3 g4 c4 (j + 1) Q ∧ Below w.heap.size w w3) := by
    refine ⟨⟨?_, ?_, ?_⟩, (KA.out.2.2.alloc hsz2 _).grown (show World.grownBy _ w3 (some g2) from hgrow3) (by simp; omega) (fun x hx => by cases hx; exact lg2.1)⟩
    ·have := World.ownsRow.kept (World.ownsRow.alloc KA.out.1 _) (show World.grownBy _ w3 (some g2) from hgrow3) (.inr (by intro e; exact hg3 (by simpa [Value.ownBlock] using e)))
     rw [zL_snoc, HI.out]
     exact this
    ·unfold OwnT
     rw [sL_snoc, show sQ Q j = bb from HBB.out]
     exact hown3
    ·rcases hat3 with e | e
     ·have e' : g2 = g4 := by simpa [Value.ownBlock] using e
      omega
     ·omega
   clear hown3 hgrow3 hat3 KA x4 x4w hl1 HL
   go_roundw
   case rel => exact ⟨j + 1, g3, c3, g4, c4, by omega, by go_num, rfl, rfl, KF.out.1, KF.out.2⟩
   case measure => simp [intOf] <;> omega
  ·obtain rfl : j = c := by omega
   have KI : Hid (IntsAt wr (some ⟨g1, 0, none⟩) j (zsQ j Q)) := hl.ints
   have KT : Hid (TxtAt wr (some ⟨g2, 0, none⟩) j (sQ Q)) := OwnT.at hl.2.1
   have KB : Hid (Below w.heap.size w wr) := hbel
   have x1 := (hbel.cell (p := ⟨g, 0 * 6 + 1, none⟩) (block_lt_of_cell (HCe.out 0 1 hc0 (by omega)))).trans (HCe.out 0 1 hc0 (by omega))
   have x2 := (hbel.cell (p := ⟨g, 0 * 6 + 2, none⟩) (block_lt_of_cell (HCe.out 0 2 hc0 (by omega)))).trans (HCe.out 0 2 hc0 (by omega))
   simp only [cel, Nat.zero_mul, Nat.zero_add] at x1 x2
   clear hl hbel hi hz0 hz1 hz2 hj hy0 hy1 hy2
   go_wp2_with fail
   go_quiet (fail)
   go_wp2_with fail
   have KBD : Hid _ := sBodies_any (Q 0).k (Q 0).n (some ⟨g1, 0, none⟩) j c1 (zsQ j Q) (some ⟨g2, 0, none⟩) j c2 (sQ Q) (wr.drewN nq) (KI.out.below (below_drewN (Below.refl _ _) _)) (KT.out.below (below_drewN (Below.refl _ _) _)) (fun _ => hS)
   refine Calls.mono KBD.out ?_
   rintro e w2 ⟨v2, rfl, hR2, hb2⟩
   obtain ⟨a2, cap2, rfl, hO2⟩ := hR2
   have hb12 : Below wr.heap.size wr w2 := below2 (below_drewN (Below.refl _ _) _) hb2
   have KB2 : Hid (Below w.heap.size w w2) := below2 KB.out hb12
   have HO2 : Hid (TxtAt w2 a2 (bdR (Q 0).k (Q 0).n (zsQ j Q) j (sQ Q)) (alQ j Q)) := OwnT.at hO2
   clear hb12 hb2 hO2 x1 x2 KBD KI KT
   by_cases hr : Rgt (Q 0).k (Q 0).n (zsQ j Q) j (sQ Q)
   case neg =>
    rw [rgt_no hr]
    have hno : ¬ Cm root j Q := fun h => hr h.1
    go_wp2
    go_ret2
    exact ⟨KB2.out.alloc KB2.out.size _, .inl ⟨hno, _, rfl⟩⟩
   rw [rgt_yes hr]
   have hpar := sprOk_parts hr.1
   have hR : bdR (Q 0).k (Q 0).n (zsQ j Q) j (sQ Q) = (Q 0).n.toNat := by unfold bdR; rw [rgt_yes hr, if_pos rfl]
   obtain ⟨N, HN⟩ : ∃ x, Hid ((Q 0).n.toNat = x) := ⟨_, rfl⟩
   have hnn : (Q 0).n = (N : Int) := by rw [← HN.out]; exact (Int.toNat_of_nonneg (by omega)).symm
   rw [hR, HN.out] at HO2
   rw [hR, HN.out]
   have hN : N ≤ 64 ∧ 0 < N := by omega
   have hNi : (0 : Int) < (N : Int) := by omega
   have KAL : Hid (Calls Tryz.prog 69 #[.slice a2 N cap2, .int .i64 (Q 0).k, .int .i64 (Q 0).n] w2 fun e w' => ∃ v, e = .returned v ∧ ResP w2 w' v N (cutP (Q 0).k N (alQ j Q)) ∧ Below w2.heap.size w2 w') := by
    show Calls _ _ _ _ _
    rw [hnn]
    exact sAll_any (Q 0).k a2 N cap2 (alQ j Q) w2 HO2.out hN.1 (fun i _ => by unfold alQ bdS; rw [bod_size]; exact hS)
   have HCm : Hid (Cm root j Q ↔ rtQ j Q = root) := ⟨fun h => h.2, fun h => ⟨hr, h⟩⟩
   have HRT : Hid ((cutP (Q 0).k N (alQ j Q) 0).r = rtQ j Q) := by show (cutP (Q 0).k N (alQ j Q) 0).r = rtQ j Q; unfold rtQ; rw [HN.out]; rfl
   clear hpar hR hr hnn
   go_wp2_with fail
   refine Calls.mono KAL.out ?_
   rintro e w3 ⟨v3, rfl, hP, hb3⟩
   obtain ⟨g5, c5, A5, C5, rfl, hO5⟩ := hP
   have y0 := OwnC.cell hO5.1 (i := 0) (q := 0) hN.2 (by omega)
   simp only [cel, Nat.zero_mul, Nat.zero_add] at y0
   rw [HRT.out] at y0
   have KB3 : Hid (Below w.heap.size w w3) := below2 KB2.out hb3
   have KP : Hid (ResP w w3 (.slice (some ⟨g5, 0, none⟩) N c5) N (cutP (Q 0).k N (alQ j Q))) := ⟨g5, c5, A5, C5, rfl, OwnP.base hO5 KB2.out.size⟩
   generalize rtQ j Q = rt at y0 HCm HRT
   clear hO5 hb3 KAL HRT
   by_cases he : rt = root
   ·subst he
    have nr := ba_beq rt
    have HY : Hid (Cm rt j Q) := HCm.out.2 rfl
    clear HCm
    go_wp2
    go_ret2
    exact ⟨KB3.out, .inr ⟨HY.out, _, rfl, by rw [HN.out]; exact KP.out⟩⟩
   ·have nr : (rt.toList == root.toList) = false := ba_ne he
    go_wp2
    go_ret2
    exact ⟨KB3.out.alloc KB3.out.size _, .inl ⟨fun h => he (HCm.out.1 h), _, rfl⟩⟩
theorem asc_pair {P : Nat → Pc} {L : List Nat} (h : ∀ x y, x < y → y < L.length → (P (L.getD x 0)).i ≤ (P (L.getD y 0)).i) : L.Pairwise fun a b => (P a).i ≤ (P b).i := by
 rw [List.pairwise_iff_getElem]
 intro i j hi hj hij
 have := h i j hij hj
 rw [List.getD_eq_getElem?_getD, List.getD_eq_getElem?_getD, List.getElem?_eq_getElem hi, List.getElem?_eq_getElem hj] at this
 exact this
def OneEach (P : Nat → Pc) (G : List Nat) : Prop := ∀ a ∈ G, ∀ b ∈ G, (P a).i = (P b).i → a = b
theorem asc_one {P : Nat → Pc} {G L L' : List Nat} (hG : OneEach P G) (hp : L.Perm G) (hp' : L'.Perm G) (h : ∀ x y, x < y → y < L.length → (P (L.getD x 0)).i ≤ (P (L.getD y 0)).i) (h' : ∀ x y, x < y → y < L'.length → (P (L'.getD x 0)).i ≤ (P (L'.getD y 0)).i) : L = L' := by
 refine List.Perm.eq_of_pairwise (le := fun a b => (P a).i ≤ (P b).i) ?_ (asc_pair h) (asc_pair h') (hp.trans hp'.symm)
 intro a b ha hb h1 h2
 exact hG a (hp.mem_iff.1 ha) b (hp'.mem_iff.1 hb) (by omega)
theorem gsel_one (root : ByteArray) (P : Nat → Pc) (n : Nat) : OneEach P (gsel root P n) := by
 induction n with
 | zero => intro a ha; cases ha
 | succ c ih =>
  by_cases hp : (P c).r = root ∧ gwB (P c).k (P c).n (P c).i (gsel root P c).length (fun j => P ((gsel root P c).getD j 0)) = true ∧ pok P c = true
  ·rw [gsel_yes hp]
   have hg : GwP (P c).k (P c).n (P c).i (gsel root P c).length (fun j => P ((gsel root P c).getD j 0)) := Classical.byContradiction fun hno => by rw [gwB_no hno] at hp; cases hp.2.1
   have key : ∀ a ∈ gsel root P c, (P a).i ≠ (P c).i := fun a ha => by
    obtain ⟨j, hj, e⟩ := List.getElem_of_mem ha
    have h2 := (hg j hj).2.2
    simp only [List.getD_eq_getElem?_getD, List.getElem?_eq_getElem hj, Option.getD_some, e] at h2
    exact fun e' => h2 e'.symm
   intro a ha b hb hab
   rw [List.mem_append] at ha hb
   rcases ha with ha | ha <;> rcases hb with hb | hb
   ·exact ih a ha b hb hab
   ·obtain rfl : b = c := by simpa using hb
    exact absurd hab (key a ha)
   ·obtain rfl : a = c := by simpa using ha
    exact absurd hab.symm (key b hb)
   ·rw [show a = c by simpa using ha, show b = c by simpa using hb]
  ·rw [gsel_no hp]; exact ih
def fst1 (G : List Nat) : Int := match G with
 | [] => -1
 | x :: _ => (x : Int)
def atPl (P : Nat → Pc) (G : List Nat) (p : Nat) : Option Nat := G.find? fun x => decide ((P x).i = (p : Int))
def byV (P : Nat → Pc) (G : List Nat) (p : Nat) : Int := match atPl P G p with
 | some x => (x : Int)
 | none => -1
def lofP (P : Nat → Pc) (G : List Nat) (c : Nat) : List Nat := (List.range c).filterMap (atPl P G)
theorem fst1_app {G : List Nat} (c : Nat) : fst1 (G ++ [c]) = if G = [] then (c : Int) else fst1 G := by
 cases G <;> simp [fst1]
theorem fst1_get {G : List Nat} (h : G ≠ []) : fst1 G = ((G.getD 0 0 : Nat) : Int) := by
 cases G with
 | nil => exact absurd rfl h
 | cons x G => rfl
theorem byV_app (P : Nat → Pc) (G : List Nat) (c p : Nat) : byV P (G ++ [c]) p = if 0 ≤ byV P G p then byV P G p else if (P c).i = (p : Int) then (c : Int) else -1 := by
 unfold byV atPl
 rw [List.find?_append]
 cases h : List.find? (fun x => decide ((P x).i = (p : Int))) G with
 | some x => simp
 | none =>
  by_cases e : (P c).i = (p : Int)
  ·simp [e]
  ·simp [e]
theorem byV_nn {P : Nat → Pc} {G : List Nat} {p : Nat} : 0 ≤ byV P G p ↔ ∃ x, atPl P G p = some x := by
 unfold byV
 cases h : atPl P G p with
 | some x => simp
 | none => simp
theorem byV_some {P : Nat → Pc} {G : List Nat} {p x : Nat} (h : atPl P G p = some x) : byV P G p = (x : Int) := by unfold byV; rw [h]
theorem byV_none {P : Nat → Pc} {G : List Nat} {p : Nat} (h : atPl P G p = none) : byV P G p = -1 := by unfold byV; rw [h]
theorem atPl_mem {P : Nat → Pc} {G : List Nat} {p x : Nat} (h : atPl P G p = some x) : x ∈ G ∧ (P x).i = (p : Int) := ⟨List.mem_of_find?_eq_some h, by have := List.find?_some h; simpa using this⟩
theorem atPl_no {P : Nat → Pc} {G : List Nat} {p : Nat} (h : ¬ 0 ≤ byV P G p) : ∀ y ∈ G, (P y).i ≠ (p : Int) := by
 have h' : atPl P G p = none := by
  cases e : atPl P G p with
  | some x => exact absurd (byV_nn.2 ⟨x, e⟩) h
  | none => rfl
 intro y hy e
 have := List.find?_eq_none.1 h' y hy
 simp [e] at this
theorem gw_iff {P : Nat → Pc} {G : List Nat} {k n i : Int} : gwB k n i G.length (fun j => P (G.getD j 0)) = true ↔ ∀ y ∈ G, k = (P y).k ∧ n = (P y).n ∧ i ≠ (P y).i := by
 constructor
 ·intro h y hy
  have hg : GwP k n i G.length (fun j => P (G.getD j 0)) := Classical.byContradiction fun hno => by rw [gwB_no hno] at h; cases h
  obtain ⟨j, hj, e⟩ := List.getElem_of_mem hy
  have := hg j hj
  simp only [List.getD_eq_getElem?_getD, List.getElem?_eq_getElem hj, Option.getD_some, e] at this
  exact this
 ·intro h
  exact gwB_yes fun j hj => h _ (getD_memL hj)
theorem gsel_kn {root : ByteArray} {P : Nat → Pc} {n : Nat} : ∀ x ∈ gsel root P n, (P x).k = (P ((gsel root P n).getD 0 0)).k ∧ (P x).n = (P ((gsel root P n).getD 0 0)).n := by
 induction n with
 | zero => intro x hx; cases hx
 | succ c ih =>
  by_cases hp : (P c).r = root ∧ gwB (P c).k (P c).n (P c).i (gsel root P c).length (fun j => P ((gsel root P c).getD j 0)) = true ∧ pok P c = true
  ·rw [gsel_yes hp]
   intro x hx
   rw [List.mem_append] at hx
   by_cases he : gsel root P c = []
   ·rw [he] at hx ⊢
    rcases hx with hx | hx
    ·cases hx
    ·obtain rfl : x = c := by simpa using hx
     exact ⟨rfl, rfl⟩
   ·have hl : 0 < (gsel root P c).length := List.length_pos_iff.2 he
    have e0 : (gsel root P c ++ [c]).getD 0 0 = (gsel root P c).getD 0 0 := by
     rw [List.getD_eq_getElem?_getD, List.getD_eq_getElem?_getD, List.getElem?_append_left hl]
    rw [e0]
    rcases hx with hx | hx
    ·exact ih x hx
    ·obtain rfl : x = c := by simpa using hx
     have := gw_iff.1 hp.2.1 _ (getD_memL (L := gsel root P x) (j := 0) hl)
     exact ⟨this.1, this.2.1⟩
  ·rw [gsel_no hp]; exact ih
theorem gsel_step {root : ByteArray} {P : Nat → Pc} {c p : Nat} (hr : (P c).r = root) (ho : pok P c = true) (hi : (P c).i = (p : Int)) (hG : gsel root P c ≠ []) :
  gsel root P (c + 1) = if (P c).k = (P ((gsel root P c).getD 0 0)).k ∧ (P c).n = (P ((gsel root P c).getD 0 0)).n ∧ ¬ 0 ≤ byV P (gsel root P c) p then gsel root P c ++ [c] else gsel root P c := by
 have hl : 0 < (gsel root P c).length := List.length_pos_iff.2 hG
 by_cases hc : (P c).k = (P ((gsel root P c).getD 0 0)).k ∧ (P c).n = (P ((gsel root P c).getD 0 0)).n ∧ ¬ 0 ≤ byV P (gsel root P c) p
 ·rw [if_pos hc]
  refine gsel_yes ⟨hr, gw_iff.2 fun y hy => ?_, ho⟩
  have h1 := gsel_kn y hy
  exact ⟨by rw [h1.1]; exact hc.1, by rw [h1.2]; exact hc.2.1, fun e => atPl_no hc.2.2 y hy (by rw [← e, hi])⟩
 ·rw [if_neg hc]
  refine gsel_no fun h => hc ?_
  have h2 := gw_iff.1 h.2.1
  have h3 := h2 _ (getD_memL (L := gsel root P c) (j := 0) hl)
  refine ⟨h3.1, h3.2.1, fun hn => ?_⟩
  obtain ⟨x, hx⟩ := byV_nn.1 hn
  have h4 := atPl_mem hx
  exact (h2 x h4.1).2.2 (by rw [hi, h4.2])
theorem gsel_first {root : ByteArray} {P : Nat → Pc} {c : Nat} (hr : (P c).r = root) (ho : pok P c = true) (hG : gsel root P c = []) : gsel root P (c + 1) = [c] := by
 have := gsel_yes (root := root) (P := P) (c := c) ⟨hr, by rw [hG]; exact gwB_yes fun j hj => absurd hj (Nat.not_lt_zero _), ho⟩
 rw [hG] at this
 exact this
theorem gsel_skip {root : ByteArray} {P : Nat → Pc} {c : Nat} (h : (P c).r ≠ root ∨ pok P c = false) : gsel root P (c + 1) = gsel root P c := gsel_no fun h' => by
 rcases h with h | h
 ·exact h h'.1
 ·rw [h] at h'; cases h'.2.2
theorem pok_i {P : Nat → Pc} {x : Nat} (h : pok P x = true) : ∃ p : Nat, (P x).i = (p : Int) ∧ p < 16 := by
 have hk := pok_k h
 unfold pok at h
 rw [okP_yes hk] at h
 have h2 := pvB_parts h
 obtain ⟨p, hp⟩ := Int.eq_ofNat_of_zero_le h2.1
 exact ⟨p, hp, by have := hk.2.2.1; omega⟩
theorem lofP_succ (P : Nat → Pc) (G : List Nat) (c : Nat) : lofP P G (c + 1) = lofP P G c ++ (match atPl P G c with | some x => [x] | none => []) := by
 unfold lofP
 rw [List.range_succ, List.filterMap_append]
 congr 1
 cases h : atPl P G c <;> simp [h]
theorem lofP_asc (P : Nat → Pc) (G : List Nat) (c : Nat) : (lofP P G c).Pairwise fun x y => (P x).i < (P y).i := by
 unfold lofP
 rw [List.pairwise_filterMap]
 refine List.Pairwise.imp ?_ (List.pairwise_lt_range (n := c))
 intro p p' hpp x hx y hy
 rw [(atPl_mem hx).2, (atPl_mem hy).2]
 omega
theorem lofP_mem {P : Nat → Pc} {G : List Nat} (hG : OneEach P G) (hp : ∀ x ∈ G, ∃ p : Nat, (P x).i = (p : Int) ∧ p < 16) (x : Nat) : x ∈ lofP P G 16 ↔ x ∈ G := by
 unfold lofP
 rw [List.mem_filterMap]
 constructor
 ·rintro ⟨p, _, h⟩
  exact (atPl_mem h).1
 ·intro hx
  obtain ⟨p, e, hl⟩ := hp x hx
  refine ⟨p, List.mem_range.2 hl, ?_⟩
  cases h : atPl P G p with
  | none => exact absurd e (atPl_no (by rw [byV_none h]; omega) x hx)
  | some y =>
   have := atPl_mem h
   rw [hG y this.1 x hx (by rw [this.2, e])]
theorem asc_nodup {P : Nat → Pc} {L : List Nat} (h : L.Pairwise fun x y => (P x).i < (P y).i) : L.Nodup := List.Pairwise.imp (fun hxy e => by subst e; omega) h
theorem gsel_asc (root : ByteArray) (P : Nat → Pc) (n : Nat) : (gsel root P n).Nodup := by
 induction n with
 | zero => exact List.nodup_nil
 | succ c ih =>
  by_cases hp : (P c).r = root ∧ gwB (P c).k (P c).n (P c).i (gsel root P c).length (fun j => P ((gsel root P c).getD j 0)) = true ∧ pok P c = true
  ·rw [gsel_yes hp, List.nodup_append]
   refine ⟨ih, by simp, fun a ha b hb => ?_⟩
   obtain rfl : b = c := by simpa using hb
   have := (gsel_mem ha).1
   omega
  ·rw [gsel_no hp]; exact ih
theorem lofP_perm (root : ByteArray) (P : Nat → Pc) (n : Nat) : (lofP P (gsel root P n) 16).Perm (gsel root P n) := by
 rw [List.perm_iff_count]
 intro a
 rw [(asc_nodup (lofP_asc P _ 16)).count, (gsel_asc root P n).count]
 have := lofP_mem (gsel_one root P n) (fun x hx => pok_i (gsel_mem hx).2.2) a
 by_cases h : a ∈ gsel root P n
 ·rw [if_pos h, if_pos (this.2 h)]
 ·rw [if_neg h, if_neg (fun h' => h (this.1 h'))]
theorem asc_getD {P : Nat → Pc} {L : List Nat} (h : L.Pairwise fun x y => (P x).i < (P y).i) (x y : Nat) (hxy : x < y) (hy : y < L.length) : (P (L.getD x 0)).i ≤ (P (L.getD y 0)).i := by
 have := List.pairwise_iff_getElem.1 h x y (by omega) hy hxy
 rw [List.getD_eq_getElem?_getD, List.getD_eq_getElem?_getD, List.getElem?_eq_getElem (by omega), List.getElem?_eq_getElem hy]
 simp only [Option.getD_some]
 omega
def ChE (w' : World) (root : ByteArray) (n : Nat) (P : Nat → Pc) (A : Nat → Option Addr) (C : Nat → Nat) (e : Ending) : Prop :=
 (enB root n P = false ∧ ∃ v, e = .returned (.tuple #[v, .bool false])) ∨
 (enB root n P = true ∧ ∃ (g cc : Nat) (L : List Nat), e = .returned (.tuple #[.slice (some ⟨g, 0, none⟩) (enK root n P).toNat cc, .bool true]) ∧ L.Perm (gsel root P n) ∧ (∀ x y, x < y → y < L.length → (P (L.getD x 0)).i ≤ (P (L.getD y 0)).i) ∧ (∀ j q, j < (enK root n P).toNat → q < 6 → w'.cell? ⟨g, j * 6 + q, none⟩ = some (celp P A C (L.getD j 0) q)))
def ChOk (root : ByteArray) (a : Option Addr) (n cap : Nat) (P : Nat → Pc) (A : Nat → Option Addr) (C : Nat → Nat) (w : World) : Prop :=
 ∀ W, Below w.heap.size w W → Calls Tryz.prog 48 #[.string root, .slice a n cap] W fun e w' => Below W.heap.size W w' ∧ ChE w' root n P A C e
theorem en_parts {root : ByteArray} {n : Nat} {P : Nat → Pc} {L : List Nat} (hen : enB root n P = true) (hp : L.Perm (gsel root P n)) : 0 < (enK root n P).toNat ∧ (enK root n P).toNat ≤ 64 ∧ (enK root n P).toNat ≤ L.length ∧ (qL P L 0).b.size ≤ 1048576 := by
 have hlen : L.length = (gsel root P n).length := hp.length_eq
 have hpart : n ≤ 64 ∧ gsel root P n ≠ [] ∧ enK root n P ≤ ((gsel root P n).length : Int) := by
  unfold enB at hen
  simp only [Bool.and_eq_true, decide_eq_true_eq] at hen
  exact ⟨hen.1.1, hen.1.2, hen.2⟩
 have hgl := gsel_len root P n
 have hg0 : 0 < (gsel root P n).length := List.length_pos_iff.2 hpart.2.1
 have hk1 : 1 ≤ enK root n P := (pok_k (gsel_mem (getD_memL hg0)).2.2).1
 have hL0 := (pok_k (gsel_mem (hp.mem_iff.1 (getD_memL (L := L) (j := 0) (by omega)))).2.2).2.2.2.2
 exact ⟨by omega, by omega, by omega, Nat.le_trans hL0 (by omega)⟩
def byL (P : Nat → Pc) (G : List Nat) : List Value := (List.range 16).map fun p => .int .i64 (byV P G p)
theorem byL_len (P : Nat → Pc) (G : List Nat) : (byL P G).length = 16 := by simp [byL]
theorem byL_get (P : Nat → Pc) (G : List Nat) {p : Nat} (h : p < 16) : (byL P G)[p]? = some (.int .i64 (byV P G p)) := by simp [byL, h]
theorem byL_nil (P : Nat → Pc) : byL P [] = List.replicate 16 (.int .i64 (-1)) := by
 apply List.ext_getElem?
 intro i
 by_cases h : i < 16
 ·rw [byL_get P [] h, List.getElem?_replicate, if_pos h]
  rfl
 ·rw [List.getElem?_eq_none (by rw [byL_len]; omega), List.getElem?_eq_none (by simp; omega)]
theorem byL_set {P : Nat → Pc} {G : List Nat} {c p : Nat} (hi : (P c).i = (p : Int)) (_hp : p < 16) (hn : ¬ 0 ≤ byV P G p) : (byL P G).set p (.int .i64 (c : Int)) = byL P (G ++ [c]) := by
 apply List.ext_getElem?
 intro i
 by_cases h : i < 16
 ·rw [List.getElem?_set, byL_get P (G ++ [c]) h, byV_app, hi]
  by_cases e : p = i
  ·subst e
   rw [if_pos rfl, if_pos (by rw [byL_len]; exact h), if_neg hn, if_pos rfl]
  ·rw [if_neg e, byL_get P G h, if_neg (show ¬ ((p : Int) = (i : Int)) by omega)]
   by_cases h0 : 0 ≤ byV P G i
   ·rw [if_pos h0]
   ·rw [if_neg h0]
    have : byV P G i = -1 := by
     cases e2 : atPl P G i with
     | none => exact byV_none e2
     | some x => exact absurd (byV_nn.2 ⟨x, e2⟩) h0
    rw [this]
 ·rw [List.getElem?_eq_none (by rw [List.length_set, byL_len]; omega), List.getElem?_eq_none (by rw [byL_len]; omega)]
def outC (P : Nat → Pc) (A : Nat → Option Addr) (C : Nat → Nat) (G : List Nat) (c j : Nat) : Nat → Value := celp P A C ((lofP P G c).getD j 0)
theorem lofP_pre {P : Nat → Pc} {G : List Nat} {c j : Nat} (h : j < (lofP P G c).length) : (lofP P G (c + 1)).getD j 0 = (lofP P G c).getD j 0 := by
 rw [lofP_succ, List.getD_eq_getElem?_getD, List.getD_eq_getElem?_getD, List.getElem?_append_left h]
theorem lofP_same {P : Nat → Pc} {G : List Nat} {c : Nat} (h : atPl P G c = none) : lofP P G (c + 1) = lofP P G c := by rw [lofP_succ, h]; simp
theorem lofP_more {P : Nat → Pc} {G : List Nat} {c x : Nat} (h : atPl P G c = some x) : lofP P G (c + 1) = lofP P G c ++ [x] := by rw [lofP_succ, h]
theorem own_drewN {w : World} {B e s : Nat} {v : Value} {n : Nat} {xs : List Value} (h : w.ownsRow B e s v n xs) (k : Nat) : (w.drewN k).ownsRow B e s v n xs := h
theorem chosen_any (root : ByteArray) (a : Option Addr) (n cap : Nat) (A : Nat → Option Addr) (C : Nat → Nat) (P : Nat → Pc) (w : World) (h : PiA w a n A C P) (hn : n ≤ 1048576) (hm : ∀ i, i < n → (P i).m ≤ 1048576) (hL : ∀ i, i < n → ∀ j, j < (P i).m → ((P i).S j).size ≤ maxLen) :
  Calls Tryz.prog 48 #[.string root, .slice a n cap] w fun e w' => Below w.heap.size w w' ∧ ChE w' root n P A C e := by
 obtain ⟨i0, hi, hz0, hz1, hz2⟩ := info_parts Tryz.infoInt
 obtain ⟨j0, hjj, hy0, hy1, hy2⟩ := info_parts Tryz.infoPc3
 have KH : Hid (PiA w a n A C P) := h
 have HOK : Hid (∀ c W, c < n → Below w.heap.size w W → Calls Tryz.prog 67 #[pcV (P c).r (P c).k (P c).n (P c).i (P c).b (.slice (A c) (P c).m (C c))] W fun e w' => e = .returned (.bool (pok P c)) ∧ Below W.heap.size W w') := fun c W hc hW => sPieceOk_any (P c).r (P c).k (P c).n (P c).i (P c).b (A c) (P c).m (C c) (P c).S W ((h c hc).2.below hW) (hm c hc) (hL c hc)
 clear h hm hL
 go_enter Tryz.func48, Tryz.ntmps48
 go_wp2
 go_loopw [7, 8] (fun v7 v8 wr => ∃ j g cc : Nat, j ≤ 16 ∧ v8 = .int .i64 (j : Int) ∧ v7 = .slice (some ⟨g, 0, none⟩) j cc ∧ wr.ownsRow w.heap.size 3 1 (.slice (some ⟨g, 0, none⟩) j cc) j (List.replicate j (.int .i64 (-1))) ∧ Below w.heap.size w wr) (fun _ v8 _ => 16 - (intOf v8).toNat)
 case atStart => exact ⟨0, w.heap.size, 0, by omega, rfl, rfl, World.ownsRow_lit w #[] 0 (Nat.le_refl _) (by unfold maxLen; omega) (by simp), (Below.refl _ _).alloc (Nat.le_refl _) _⟩
 case round =>
  obtain ⟨j, g, cc, hj16, rfl, rfl, hown, hbel⟩ := hrel
  by_cases hlt : j < 16
  ·have hji : (j : Int) < 16 := by omega
   have hsz := hbel.size
   have lg := World.ownsRow.lt hown g rfl
   have HB : Hid (Below w.heap.size w wr) := hbel
   clear hbel
   go_wp2_with (at_builtin; refine wpList_append_all _ (by rfl) _ _ 23 (by rfl) w.heap.size 3 i0 (.int .i64 0) 1 8 Tryz.underlying23 hi hz0 hz1 hz2 rfl (by decide) g j cc _ (by rfl) (World.ownsRow.alloc hown _) ⟨wr.heap.size, 0, none⟩ 1 1 [.int .i64 (-1)] (by rfl) (by rfl) (World.news_of_block (cs := #[.int .i64 (-1)]) (t := 3) (fr := (0, 0)) (heap_alloc_new wr _)) (by simp [Value.oneCell']) (by unfold maxLen; omega) (by omega) (by simp; omega) ?_; intro g3 cap3 w3 hown3 hgrow3)
   have KO : Hid (w3.ownsRow w.heap.size 3 1 (.slice (some ⟨g3, 0, none⟩) (j + 1) cap3) (j + 1) (List.replicate (j + 1) (.int .i64 (-1)))) := by
    rw [List.replicate_succ']
    exact hown3
   have KB : Hid (Below w.heap.size w w3) := (HB.out.alloc hsz _).grown hgrow3 (by simp; omega) (fun x hx => by cases hx; exact lg.1)
   clear hown3 hgrow3 hown HB
   go_roundw
   case rel => exact ⟨j + 1, g3, cap3, by omega, by go_num, rfl, KO.out, KB.out⟩
   case measure => simp [intOf]; omega
  ·obtain rfl : j = 16 := by omega
   have lg := World.ownsRow.lt hown g rfl
   have KO1 : Hid (wr.ownsRow w.heap.size 3 1 (.slice (some ⟨g, 0, none⟩) 16 cc) 16 (byL P [])) := by
    rw [byL_nil]
    exact hown
   have KB1 : Hid (Below w.heap.size w wr) := hbel
   clear hown hbel
   go_wp2
   rw [show ((16 : Nat) : Int) = (16 : Int) from rfl]
   go_loopw [6, 9] (fun v6 v9 wr2 => ∃ c : Nat, Hid (c = 0 ∨ n ≤ 64) ∧ c ≤ n ∧ v9 = .int .i64 (c : Int) ∧ v6 = .int .i64 (fst1 (gsel root P c)) ∧ wr2.ownsRow w.heap.size 3 1 (.slice (some ⟨g, 0, none⟩) 16 cc) 16 (byL P (gsel root P c)) ∧ Below w.heap.size w wr2) (fun _ v9 _ => n - (intOf v9).toNat)
   case atStart => exact ⟨0, .inl rfl, Nat.zero_le _, rfl, rfl, KO1.out, KB1.out⟩
   case round =>
    obtain ⟨c, hc0, hcn, rfl, rfl, hown, hbel⟩ := hrel
    clear KO1 KB1
    by_cases hgo : c < n ∧ n ≤ 64
    ·obtain ⟨hlt, hn64⟩ := hgo
     have HN64 : Hid (c + 1 = 0 ∨ n ≤ 64) := .inr hn64
     have hci : (c : Int) < (n : Int) := by omega
     have hni : (n : Int) ≤ 64 := by omega
     obtain ⟨⟨b, off, rfl, hcell⟩, _⟩ := (KH.out.below hbel) c hlt
     have HP6 : Hid (∀ x q, x < n → q < 6 → ∀ W, Below wr.heap.size wr W → W.cell? ⟨b, off + x * 6 + q, none⟩ = some (celp P A C x q)) := fun x q hx hq W hW => by
      obtain ⟨⟨b', off', e', hc'⟩, _⟩ := (KH.out.below hbel) x hx
      cases e'
      have := hc' q hq
      rw [← Nat.add_assoc] at this
      exact (hW.cell (p := ⟨b, off + x * 6 + q, none⟩) (block_lt_of_cell this)).trans this
     have x0 := HP6.out c 0 hlt (by omega) wr (Below.refl _ _)
     have x1 := HP6.out c 1 hlt (by omega) wr (Below.refl _ _)
     have x2 := HP6.out c 2 hlt (by omega) wr (Below.refl _ _)
     have x3 := HP6.out c 3 hlt (by omega) wr (Below.refl _ _)
     have x4 := HP6.out c 4 hlt (by omega) wr (Below.refl _ _)
     have x5 := HP6.out c 5 hlt (by omega) wr (Below.refl _ _)
     simp only [celp, cel, Nat.add_zero] at x0 x1 x2 x3 x4 x5
     obtain ⟨V, HV⟩ : ∃ x, Hid (x = wr.heap.size) := ⟨_, rfl⟩
     obtain ⟨wv, HWV⟩ : ∃ x, Hid (x = wr.alloc (.cells (pcC (P c).r (P c).k (P c).n (P c).i (P c).b (.slice (A c) (P c).m (C c))) 66)) := ⟨_, rfl⟩
     have RV : Hid (Row wv V 66 (pcC (P c).r (P c).k (P c).n (P c).i (P c).b (.slice (A c) (P c).m (C c)))) := by show Row _ _ _ _; rw [HWV.out, HV.out]; exact Row.new wr _ _
     have bv : Below wr.heap.size wr wv := by rw [HWV.out]; exact (Below.refl _ _).alloc (Nat.le_refl _) _
     have KBw : Hid (Below w.heap.size w wr) := hbel
     have KBv : Hid (Below wr.heap.size wr wv) := bv
     have KOw : Hid (wr.ownsRow w.heap.size 3 1 (.slice (some ⟨g, 0, none⟩) 16 cc) 16 (byL P (gsel root P c))) := hown
     have KPk : Hid _ := HOK.out c wv hlt (below2 hbel bv)
     clear hown hbel bv hcell
     by_cases hr : (P c).r = root
     case neg =>
      have hr1 : ((P c).r.toList != root.toList) = true := by have := ba_ne hr; simp [bne, this]
      have hr2 := ba_ne hr
      have HG : Hid (gsel root P (c + 1) = gsel root P c) := gsel_skip (.inl hr)
      have KOv : Hid (wv.ownsRow w.heap.size 3 1 (.slice (some ⟨g, 0, none⟩) 16 cc) 16 (byL P (gsel root P (c + 1)))) := by rw [HG.out]; exact ownsRow_below KOw.out KBv.out
      have KBn : Hid (Below w.heap.size w wv) := below2 KBw.out KBv.out
      clear hr HP6 KPk
      go_wp2
      rw [← HWV.out]
      go_roundw
      case rel => exact ⟨c + 1, HN64, by omega, by go_num, by rw [HG.out], KOv.out, KBn.out⟩
      case measure => simp [intOf]; omega
     case pos =>
      have hr1 : ((P c).r.toList != root.toList) = false := by rw [hr]; simp
      have hr2 : ((P c).r.toList == root.toList) = true := by rw [hr]; simp
      have HRt : Hid ((P c).r = root) := hr
      clear hr
      cases hpk : pok P c with
      | false =>
       rw [hpk] at KPk
       have HG : Hid (gsel root P (c + 1) = gsel root P c) := gsel_skip (.inr hpk)
       clear HP6
       go_wp2_with fail
       rw [← HWV.out, ← HV.out]
       refine Calls.mono KPk.out ?_
       rintro e w2 ⟨rfl, b2⟩
       have bw := below2 KBv.out b2
       have KOv : Hid (w2.ownsRow w.heap.size 3 1 (.slice (some ⟨g, 0, none⟩) 16 cc) 16 (byL P (gsel root P (c + 1)))) := by rw [HG.out]; exact ownsRow_below KOw.out bw
       have KBn : Hid (Below w.heap.size w w2) := below2 KBw.out bw
       clear b2 bw KPk x0 x1 x2 x3 x4 x5 hr1 hr2
       go_wp2
       go_roundw
       case rel => exact ⟨c + 1, HN64, by omega, by go_num, by rw [HG.out], KOv.out, KBn.out⟩
       case measure => simp [intOf]; omega
      | true =>
       rw [hpk] at KPk
       obtain ⟨pp, hpi, hp16⟩ := pok_i hpk
       have HPI : Hid ((P c).i = (pp : Int)) := hpi
       rw [hpi] at x3 KPk
       have hpi16 : (pp : Int) < 16 := by omega
       have KRV : Hid (∀ W, Below wv.heap.size wv W → Row W V 66 (pcC (P c).r (P c).k (P c).n (pp : Int) (P c).b (.slice (A c) (P c).m (C c)))) := fun W hW => by
        have := RV.out.below hW RV.out.lt
        rw [HPI.out] at this
        exact this
       rw [hpi] at HWV RV
       by_cases hG : gsel root P c = []
       ·have HGn : Hid (gsel root P (c + 1) = [c]) := gsel_first HRt.out hpk hG
        have HGs : Hid (gsel root P c = []) := hG
        have hf1 : fst1 (gsel root P c) = -1 := by rw [hG]; rfl
        rw [hf1]
        clear hG hf1
        go_wp2_with fail
        rw [← HWV.out, ← HV.out]
        refine Calls.mono KPk.out ?_
        rintro e w2 ⟨rfl, b2⟩
        have bw := below2 KBv.out b2
        have ho2 := ownsRow_below KOw.out bw
        have y0 := World.ownsRow.cellAt ho2 pp (by omega)
        rw [byL_get P _ hp16, HGs.out, show byV P [] pp = -1 from rfl] at y0
        have f0 := World.ownsRow.frozenAt ho2 pp
        have R2 := KRV.out _ b2
        have z1 := R2.cell 1
        have z2 := R2.cell 2
        have z3 := R2.cell 3
        simp at z1 z2 z3
        have u1 := HP6.out c 1 hlt (by omega) w2 bw
        have u2 := HP6.out c 2 hlt (by omega) w2 bw
        simp only [celp, cel] at u1 u2
        have ek : ((P c).k == (P c).k) = true := by simp
        have en : ((P c).n == (P c).n) = true := by simp
        have KOv : Hid (∀ k : Nat, ((w2.drewN k).setCell ⟨g, pp, none⟩ (.int .i64 (c : Int))).ownsRow w.heap.size 3 1 (.slice (some ⟨g, 0, none⟩) 16 cc) 16 (byL P (gsel root P (c + 1)))) := fun k => by
         have h1 := (World.ownsRow.stored (own_drewN ho2 k) pp (.int .i64 (c : Int))).1
         rw [HGs.out, byL_set HPI.out hp16 (show ¬ 0 ≤ byV P [] pp by show ¬ (0 : Int) ≤ -1; omega)] at h1
         rw [HGn.out]
         exact h1
        have KBn : Hid (∀ k : Nat, Below w.heap.size w ((w2.drewN k).setCell ⟨g, pp, none⟩ (.int .i64 (c : Int)))) := fun k => (belowDrewN (below2 KBw.out bw) k).setCell lg.1 _
        have HF : Hid (fst1 (gsel root P (c + 1)) = (c : Int)) := by show _ = _; rw [HGn.out]; rfl
        clear b2 bw KPk x0 x1 x2 x3 x4 x5 hr1 hr2 ho2 R2
        go_wp2_with fail
        go_quiet (fail)
        go_wp2
        go_roundw
        case rel => exact ⟨c + 1, HN64, by omega, by go_num, by rw [HF.out], KOv.out _, KBn.out _⟩
        case measure => simp [intOf]; omega
       ·have HGs : Hid (gsel root P c ≠ []) := hG
        obtain ⟨x, HX⟩ : ∃ x, Hid ((gsel root P c).getD 0 0 = x) := ⟨_, rfl⟩
        have hf1 : fst1 (gsel root P c) = (x : Int) := by rw [fst1_get hG, HX.out]
        have hxn : x < n := by
         have hl : 0 < (gsel root P c).length := List.length_pos_iff.2 hG
         have := (gsel_mem (getD_memL (L := gsel root P c) (j := 0) hl)).1
         rw [HX.out] at this
         omega
        have hxi : (x : Int) < (n : Int) := by omega
        have hx0 : ¬ (x : Int) < 0 := by omega
        have HSt : Hid (gsel root P (c + 1) = if (P c).k = (P x).k ∧ (P c).n = (P x).n ∧ ¬ 0 ≤ byV P (gsel root P c) pp then gsel root P c ++ [c] else gsel root P c) := by
         have := gsel_step HRt.out hpk HPI.out hG
         rw [HX.out] at this
         exact this
        have HFn : Hid (fst1 (gsel root P c ++ [c]) = (x : Int)) := by show _ = _; rw [fst1_app, if_neg hG, hf1]
        rw [hf1]
        obtain ⟨bz, HBZ⟩ : ∃ z, Hid (byV P (gsel root P c) pp = z) := ⟨_, rfl⟩
        clear hG
        go_wp2_with fail
        rw [← HWV.out, ← HV.out]
        refine Calls.mono KPk.out ?_
        rintro e w2 ⟨rfl, b2⟩
        have bw := below2 KBv.out b2
        have ho2 := ownsRow_below KOw.out bw
        have y0 := World.ownsRow.cellAt ho2 pp (by omega)
        rw [byL_get P _ hp16, HBZ.out] at y0
        have f0 := World.ownsRow.frozenAt ho2 pp
        have R2 := KRV.out _ b2
        have z1 := R2.cell 1
        have z2 := R2.cell 2
        have z3 := R2.cell 3
        simp at z1 z2 z3
        have u1 := HP6.out x 1 hxn (by omega) w2 bw
        have u2 := HP6.out x 2 hxn (by omega) w2 bw
        simp only [celp, cel] at u1 u2
        have KO2 : Hid (w2.ownsRow w.heap.size 3 1 (.slice (some ⟨g, 0, none⟩) 16 cc) 16 (byL P (gsel root P c))) := ho2
        have KB2 : Hid (Below w.heap.size w w2) := below2 KBw.out bw
        have HF1 : Hid (fst1 (gsel root P c) = (x : Int)) := hf1
        clear b2 bw KPk x0 x1 x2 x3 x4 x5 hr1 hr2 ho2 R2 hf1
        by_cases hk : (P c).k = (P x).k
        case neg =>
         have ek : ((P c).k == (P x).k) = false := by simpa using hk
         have HGn : Hid (gsel root P (c + 1) = gsel root P c) := by show _ = _; rw [HSt.out, if_neg (fun h => hk h.1)]
         clear hk
         go_wp2_with fail
         go_quiet (fail)
         go_wp2
         go_roundw
         case rel => exact ⟨c + 1, HN64, by omega, by go_num, by rw [HGn.out, HF1.out], by rw [HGn.out]; exact own_drewN KO2.out _, belowDrewN KB2.out _⟩
         case measure => simp [intOf]; omega
        case pos =>
         have ek : ((P c).k == (P x).k) = true := by simpa using hk
         by_cases hnn : (P c).n = (P x).n
         case neg =>
          have en : ((P c).n == (P x).n) = false := by simpa using hnn
          have HGn : Hid (gsel root P (c + 1) = gsel root P c) := by show _ = _; rw [HSt.out, if_neg (fun h => hnn h.2.1)]
          clear hk hnn
          go_wp2_with fail
          go_quiet (fail)
          go_wp2
          go_roundw
          case rel => exact ⟨c + 1, HN64, by omega, by go_num, by rw [HGn.out, HF1.out], by rw [HGn.out]; exact own_drewN KO2.out _, belowDrewN KB2.out _⟩
          case measure => simp [intOf]; omega
         case pos =>
          have en : ((P c).n == (P x).n) = true := by simpa using hnn
          by_cases hz : bz < 0
          case neg =>
           have HGn : Hid (gsel root P (c + 1) = gsel root P c) := by show _ = _; rw [HSt.out, if_neg (fun h => hz (by have := h.2.2; rw [HBZ.out] at this; omega))]
           clear hk hnn
           go_wp2_with fail
           go_quiet (fail)
           go_wp2
           go_roundw
           case rel => exact ⟨c + 1, HN64, by omega, by go_num, by rw [HGn.out, HF1.out], by rw [HGn.out]; exact own_drewN KO2.out _, belowDrewN KB2.out _⟩
           case measure => simp [intOf]; omega
          case pos =>
           have HGn : Hid (gsel root P (c + 1) = gsel root P c ++ [c]) := by show _ = _; rw [HSt.out, if_pos ⟨hk, hnn, by rw [HBZ.out]; omega⟩]
           have KOv : Hid (∀ k : Nat, ((w2.drewN k).setCell ⟨g, pp, none⟩ (.int .i64 (c : Int))).ownsRow w.heap.size 3 1 (.slice (some ⟨g, 0, none⟩) 16 cc) 16 (byL P (gsel root P (c + 1)))) := fun k => by
            have h1 := (World.ownsRow.stored (own_drewN KO2.out k) pp (.int .i64 (c : Int))).1
            rw [byL_set HPI.out hp16 (by rw [HBZ.out]; omega)] at h1
            rw [HGn.out]
            exact h1
           have KBn : Hid (∀ k : Nat, Below w.heap.size w ((w2.drewN k).setCell ⟨g, pp, none⟩ (.int .i64 (c : Int)))) := fun k => (belowDrewN KB2.out k).setCell lg.1 _
           clear hk hnn
           go_wp2_with fail
           go_quiet (fail)
           go_wp2
           go_roundw
           case rel => exact ⟨c + 1, HN64, by omega, by go_num, by rw [HGn.out, HFn.out], KOv.out _, KBn.out _⟩
           case measure => simp [intOf]; omega
    ·obtain ⟨G, HGG⟩ : ∃ x, Hid (gsel root P c = x) := ⟨_, rfl⟩
     have HCase : Hid (G = gsel root P n ∨ (G = [] ∧ ¬ n ≤ 64)) := by
      rcases Nat.lt_or_ge c n with h1 | h1
      ·have h2 : ¬ n ≤ 64 := fun h => hgo ⟨h1, h⟩
       rcases hc0.out with h3 | h3
       ·exact .inr ⟨by rw [← HGG.out, h3]; rfl, h2⟩
       ·exact absurd h3 h2
      ·exact .inl (by rw [← HGG.out, show c = n by omega])
     rw [HGG.out] at hown
     rw [HGG.out]
     have KO1 : Hid (wr.ownsRow w.heap.size 3 1 (.slice (some ⟨g, 0, none⟩) 16 cc) 16 (byL P G)) := hown
     have KB1 : Hid (Below w.heap.size w wr) := hbel
     have hgoI : ¬ ((c : Int) < (n : Int) ∧ (n : Int) ≤ 64) := by omega
     clear hown hbel
     by_cases hG : G = []
     ·have hen : enB root n P = false := by
       unfold enB
       rcases HCase.out with h1 | h1
       ·rw [← h1, hG]; simp
       ·simp [h1.2]
      have hf1 : fst1 G = -1 := by rw [hG]; rfl
      rw [hf1]
      have KBe : Hid (∀ k : Nat, Below w.heap.size w ((wr.alloc (.cells #[] 66)).drewN k)) := fun k => belowDrewN (KB1.out.alloc KB1.out.size _) k
      have HEN : Hid (enB root n P = false) := hen
      clear hf1 hG hen
      by_cases h1 : (c : Int) < (n : Int)
      ·have h2 : ¬ (n : Int) ≤ 64 := fun h => hgoI ⟨h1, h⟩
       clear hgoI hgo
       go_wp2
       go_loopw [12] (fun v12 wr3 => v12 = .int .i64 0 ∧ wr3 = wr.alloc (.cells #[] 66)) (fun _ _ => 0)
       case atStart => exact ⟨rfl, rfl⟩
       case round =>
        obtain ⟨rfl, hw⟩ := hrel
        obtain rfl := hw.symm
        clear hw
        go_wp2_with fail
        go_quiet (fail)
        go_wp2
        go_ret2
        exact ⟨KBe.out _, .inl ⟨HEN.out, _, rfl⟩⟩
      ·clear hgoI hgo
       go_wp2
       go_loopw [12] (fun v12 wr3 => v12 = .int .i64 0 ∧ wr3 = wr.alloc (.cells #[] 66)) (fun _ _ => 0)
       case atStart => exact ⟨rfl, rfl⟩
       case round =>
        obtain ⟨rfl, hw⟩ := hrel
        obtain rfl := hw.symm
        clear hw
        go_wp2_with fail
        go_quiet (fail)
        go_wp2
        go_ret2
        exact ⟨KBe.out _, .inl ⟨HEN.out, _, rfl⟩⟩
     ·obtain ⟨wo, hwo⟩ : ∃ x, x = wr := ⟨_, rfl⟩
      subst hwo
      have hGn : G = gsel root P n := by
       rcases HCase.out with h1 | h1
       ·exact h1
       ·exact absurd h1.1 hG
      obtain ⟨x, HX⟩ : ∃ x, Hid (G.getD 0 0 = x) := ⟨_, rfl⟩
      have hl0 : 0 < G.length := List.length_pos_iff.2 hG
      have hxm := gsel_mem (root := root) (P := P) (c := n) (x := x) (by rw [← hGn, ← HX.out]; exact getD_memL hl0)
      have hxn : x < n := hxm.1
      have hpk := pok_k hxm.2.2
      obtain ⟨K, hK⟩ : ∃ K : Nat, (P x).k = (K : Int) := Int.eq_ofNat_of_zero_le (by have := hpk.1; omega)
      have hK16 : 1 ≤ K ∧ K ≤ 16 := by
       have h1 := hpk.1
       have h2 := hpk.2.1
       have h3 := hpk.2.2.1
       rw [hK] at h1 h2
       omega
      obtain ⟨hK1, hKl⟩ := hK16
      have hf1 : fst1 G = (x : Int) := by rw [fst1_get hG, HX.out]
      have HEK : Hid (enK root n P = (K : Int)) := by show _ = _; unfold enK; rw [← hGn, HX.out, hK]
      have HEN : Hid (enB root n P = decide (K ≤ G.length)) := by
       show _ = _
       unfold enB
       rw [← hGn, HEK.out]
       have hn64 : n ≤ 64 := by
        rcases hc0.out with h3 | h3
        ·rcases Nat.lt_or_ge n 65 with h4 | h4
         ·omega
         ·exfalso
          have h5 : G = [] := by rw [← HGG.out, h3]; rfl
          exact hG h5
        ·exact h3
       simp [hn64, hG]
      have HPerm : Hid ((lofP P G 16).Perm (gsel root P n)) := by show List.Perm _ _; rw [hGn]; exact lofP_perm root P n
      have HLen : Hid ((lofP P G 16).length = G.length) := by show _ = _; rw [HPerm.out.length_eq, hGn]
      have HAt : Hid (∀ p y, atPl P G p = some y → y < n) := fun p y h => by
       have := (atPl_mem h).1
       rw [hGn] at this
       exact (gsel_mem this).1
      have hxi : (x : Int) < (n : Int) := by omega
      have hx0 : (x : Int) ≥ 0 := by omega
      obtain ⟨⟨b, off, rfl, _⟩, _⟩ := (KH.out.below KB1.out) x hxn
      have HP6 : Hid (∀ x q, x < n → q < 6 → ∀ W, Below wo.heap.size wo W → W.cell? ⟨b, off + x * 6 + q, none⟩ = some (celp P A C x q)) := fun x q hx hq W hW => by
       obtain ⟨⟨b', off', e', hc'⟩, _⟩ := (KH.out.below KB1.out) x hx
       cases e'
       have := hc' q hq
       rw [← Nat.add_assoc] at this
       exact (hW.cell (p := ⟨b, off + x * 6 + q, none⟩) (block_lt_of_cell this)).trans this
      have HBy : Hid (∀ p, p < 16 → ∀ W, Below wo.heap.size wo W → W.cell? ⟨g, p, none⟩ = some (.int .i64 (byV P G p))) := fun p hp W hW => by
       have h1 := World.ownsRow.cellAt KO1.out p (by omega)
       rw [byL_get P G hp] at h1
       exact (hW.cell (p := ⟨g, p, none⟩) (block_lt_of_cell h1)).trans h1
      have HKx : Hid (∀ W, Below wo.heap.size wo W → W.cell? ⟨b, off + x * 6 + 1, none⟩ = some (.int .i64 (K : Int))) := fun W hW => by
       have := HP6.out x 1 hxn (by omega) W hW
       simp only [celp, cel, hK] at this
       exact this
      have hgoI' : ¬ ((c : Int) < (n : Int) ∧ (n : Int) ≤ 64) := hgoI
      have hcn' : ¬ (c : Int) < (n : Int) := by
       intro h1
       have h2 : ¬ n ≤ 64 := fun h => hgo ⟨by omega, h⟩
       rcases hc0.out with h3 | h3
       ·exact hG (by rw [← HGG.out, h3]; rfl)
       ·exact h2 h3
      rw [hf1]
      clear hf1 hG hgoI hgoI' hgo hGn hxm hpk hK hl0 HCase
      go_wp2
      go_loopw [11, 12] (fun v11 v12 wr3 => ∃ j q g3 c3 : Nat, j ≤ 16 ∧ Hid (q = min (lofP P G j).length K) ∧ q ≤ 16 ∧ v12 = .int .i64 (j : Int) ∧ v11 = .slice (some ⟨g3, 0, none⟩) q c3 ∧ OwnC wr3 wo.heap.size (some ⟨g3, 0, none⟩) q c3 (outC P A C G j) ∧ Below wo.heap.size wo wr3) (fun _ v12 _ => 16 - (intOf v12).toNat)
      case atStart =>
       refine ⟨0, 0, wo.heap.size, 0, by omega, by show 0 = min (lofP P G 0).length K; simp [lofP], by omega, rfl, rfl, ?_, (Below.refl _ _).alloc (Nat.le_refl _) _⟩
       exact World.ownsRow_lit wo #[] 0 (Nat.le_refl _) (by unfold maxLen; omega) (by simp)
      case round =>
       obtain ⟨j, q, g3, c3, hj16, HQ, hq16, rfl, rfl, hown, hbel⟩ := hrel
       have lg3 := World.ownsRow.lt hown g3 rfl
       have hsz := hbel.size
       by_cases hlt : j < 16
       ·have hji : (j : Int) < 16 := by omega
        have y0 := HBy.out j hlt _ hbel
        have z1 := HKx.out _ hbel
        have KO : Hid (OwnC wr wo.heap.size (some ⟨g3, 0, none⟩) q c3 (outC P A C G j)) := hown
        have KB : Hid (Below wo.heap.size wo wr) := hbel
        clear hown hbel
        cases hat : atPl P G j with
        | none =>
         have hbv : byV P G j = -1 := byV_none hat
         rw [hbv] at y0
         have HQ2 : Hid (q = min (lofP P G (j + 1)).length K) := by show _ = _; rw [lofP_same hat]; exact HQ.out
         have KO2 : Hid (OwnC wr wo.heap.size (some ⟨g3, 0, none⟩) q c3 (outC P A C G (j + 1))) := OwnC.congr KO.out (fun i q' _ _ => by unfold outC; rw [lofP_same hat])
         clear hbv hat
         go_wp2
         go_roundw
         case rel => exact ⟨j + 1, q, g3, c3, by omega, HQ2, hq16, by go_num, rfl, KO2.out, KB.out⟩
         case measure => simp [intOf]; omega
        | some y =>
         have hbv : byV P G j = (y : Int) := byV_some hat
         rw [hbv] at y0
         have hyn := HAt.out j y hat
         have hyi : (y : Int) < (n : Int) := by omega
         have hy0' : (y : Int) ≥ 0 := by omega
         by_cases hqK : q < K
         ·have hqi : (q : Int) < (K : Int) := by omega
          have hql : q = (lofP P G j).length := by have := HQ.out; omega
          have x0 := HP6.out y 0 hyn (by omega) _ KB.out
          have x1 := HP6.out y 1 hyn (by omega) _ KB.out
          have x2 := HP6.out y 2 hyn (by omega) _ KB.out
          have x3 := HP6.out y 3 hyn (by omega) _ KB.out
          have x4 := HP6.out y 4 hyn (by omega) _ KB.out
          have x5 := HP6.out y 5 hyn (by omega) _ KB.out
          simp only [celp, cel, Nat.add_zero] at x0 x1 x2 x3 x4 x5
          have HQ2 : Hid (q + 1 = min (lofP P G (j + 1)).length K) := by show _ = _; rw [lofP_more hat, List.length_append, ← hql]; simp; omega
          have HRow : Hid (gL (outC P A C G (j + 1)) (q + 1) = gL (outC P A C G j) q ++ [.string (P y).r, .int .i64 (P y).k, .int .i64 (P y).n, .int .i64 (P y).i, .string (P y).b, .slice (A y) (P y).m (C y)]) := by
           show _ = _
           rw [gL_snoc]
           have e1 : gL (outC P A C G (j + 1)) q = gL (outC P A C G j) q := gL_congr (fun i q' hi _ => by unfold outC; rw [lofP_pre (by omega)])
           have e2 : (lofP P G (j + 1)).getD q 0 = y := by rw [lofP_more hat, hql, List.getD_eq_getElem?_getD]; simp
           rw [e1]
           unfold outC
           rw [e2]
           rfl
          clear hbv hat hql
          go_wp2_with (at_builtin; refine wpList_append_lies _ (by rfl) _ _ 46 (by rfl) wo.heap.size 66 j0 (.agg #[.string ByteArray.empty, .int .i64 0, .int .i64 0, .int .i64 0, .string ByteArray.empty, .slice none 0 0]) 6 80 Tryz.underlying46 hjj hy0 hy1 hy2 rfl (by decide) (.slice (some ⟨g3, 0, none⟩) q c3) q _ (by rfl) (World.ownsRow.alloc KO.out _) ⟨wr.heap.size, 0, none⟩ 1 1 [.string (P y).r, .int .i64 (P y).k, .int .i64 (P y).n, .int .i64 (P y).i, .string (P y).b, .slice (A y) (P y).m (C y)] (by rfl) (by rfl) (World.news_of_block (cs := #[.string (P y).r, .int .i64 (P y).k, .int .i64 (P y).n, .int .i64 (P y).i, .string (P y).b, .slice (A y) (P y).m (C y)]) (t := 66) (fr := (0, 0)) (heap_alloc_new wr _)) (by simp [Value.oneCell']) (by omega) (by unfold maxLen; omega) (by omega) (by simp; omega) (wr.heap.size + 1) (by simp) ?_; intro g4 c4 w4 hown4 hgrow4 hat4 hlt4)
          have KO4 : Hid (OwnC w4 wo.heap.size (some ⟨g4, 0, none⟩) (q + 1) c4 (outC P A C G (j + 1))) := by
           show World.ownsRow _ _ _ _ _ _ _
           rw [HRow.out]
           exact hown4
          have KB4 : Hid (Below wo.heap.size wo w4) := (KB.out.alloc hsz _).grown (show World.grownBy _ w4 (some g3) from hgrow4) (by simp; omega) (fun z hz => by cases hz; exact lg3.1)
          clear hown4 hgrow4 hat4 x0 x1 x2 x3 x4 x5
          go_roundw
          case rel => exact ⟨j + 1, q + 1, g4, c4, by omega, HQ2, by omega, by go_num, rfl, KO4.out, KB4.out⟩
          case measure => simp [intOf]; omega
         ·have hqi : ¬ (q : Int) < (K : Int) := by omega
          have HQ2 : Hid (q = min (lofP P G (j + 1)).length K) := by
           have := HQ.out
           show _ = _
           rw [lofP_more hat, List.length_append]
           simp
           omega
          have KO2 : Hid (OwnC wr wo.heap.size (some ⟨g3, 0, none⟩) q c3 (outC P A C G (j + 1))) := OwnC.congr KO.out (fun i q' hi _ => by
           have := HQ.out
           unfold outC
           rw [lofP_pre (by omega)])
          clear hbv hat
          go_wp2
          go_roundw
          case rel => exact ⟨j + 1, q, g3, c3, by omega, HQ2, hq16, by go_num, rfl, KO2.out, KB.out⟩
          case measure => simp [intOf]; omega
       ·obtain rfl : j = 16 := by omega
        have z1 := HKx.out _ hbel
        have HC : Hid (∀ j' q', j' < q → q' < 6 → wr.cell? ⟨g3, j' * 6 + q', none⟩ = some (celp P A C ((lofP P G 16).getD j' 0) q')) := fun j' q' h1 h2 => OwnC.cell hown h1 h2
        have KBe : Hid (∀ k : Nat, Below w.heap.size w (wr.drewN k)) := fun k => belowDrewN (below2 KB1.out hbel) k
        by_cases hqK : q = K
        ·have hKG : K ≤ G.length := by have := HQ.out; have := HLen.out; omega
         have HE : Hid (enB root n P = true) := by show _ = _; rw [HEN.out]; exact decide_eq_true hKG
         have HT : Hid ((enK root n P).toNat = q) := by show _ = _; rw [HEK.out, hqK]; simp
         have hqb : ((q : Int) == (K : Int)) = true := by rw [hqK]; simp
         have HQK : Hid (q = K) := hqK
         clear hown hbel hqK hKG
         go_wp2_with fail
         go_quiet (fail)
         go_wp2
         go_ret2
         exact ⟨KBe.out _, .inr ⟨HE.out, g3, c3, lofP P G 16, by rw [HT.out]; rfl, HPerm.out, fun x y hxy hy => asc_getD (lofP_asc P G 16) x y hxy hy, fun j' q' h1 h2 => HC.out j' q' (by rw [← HT.out]; exact h1) h2⟩⟩
        ·have HE : Hid (enB root n P = false) := by show _ = _; rw [HEN.out]; exact decide_eq_false (by have := HQ.out; have := HLen.out; omega)
         have hqb : ((q : Int) == (K : Int)) = false := by simp; omega
         clear hown hbel hqK
         go_wp2_with fail
         go_quiet (fail)
         go_wp2
         go_ret2
         exact ⟨KBe.out _, .inl ⟨HE.out, _, rfl⟩⟩
end Go.Proofs.YtgooamiggebibaaGreatDoor
