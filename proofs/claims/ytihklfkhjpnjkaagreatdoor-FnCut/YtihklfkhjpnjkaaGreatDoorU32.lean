import Derived.Test.YtihklfkhjpnjkaaGreatDoorU31
import Derived.Test.YtihklfkhjpnjkaaGreatDoorU30
import Derived.Test.YtihklfkhjpnjkaaGreatDoorU26
import Derived.Test.YtihklfkhjpnjkaaGreatDoorU10
import Derived.Test.YtihklfkhjpnjkaaGreatDoorU7
import Derived.Test.YtihklfkhjpnjkaaGreatDoorU21
set_option maxHeartbeats 8000000
set_option maxRecDepth 2000
open Go.ChangeShapes Go.WideShapes Go.ChangeAt Go.RowKit
namespace Go.Proofs.YtihklfkhjpnjkaaGreatDoor
theorem OwnP.snoc {w w2 w3 : World} {B g g3 c cap cap3 : Nat} {A : Nat → Option Addr} {C : Nat → Nat} {P : Nat → Pc} {aP : Option Addr} {cP : Nat} {X : Obj}
  (h : OwnP w B (some ⟨g, 0, none⟩) c cap A C P) (hB : B ≤ w.heap.size) (hb : Below w.heap.size w w2) (ho : OwnT w2 w.heap.size aP (P c).m cP (P c).S)
  (h3 : w3.ownsRow B 33 6 (.slice (some ⟨g3, 0, none⟩) (c + 1) cap3) (c + 1) (gL (fun i => cel (P i) (.slice (A i) (P i).m (C i))) c ++ [.string (P c).r, .int .i64 (P c).k, .int .i64 (P c).n, .int .i64 (P c).i, .string (P c).b, .slice aP (P c).m cP]))
  (hg : (w2.alloc X).grownBy w3 (some g)) (hat : g = g3 ∨ g3 = w2.heap.size + 1) : ∃ A' C', OwnP w3 B (some ⟨g3, 0, none⟩) (c + 1) cap3 A' C' P := by
 obtain ⟨h1, h2, h4, h5⟩ := h
 have lg := (World.ownsRow.lt h1 g rfl).2
 have lA : ∀ i x, i < c → A i = some x → x.block < w.heap.size := fun i x hi e => by
  have := h2 i hi
  rw [e] at this
  exact (World.ownsRow.lt this x.block rfl).2
 have lP : ∀ x, aP = some x → w.heap.size ≤ x.block ∧ x.block < w2.heap.size := fun x e => by
  subst e
  exact World.ownsRow.lt ho x.block rfl
 have hs := hb.size
 refine ⟨fun i => if i = c then aP else A i, fun i => if i = c then cP else C i, ?_, ?_, ?_, ?_⟩
 ·show World.ownsRow _ _ _ _ _ _ _
  have e : gL (fun i => cel (P i) (.slice (if i = c then aP else A i) (P i).m (if i = c then cP else C i))) (c + 1) = gL (fun i => cel (P i) (.slice (A i) (P i).m (C i))) c ++ [.string (P c).r, .int .i64 (P c).k, .int .i64 (P c).n, .int .i64 (P c).i, .string (P c).b, .slice aP (P c).m cP] := by
   rw [gL_snoc, gL_congr (c' := fun i => cel (P i) (.slice (A i) (P i).m (C i))) (fun i q hi _ => by simp [show i ≠ c by omega])]
   simp [cel]
  rw [e]
  exact h3
 ·intro i hi
  by_cases ei : i = c
  ·subst ei
   simp only [if_true]
   exact own_kept (World.ownsRow.alloc (OwnT.base ho hB) X) hg (fun x e => by have := lP x e; omega)
  ·simp only [ei, if_false]
   exact own_kept (World.ownsRow.alloc (OwnT.below (h2 i (by omega)) hb) X) hg (fun x e => h5 i x _ (by omega) e rfl)
 ·intro i j x y hij hj hx hy
  replace hx : (if i = c then aP else A i) = some x := hx
  replace hy : (if j = c then aP else A j) = some y := hy
  by_cases ej : j = c
  ·subst ej
   simp only [if_true] at hy
   rw [if_neg (by omega)] at hx
   have l1 := lP y hy
   have l2 := lA i x (by omega) hx
   omega
  ·rw [if_neg ej] at hy
   rw [if_neg (by omega)] at hx
   exact h4 i j x y hij (by omega) hx hy
 ·intro i x y hi hx hy
  replace hx : (if i = c then aP else A i) = some x := hx
  cases hy
  by_cases ei : i = c
  ·subst ei
   simp only [if_true] at hx
   have := lP x hx
   rcases hat with e | e
   ·show x.block ≠ g3; omega
   ·show x.block ≠ g3; omega
  ·rw [if_neg ei] at hx
   have l2 := lA i x (by omega) hx
   rcases hat with e | e
   ·subst e; exact h5 i x _ (by omega) hx rfl
   ·show x.block ≠ g3; omega
theorem OwnP.base {w : World} {B B' : Nat} {a : Option Addr} {n cap : Nat} {A : Nat → Option Addr} {C : Nat → Nat} {P : Nat → Pc} (h : OwnP w B a n cap A C P) (hB : B' ≤ B) : OwnP w B' a n cap A C P :=
 ⟨own_base h.1 hB, fun i hi => OwnT.base (h.2.1 i hi) hB, h.2.2⟩
theorem sAll_any (k : Int) (a : Option Addr) (n cap : Nat) (S : Nat → ByteArray) (w : World) (h : TxtAt w a n S) (hn : n ≤ 64) (hS : ∀ i, i < n → (S i).size ≤ 1048576) :
  Calls Tryz.prog 34 #[.slice a n cap, .int .i64 k, .int .i64 (n : Int)] w fun e w' => ∃ v, e = .returned v ∧ ResP w w' v n (cutP k n S) ∧ Below w.heap.size w w' := by
 obtain ⟨i0, hi, hz0, hz1, hz2⟩ := info_parts Tryz.infoStr
 obtain ⟨j0, hj, hy0, hy1, hy2⟩ := info_parts Tryz.infoPc3
 have HPC : Hid (∀ i, cutP k n S i = ⟨rtS n (lvs k n S), k, (n : Int), (i : Int), S i, pfR n (lvs k n S) (i : Int), pfF n (lvs k n S) (i : Int)⟩) := fun i => rfl
 obtain ⟨P, HP⟩ : ∃ P, Hid (cutP k n S = P) := ⟨_, rfl⟩
 rw [HP.out] at HPC
 rw [HP.out]
 obtain ⟨L, HL⟩ : ∃ L, Hid (lvs k n S = L) := ⟨_, rfl⟩
 have HL16 : Hid (∀ i, (L i).size ≤ 16) := fun i => by rw [← HL.out]; exact lvs_le _ _ _ _
 obtain ⟨rt, HRT⟩ : ∃ rt, Hid (rtS n L = rt) := ⟨_, rfl⟩
 rw [HL.out, HRT.out] at HPC
 have KH : Hid (TxtAt w a n S) := h
 have KS : Hid (∀ i, i < n → (S i).size ≤ 1048576) := hS
 have K0 : Hid (OwnT (w.alloc (.cells #[] 9)) w.heap.size (some ⟨w.heap.size, 0, none⟩) 0 0 L ∧ Below w.heap.size w (w.alloc (.cells #[] 9))) := ⟨litT w _, (Below.refl _ _).alloc (Nat.le_refl _) _⟩
 clear h hS
 go_enter Tryz.func34, Tryz.ntmps34
 go_wp2
 go_loopw [7, 8] (fun v vi wr => ∃ c g cc : Nat, c ≤ n ∧ vi = .int .i64 (c : Int) ∧ v = .slice (some ⟨g, 0, none⟩) c cc ∧ OwnT wr w.heap.size (some ⟨g, 0, none⟩) c cc L ∧ Below w.heap.size w wr) (fun _ vi _ => n - (intOf vi).toNat)
 case atStart => exact ⟨0, w.heap.size, 0, Nat.zero_le _, rfl, rfl, K0.out.1, K0.out.2⟩
 case round =>
  obtain ⟨c, g, cc, hk, rfl, rfl, ho, hbel⟩ := hrel
  clear K0
  have KO : Hid (OwnT wr w.heap.size (some ⟨g, 0, none⟩) c cc L ∧ Below w.heap.size w wr) := ⟨ho, hbel⟩
  clear ho hbel
  by_cases hlt : c < n
  ·have hki : (c : Int) < (n : Int) := by omega
   obtain ⟨b1, off1, rfl, hc1⟩ := (KH.out.below KO.out.2) c hlt
   have KC : Hid (∀ W, Calls Tryz.prog 18 #[.int .i64 k, .int .i64 (n : Int), .int .i64 (c : Int), .string (S c)] W fun e w' => e = .returned (.string (L c)) ∧ Below W.heap.size W w') := fun W => by
    have := sPieceLeaf_any k (n : Int) (c : Int) (S c) W (KS.out c hlt)
    rw [← HL.out]
    exact this
   have lg := World.ownsRow.lt KO.out.1 _ rfl
   generalize S c = sc at hc1 KC
   obtain ⟨z, HZ⟩ : ∃ z, Hid (L c = z) := ⟨_, rfl⟩
   rw [HZ.out] at KC
   go_wp2_with fail
   refine Calls.mono (KC.out _) ?_
   rintro e w6 ⟨rfl, hb6⟩
   have K6 : Hid (OwnT w6 w.heap.size (some ⟨g, 0, none⟩) c cc L ∧ Below w.heap.size w w6) := ⟨OwnT.below KO.out.1 hb6, below2 KO.out.2 hb6⟩
   have hsz6 := K6.out.2.size
   clear hb6 KC hc1 KO
   go_wp2_with (at_builtin; refine wpList_append_all _ (by rfl) _ _ 31 (by rfl) w.heap.size 9 i0 (.string ByteArray.empty) 1 16 Tryz.underlying31 hi hz0 hz1 hz2 rfl (by decide) g c cc _ (by rfl) (World.ownsRow.alloc K6.out.1 _) ⟨w6.heap.size, 0, none⟩ 1 1 [.string z] (by rfl) (by rfl) (World.news_of_block (cs := #[.string z]) (t := 9) (fr := (0, 0)) (heap_alloc_new w6 _)) (by simp [Value.oneCell']) (by unfold maxLen; omega) (by omega) (by simp; omega) ?_; intro g3 cap3 w7 hown3 hgrow3)
   have HL7 : Hid (OwnT w7 w.heap.size (some ⟨g3, 0, none⟩) (c + 1) cap3 L ∧ Below w.heap.size w w7) := by
    refine ⟨?_, (K6.out.2.alloc hsz6 _).grown (show World.grownBy _ w7 (some g) from hgrow3) (by simp; omega) (fun j hj => by cases hj; exact lg.1)⟩
    unfold OwnT
    rw [sL_snoc, HZ.out]
    exact hown3
   clear hown3 hgrow3 K6
   go_roundw
   case rel => exact ⟨c + 1, g3, cap3, by omega, by go_num, rfl, HL7.out.1, HL7.out.2⟩
   case measure => simp [intOf]; omega
  ·obtain rfl : c = n := by omega
   have KR : Hid (Calls Tryz.prog 78 #[.slice (some ⟨g, 0, none⟩) c cc] wr fun e w' => e = .returned (.tuple #[.string rt, .bool (lvB c L)]) ∧ Below wr.heap.size wr w') := by
    have := sRoot_any (some ⟨g, 0, none⟩) c cc L wr (OwnT.at KO.out.1) (by omega) (fun i _ => by have := HL16.out i; unfold maxLen; omega)
    rw [HRT.out] at this
    exact this
   generalize lvB c L = okr at KR
   go_wp2_with fail
   refine Calls.mono KR.out ?_
   rintro e w3 ⟨rfl, hb3⟩
   obtain ⟨w4, HW4⟩ : ∃ w4, Hid (w4 = w3.alloc (.cells #[] 33)) := ⟨_, rfl⟩
   have hb34 : Below w3.heap.size w3 w4 := by rw [HW4.out]; exact (Below.refl _ _).alloc (Nat.le_refl _) _
   have KL3 : Hid (TxtAt w3 (some ⟨g, 0, none⟩) c L) := (OwnT.at KO.out.1).below hb3
   have KA3 : Hid (TxtAt w3 a c S) := (KH.out.below KO.out.2).below hb3
   have KB3 : Hid (Below w.heap.size w w3) := below2 KO.out.2 hb3
   have KB34 : Hid (Below w3.heap.size w3 w4) := hb34
   have KP4 : Hid (OwnP w4 w3.heap.size (some ⟨w3.heap.size, 0, none⟩) 0 0 (fun _ => none) (fun _ => 0) P) := by
    rw [HW4.out]
    exact ⟨World.ownsRow_lit w3 #[] 0 (Nat.le_refl _) (by unfold maxLen; omega) rfl, fun i hi => absurd hi (Nat.not_lt_zero _), fun i j x y _ hj => absurd hj (Nat.not_lt_zero _), fun i x y hi => absurd hi (Nat.not_lt_zero _)⟩
   clear hb3 hb34 KO KR hi hz0 hz1 hz2
   go_wp2_with fail
   rw [← HW4.out]
   go_loopw [11, 12] (fun v vi wr => ∃ q g2 cc2 : Nat, q ≤ c ∧ vi = .int .i64 (q : Int) ∧ v = .slice (some ⟨g2, 0, none⟩) q cc2 ∧ (∃ A C, OwnP wr w3.heap.size (some ⟨g2, 0, none⟩) q cc2 A C P) ∧ Below w3.heap.size w3 wr) (fun _ vi _ => c - (intOf vi).toNat)
   case atStart => exact ⟨0, _, 0, Nat.zero_le _, rfl, rfl, ⟨_, _, KP4.out⟩, KB34.out⟩
   case round =>
    obtain ⟨q, g2, cc2, hq, rfl, rfl, ⟨A, C, hop⟩, hb3r⟩ := hrel
    clear KP4
    have KOP : Hid (OwnP wr w3.heap.size (some ⟨g2, 0, none⟩) q cc2 A C P ∧ Below w3.heap.size w3 wr) := ⟨hop, hb3r⟩
    have lg2 := World.ownsRow.lt hop.1 g2 rfl
    clear hop hb3r
    by_cases hlt2 : q < c
    ·have hqi : (q : Int) < (c : Int) := by omega
     have KPF : Hid (Calls Tryz.prog 79 #[.slice (some ⟨g, 0, none⟩) c cc, .int .i64 (q : Int)] wr fun e w' => ∃ v, e = .returned (.tuple #[v, .bool (pfB c L (q : Int))]) ∧ ResT wr w' v (P q).m (P q).S ∧ Below wr.heap.size wr w') := by
      rw [HPC.out]
      exact sProof_any (some ⟨g, 0, none⟩) c cc L (q : Int) wr (KL3.out.below KOP.out.2) (by omega) (fun i _ => by have := HL16.out i; unfold maxLen; omega)
     generalize pfB c L (q : Int) = okp at KPF
     obtain ⟨mq, HMQ⟩ : ∃ mc, Hid ((P q).m = mc) := ⟨_, rfl⟩
     rw [HMQ.out] at KPF
     obtain ⟨sc, HSC⟩ : ∃ sc, Hid (S q = sc) := ⟨_, rfl⟩
     have HS : Hid ((P q).r = rt ∧ (P q).k = k ∧ (P q).n = (c : Int) ∧ (P q).i = (q : Int) ∧ (P q).b = sc) := by rw [HPC.out, HSC.out]; exact ⟨rfl, rfl, rfl, rfl, rfl⟩
     go_wp2_with fail
     refine Calls.mono KPF.out ?_
     rintro e w5 ⟨v5, rfl, ⟨aP, cP, rfl, O5⟩, hb5⟩
     obtain ⟨b1, off1, rfl, hc1⟩ := ((KA3.out.below KOP.out.2).below hb5) q hlt2
     rw [HSC.out] at hc1
     have hs5 := hb5.size
     have hw5 := KOP.out.2.size
     have O5' : Hid (OwnT w5 wr.heap.size aP mq cP (P q).S) := O5
     have HB5 : Hid (Below wr.heap.size wr w5) := hb5
     have KX : Hid (OwnC w5 w3.heap.size (some ⟨g2, 0, none⟩) q cc2 (fun i => cel (P i) (.slice (A i) (P i).m (C i)))) := KOP.out.1.1.below hb5
     clear O5 hb5 KPF
     go_wp2_with (at_builtin; refine wpList_append_lies _ (by rfl) _ _ 26 (by rfl) w3.heap.size 33 j0 (.agg #[.string ByteArray.empty, .int .i64 0, .int .i64 0, .int .i64 0, .string ByteArray.empty, .slice none 0 0]) 6 80 Tryz.underlying26 hj hy0 hy1 hy2 rfl (by decide) (.slice (some ⟨g2, 0, none⟩) q cc2) q _ (by rfl) (World.ownsRow.alloc KX.out _) ⟨w5.heap.size, 0, none⟩ 1 1 [.string rt, .int .i64 k, .int .i64 (c : Int), .int .i64 (q : Int), .string sc, .slice aP mq cP] (by rfl) (by rfl) (World.news_of_block (cs := #[.string rt, .int .i64 k, .int .i64 (c : Int), .int .i64 (q : Int), .string sc, .slice aP mq cP]) (t := 33) (fr := (0, 0)) (heap_alloc_new w5 _)) (by simp [Value.oneCell']) (by omega) (by unfold maxLen; omega) (by omega) (by simp; omega) (w5.heap.size + 1) (by simp) ?_; intro g3 cap3 w7 hown3 hgrow3 hat3 hlt3)
     have hgr : World.grownBy (w5.alloc (.cells #[.string rt, .int .i64 k, .int .i64 (c : Int), .int .i64 (q : Int), .string sc, .slice aP mq cP] 33)) w7 (some g2) := hgrow3
     have HN : Hid ((∃ A C, OwnP w7 w3.heap.size (some ⟨g3, 0, none⟩) (q + 1) cap3 A C P) ∧ Below w3.heap.size w3 w7) := by
      refine ⟨OwnP.snoc (aP := aP) (cP := cP) KOP.out.1 hw5 HB5.out (by rw [HMQ.out]; exact O5'.out) ?_ hgr ?_, ?_⟩
      ·rw [HMQ.out, HS.out.1, HS.out.2.1, HS.out.2.2.1, HS.out.2.2.2.1, HS.out.2.2.2.2]
       exact hown3
      ·rcases hat3 with e | e
       ·exact .inl (by simpa [Value.ownBlock] using e)
       ·exact .inr e
      ·exact ((below2 KOP.out.2 HB5.out).alloc (by omega) _).grown hgr (by simp; omega) (fun j hj => by cases hj; exact lg2.1)
     clear hown3 hgrow3 hgr hat3 hlt3 KOP KX HB5 O5' hc1
     go_roundw
     case rel => exact ⟨q + 1, g3, cap3, by omega, by go_num, rfl, HN.out.1, HN.out.2⟩
     case measure => simp [intOf]; omega
    ·obtain rfl : q = c := by omega
     go_wp2
     go_ret
     exact ⟨_, rfl, ⟨_, _, A, C, rfl, KOP.out.1.base KB3.out.size⟩, below2 KB3.out KOP.out.2⟩
theorem sCut_any (s : ByteArray) (k n : Int) (w : World) (hs : s.size ≤ 1048576) :
  Calls Tryz.prog 9 #[.string s, .int .i64 k, .int .i64 n] w fun e w' => ∃ v, e = .returned (.tuple #[v, .bool (encOk s k n)]) ∧ ResP w w' v (cutR s k n) (cutP k n.toNat (encS s k.toNat)) ∧ Below w.heap.size w w' := by
 have KE : Hid (Calls Tryz.prog 33 #[.string s, .int .i64 k, .int .i64 n] w fun e w' => ∃ v, e = .returned (.tuple #[v, .bool (encOk s k n)]) ∧ ResT w w' v (encR s k n) (encS s k.toNat) ∧ Below w.heap.size w w') := sEncode_any s k n w hs
 unfold cutR
 cases hok : encOk s k n with
 | false =>
  rw [hok] at KE
  obtain ⟨P, HP⟩ : ∃ P, Hid (cutP k n.toNat (encS s k.toNat) = P) := ⟨_, rfl⟩
  rw [HP.out]
  go_enter Tryz.func9, Tryz.ntmps9
  go_wp2_with fail
  refine Calls.mono KE.out ?_
  rintro e w1 ⟨v, rfl, _, b1⟩
  have HO : Hid (OwnP (w1.alloc (.cells #[] 33)) w.heap.size (some ⟨w1.heap.size, 0, none⟩) 0 0 (fun _ => none) (fun _ => 0) P) := ⟨World.ownsRow_lit w1 #[] 0 b1.size (by unfold maxLen; omega) rfl, fun i hi => absurd hi (Nat.not_lt_zero _), fun i j x y _ hj => absurd hj (Nat.not_lt_zero _), fun i x y hi => absurd hi (Nat.not_lt_zero _)⟩
  go_wp2
  go_ret2
  exact ⟨_, rfl, ⟨_, _, _, _, rfl, HO.out⟩, b1.alloc b1.size _⟩
 | true =>
  obtain ⟨h1, h2, h3, h4⟩ := encOk_parts hok
  have hR : encR s k n = n.toNat := by unfold encR; rw [hok]; rfl
  have hle := fun i => encS_le hok i
  rw [hok, hR] at KE
  rw [if_pos rfl]
  obtain ⟨N, rfl⟩ : ∃ N : Nat, n = (N : Int) := ⟨n.toNat, by omega⟩
  rw [Int.toNat_natCast] at KE ⊢
  generalize encS s k.toNat = S at KE hle ⊢
  clear h1 h2 h3 hok hR
  go_enter Tryz.func9, Tryz.ntmps9
  go_wp2_with fail
  refine Calls.mono KE.out ?_
  rintro e w1 ⟨v, rfl, ⟨aE, cE, rfl, O1⟩, b1⟩
  have A1 : TxtAt w1 aE N S := OwnT.at O1
  clear O1
  go_wp2_with fail
  refine Calls.mono (sAll_any k aE N cE S _ A1 (by omega) (fun i _ => by have := hle i; omega)) ?_
  rintro e w2 ⟨v2, rfl, ⟨a2, c2, A2, C2, rfl, O2⟩, b2⟩
  have KO2 : Hid (OwnP w2 w.heap.size (some ⟨a2, 0, none⟩) N c2 A2 C2 (cutP k N S)) := O2.base b1.size
  clear O2 A1
  go_wp2
  go_ret2
  exact ⟨_, rfl, ⟨_, _, _, _, rfl, KO2.out⟩, below2 b1 b2⟩
theorem sRootOf_any (s : ByteArray) (k n : Int) (w : World) (hs : s.size ≤ 1048576) :
  Calls Tryz.prog 11 #[.string s, .int .i64 k, .int .i64 n] w fun e w' => e = .returned (.string (rof s k n)) ∧ Below w.heap.size w w' := by
 have KE : Hid _ := sCut_any s k n w hs
 unfold rof
 unfold cutR at KE
 cases hok : encOk s k n with
 | false =>
  rw [hok] at KE
  go_enter Tryz.func11, Tryz.ntmps11
  go_wp2_with fail
  refine Calls.mono KE.out ?_
  rintro e w1 ⟨v, rfl, _, b1⟩
  go_wp2
  go_ret
  exact ⟨rfl, b1⟩
 | true =>
  obtain ⟨h1, h2, h3, h4⟩ := encOk_parts hok
  rw [hok, if_pos rfl] at KE
  rw [if_pos rfl]
  obtain ⟨N, rfl⟩ : ∃ N : Nat, n = (N : Int) := ⟨n.toNat, by omega⟩
  rw [Int.toNat_natCast] at KE ⊢
  generalize encS s k.toNat = S at KE ⊢
  have hN : 0 < N := by omega
  clear hok h1
  go_enter Tryz.func11, Tryz.ntmps11
  go_wp2_with fail
  refine Calls.mono KE.out ?_
  rintro e w1 ⟨v, rfl, ⟨a2, c2, A2, C2, rfl, O2⟩, b1⟩
  obtain ⟨b', off', ap, cp, e', hc, _⟩ := O2.at 0 hN
  cases e'
  have hc0 := hc 0 (by omega)
  obtain ⟨rt, HRT⟩ : ∃ rt, Hid (rtS N (lvs k N S) = rt) := ⟨_, rfl⟩
  have hc1 : w1.cell? ⟨a2, 0, none⟩ = some (.string rt) := by rw [← HRT.out]; exact hc0
  have hNi : (0 : Int) < (N : Int) := by omega
  clear O2 hc hc0 h2 h3 h4
  go_wp2
  go_ret
  exact ⟨by rw [HRT.out]; rfl, b1⟩
theorem OwnP.congr {w : World} {B : Nat} {a : Option Addr} {n cap : Nat} {A : Nat → Option Addr} {C : Nat → Nat} {P P' : Nat → Pc} (h : OwnP w B a n cap A C P) (e : ∀ i, i < n → P i = P' i) : OwnP w B a n cap A C P' :=
 ⟨h.1.congr (fun i q hi _ => by rw [e i hi]), fun i hi => by rw [← e i hi]; exact h.2.1 i hi, h.2.2⟩
theorem PiAt.own {w : World} {g n : Nat} {P : Nat → Pc} (h : PiAt w (some ⟨g, 0, none⟩) n P) {i : Nat} (hi : i < n) : ∃ ap cp, (∀ q, q < 6 → w.cell? ⟨g, i * 6 + q, none⟩ = some (cel (P i) (.slice ap (P i).m cp) q)) ∧ TxtAt w ap (P i).m (P i).S := by
 obtain ⟨b, off, ap, cp, e, hc, ht⟩ := h i hi
 cases e
 exact ⟨ap, cp, fun q hq => by have := hc q hq; rwa [Nat.zero_add] at this, ht⟩
theorem kn04_any (g n cap : Nat) (a : Option Addr) (w : World) (hc : Cur w g a n cap) :
  Calls Tryz.prog 28 #[.pointer (some ⟨g, 0, none⟩)] w fun e w' => ∃ x y : Int, e = .returned (.tuple #[.int .i64 x, .int .i64 y]) ∧ w.grownBy w' (some g) ∧ Cur w' g a n cap := by
 go_enter Tryz.func28, Tryz.ntmps28
 go_wp2_with fail
 refine (belowN_any g n cap a _ _ hc).mono ?_
 rintro e w1 ⟨x, x0, x1, _, rfl, hg1, hc1⟩
 have x2 := x1 (by omega)
 have hw : IntKind.i64.wrap (1 + x) = 1 + x := by rw [IntKind.wrap_i64]; omega
 clear x1
 go_wp2_with fail
 refine (belowN_any g n cap a _ _ hc1).mono ?_
 rintro e w2 ⟨y, y0, y1, _, rfl, hg2, hc2⟩
 have y2 := y1 (by omega)
 have hw2 : IntKind.i64.wrap (1 + y) = 1 + y := by rw [IntKind.wrap_i64]; omega
 clear y1
 go_wp2_with fail
 refine (once_any g n cap a _ _ hc2).mono ?_
 rintro e w3 ⟨b, rfl, hg3, hc3⟩
 have hg13 := grownBy_trans hg1 (grownBy_trans hg2 hg3)
 clear hg1 hg2 hg3 hc1 hc2
 cases b
 ·go_wp2
  go_ret2
  exact ⟨_, _, rfl, hg13, hc3⟩
 ·have hlt := hc3.lt
  have hw3 : IntKind.i64.wrap (1 + x + 1) = 1 + x + 1 := by rw [IntKind.wrap_i64]; omega
  go_wp2_with fail
  refine (pick_any g n cap a w3.heap.size 0 3 3 _ (hc3.alloc _) (by omega) (by omega) (by omega) (lit_cells (cs := [0, 1 + y, 1 + x + 1]))).mono ?_
  rintro e w4 ⟨z, rfl, hg4, hc4⟩
  have hlt4 := hc4.lt
  have hg14 := grownBy_trans hg13 (grownBy_trans (World.grownBy_alloc w3 _ _) hg4)
  go_wp2_with fail
  refine (pick_any g n cap a w4.heap.size 0 3 3 _ (hc4.alloc _) (by omega) (by omega) (by omega) (lit_cells (cs := [0, 16, 17]))).mono ?_
  rintro e w5 ⟨t, rfl, hg5, hc5⟩
  go_wp2
  go_ret2
  exact ⟨_, _, rfl, grownBy_trans hg14 (grownBy_trans (World.grownBy_alloc w4 _ _) hg5), hc5⟩
theorem drawCut_any (a : Option Addr) (n cap : Nat) (w : World) (hc : CodeAt w a n) :
  Calls Tryz.prog 7 #[.slice a n cap] w fun e w' => ∃ (s : ByteArray) (x y : Int), s.size ≤ 2001 ∧ e = .returned (.tuple #[.string s, .int .i64 x, .int .i64 y]) ∧ Below w.heap.size w w' := by
 go_enter Tryz.func7, Tryz.ntmps7
 go_wp2_with fail
 refine (new_any a n cap _ hc.1 hc.bytes).mono ?_
 rintro e w1 ⟨g, rfl, hg, hb1, hc1⟩
 have hab := hc.under hg
 clear hc
 go_wp2_with fail
 refine (kn04_any g n cap a _ hc1).mono ?_
 rintro e w2 ⟨x, y, rfl, hg2, hc2⟩
 go_wp2_with fail
 refine (data04_any g n cap a _ hc2 hab).mono ?_
 rintro e w3 ⟨s, hs, rfl, hg3, hc3⟩
 have B3 : Hid (Below w.heap.size w w3) := belowOf hb1 hg (grownBy_trans hg2 hg3)
 clear hb1 hg2 hg3 hc1 hc2 hc3
 go_wp2
 refine bodyPost_ret (v := .tuple #[.string s, .int .i64 x, .int .i64 y]) (by simp [results, Tryz.results7, go_sem]) rfl ⟨s, x, y, hs, rfl, B3.out⟩
theorem drawPieceLeaf_any (a : Option Addr) (n cap : Nat) (w : World) (hc : CodeAt w a n) :
  Calls Tryz.prog 16 #[.slice a n cap] w fun e w' => ∃ (x y z : Int) (s : ByteArray), s.size ≤ 9 ∧ e = .returned (.tuple #[.int .i64 x, .int .i64 y, .int .i64 z, .string s]) ∧ Below w.heap.size w w' := by
 go_enter Tryz.func16, Tryz.ntmps16
 go_wp2_with fail
 refine (new_any a n cap _ hc.1 hc.bytes).mono ?_
 rintro e w1 ⟨g, rfl, hg, hb1, hc1⟩
 have hab := hc.under hg
 clear hc
 go_wp2_with fail
 refine (elem_any g n cap a _ hc1).mono ?_
 rintro e w2 ⟨x, rfl, hg2, hc2⟩
 go_wp2_with fail
 refine (elem_any g n cap a _ hc2).mono ?_
 rintro e w3 ⟨y, rfl, hg3, hc3⟩
 go_wp2_with fail
 refine (elem_any g n cap a _ hc3).mono ?_
 rintro e w4 ⟨z, rfl, hg4, hc4⟩
 go_wp2_with fail
 refine (belowN_any g n cap a _ _ hc4).mono ?_
 rintro e w5 ⟨q, q0, q1, _, rfl, hg5, hc5⟩
 have q2 := q1 (by omega)
 obtain ⟨m, rfl⟩ := Int.eq_ofNat_of_zero_le q0
 clear q1
 go_wp2_with fail
 refine (bytes_any g n cap a m _ hc5 hab (by omega)).mono ?_
 rintro e w6 ⟨s, hs, rfl, hg6, hc6⟩
 have B6 : Hid (Below w.heap.size w w6) := belowOf hb1 hg (grownBy_trans hg2 (grownBy_trans hg3 (grownBy_trans hg4 (grownBy_trans hg5 hg6))))
 clear hb1 hg2 hg3 hg4 hg5 hg6 hc1 hc2 hc3 hc4 hc5 hc6
 go_wp2
 refine bodyPost_ret (v := .tuple #[.int .i64 x, .int .i64 y, .int .i64 z, .string s]) (by simp [results, Tryz.results16, go_sem]) rfl ⟨x, y, z, s, by omega, rfl, B6.out⟩
end Go.Proofs.YtihklfkhjpnjkaaGreatDoor
