/- The lists of texts that chapter 6's draws make: at most 65 texts of at most sixteen bytes. Conditions: a cursor over at most 2^20 bytes. -/
import Derived.Test.YtahgdbmilflcmaaDrawT
import Derived.Test.YtahgdbmilflcmaaApps
import Derived.Test.YtahgdbmilflcmaaStrs
import Derived.Test.YtahgdbmilflcmaaTLeaf
namespace Go.Proofs.Ytahgdbmilflcmaa
set_option maxRecDepth 2000
open Go.ChangeShapes Go.WideShapes Go.ChangeAt Go.RowKit

set_option maxHeartbeats 400000 in
theorem pickOf_any (Pz : Int → Prop) (g n cap : Nat) (a : Option Addr) (lb off m lc : Nat) (w : World) (hc : Cur w g a n cap) (hm : 0 < m) (hm2 : m ≤ 256) (hl : lb ≠ g)
    (hcell : ∀ i, i < m → ∃ z, Pz z ∧ w.cell? ⟨lb, off + i, none⟩ = some (.int .i64 z)) :
    Calls Try.prog 68 #[.pointer (some ⟨g, 0, none⟩), .slice (some ⟨lb, off, none⟩) m lc] w fun e w' => ∃ x : Int, Pz x ∧ e = .returned (.int .i64 x) ∧ w.grownBy w' (some g) ∧ Cur w' g a n cap := by
  go_enter Try.func68, Try.ntmps68
  go_wp2_with fail
  refine (belowN_any g n cap a _ _ hc).mono ?_
  rintro e w1 ⟨x, x0, x1, _, rfl, hg, hc1⟩
  have x2 := x1 (by omega)
  obtain ⟨k, rfl⟩ := Int.eq_ofNat_of_zero_le x0
  obtain ⟨z, pz, hz⟩ := hcell k (by omega)
  have hz1 := hg.cell hz (by simpa using hl)
  have HZ : Hid (Pz z) := pz
  clear hcell hz x1 pz
  go_wp2
  go_ret
  exact ⟨_, HZ.out, rfl, hg, hc1⟩
theorem lits06 {w : World} {ty : TypeId} : ∀ i, i < 4 → ∃ z : Int, (0 ≤ z ∧ z ≤ 65) ∧ (w.alloc (.cells #[.int .i64 0, .int .i64 16, .int .i64 64, .int .i64 65] ty)).cell? ⟨w.heap.size, 0 + i, none⟩ = some (.int .i64 z) := by
  intro i hi
  rw [Nat.zero_add, cell_of_row _ _ _ _ ty _ (heap_alloc_new w _)]
  match i, hi with
  | 0, _ => exact ⟨0, by omega, rfl⟩
  | 1, _ => exact ⟨16, by omega, rfl⟩
  | 2, _ => exact ⟨64, by omega, rfl⟩
  | 3, _ => exact ⟨65, by omega, rfl⟩
/-- A step that turns a block laid since. -/
theorem grown_since {w A B : World} {g G : Nat} (h : w.grownBy A (some g)) (k : A.grownBy B (some G)) (hG : w.heap.size ≤ G) : w.grownBy B (some g) :=
  ⟨k.os.trans h.os, k.tape.trans h.tape, k.output.trans h.output, Nat.le_trans h.size k.size, fun j hj hn => (k.block j (Nat.lt_of_lt_of_le hj h.size) (fun e => by cases e; omega)).trans (h.block j hj hn)⟩
theorem curBelow {w w' : World} {g n cap : Nat} {a : Option Addr} (h : Cur w g a n cap) (hb : Below w.heap.size w w') : Cur w' g a n cap :=
  h.kept (row := none) ⟨hb.os, hb.tape, hb.output, hb.size, fun k hk _ => hb.block k hk⟩ (by simp) (by simp)

/-- Behind the choice of how many: the texts, one by one. -/
abbrev L6 (w wr : World) (g n cap : Nat) (a : Option Addr) (k : Nat) (v : Value) : Prop :=
  ∃ (G c : Nat) (S : Nat → ByteArray), v = .slice (some ⟨G, 0, none⟩) k c ∧ OwnT wr w.heap.size (some ⟨G, 0, none⟩) k c S ∧ (∀ i, i < k → (S i).size ≤ 16) ∧ w.grownBy wr (some g) ∧ Cur wr g a n cap

set_option maxHeartbeats 2000000 in
theorem list06_any (g n cap : Nat) (a : Option Addr) (w : World) (hc : Cur w g a n cap) (hab : Under a n g) :
    Calls Try.prog 36 #[.pointer (some ⟨g, 0, none⟩)] w fun e w' => ∃ (m : Nat) (v : Value), m ≤ 65 ∧ e = .returned v ∧ L6 w w' g n cap a m v := by
  obtain ⟨i0, hi, hz0, hz1, hz2⟩ := info_parts Try.infoStr
  have hgl := hc.lt
  have K0 : Hid (OwnT (w.alloc (.cells #[] 9)) w.heap.size (some ⟨w.heap.size, 0, none⟩) 0 0 (fun _ => ByteArray.empty) ∧ w.grownBy (w.alloc (.cells #[] 9)) (some g) ∧ Cur (w.alloc (.cells #[] 9)) g a n cap) := ⟨litT w _, World.grownBy_alloc _ _ _, hc.alloc _⟩
  go_enter Try.func36, Try.ntmps36
  go_wp2_with fail
  refine (belowN_any g n cap a 9 _ K0.out.2.2).mono ?_
  rintro e w1 ⟨x, x0, x1, _, rfl, hg1, hc1⟩
  have x2 := x1 (by omega)
  have K1 : Hid (OwnT w1 w.heap.size (some ⟨w.heap.size, 0, none⟩) 0 0 (fun _ => ByteArray.empty) ∧ w.grownBy w1 (some g)) := ⟨own_kept K0.out.1 hg1 (fun y e => by cases e; simp; omega), grownBy_trans K0.out.2.1 hg1⟩
  have hwx : IntKind.i64.wrap (1 + x) = 1 + x := by rw [IntKind.wrap_i64]; omega
  clear hg1 x1 K0
  go_wp2_with fail
  refine (once_any g n cap a _ _ hc1).mono ?_
  rintro e w2 ⟨d, rfl, hg2, hc2⟩
  have K2 : Hid (OwnT w2 w.heap.size (some ⟨w.heap.size, 0, none⟩) 0 0 (fun _ => ByteArray.empty) ∧ w.grownBy w2 (some g)) := ⟨own_kept K1.out.1 hg2 (fun y e => by cases e; simp; omega), grownBy_trans K1.out.2 hg2⟩
  clear hg2 hc1 K1
  have main : ∀ (m : Nat) (W : World), m ≤ 65 → Hid (OwnT W w.heap.size (some ⟨w.heap.size, 0, none⟩) 0 0 (fun _ => ByteArray.empty) ∧ w.grownBy W (some g) ∧ Cur W g a n cap) → True := fun _ _ _ _ => trivial
  clear main
  cases d with
  | true =>
    have hl2 := hc2.lt
    go_wp2_with fail
    refine (pickOf_any (fun z => 0 ≤ z ∧ z ≤ 65) g n cap a w2.heap.size 0 4 4 _ (hc2.alloc _) (by omega) (by omega) (by omega) lits06).mono ?_
    rintro e w3 ⟨y, hy, rfl, hg3, hc3⟩
    obtain ⟨m, rfl⟩ := Int.eq_ofNat_of_zero_le hy.1
    have hm : m ≤ 65 := by omega
    have K3 : Hid (OwnT w3 w.heap.size (some ⟨w.heap.size, 0, none⟩) 0 0 (fun _ => ByteArray.empty) ∧ w.grownBy w3 (some g) ∧ Cur w3 g a n cap) := ⟨own_kept (World.ownsRow.alloc K2.out.1 _) hg3 (fun y e => by cases e; simp; omega), grownBy_trans (grownBy_trans K2.out.2 (World.grownBy_alloc w2 _ _)) hg3, hc3⟩
    clear hg3 hc3 hc2 hy x0 x2 hwx K2
    go_wp2
    go_loopw [3, 5] (fun v vi wr => ∃ k : Nat, k ≤ m ∧ vi = .int .i64 (k : Int) ∧ L6 w wr g n cap a k v) (fun _ vi _ => m - (intOf vi).toNat)
    case atStart => exact ⟨0, Nat.zero_le _, rfl, w.heap.size, 0, _, rfl, K3.out.1, fun i hi => by omega, K3.out.2.1, K3.out.2.2⟩
    case round =>
      obtain ⟨k, hk, rfl, G, c, S, rfl, ho, h16, hg, hcu⟩ := hrel
      have lG := World.ownsRow.lt ho _ rfl
      have KO : Hid (OwnT wr w.heap.size (some ⟨G, 0, none⟩) k c S ∧ (∀ i, i < k → (S i).size ≤ 16) ∧ w.grownBy wr (some g)) := ⟨ho, h16, hg⟩
      clear ho h16 hg K3
      by_cases hlt : k < m
      · have hlti : (k : Int) < (m : Int) := by omega
        go_wp2_with fail
        refine (belowN_any g n cap a 4 _ hcu).mono ?_
        rintro e w4 ⟨x, x0, x1, _, rfl, hg4, hc4⟩
        have x2 := x1 (by omega)
        obtain ⟨q, rfl⟩ := Int.eq_ofNat_of_zero_le x0
        go_wp2_with fail
        refine (bytes_any g n cap a q _ hc4 hab (by omega)).mono ?_
        rintro e w5 ⟨t, ht, rfl, hg5, hc5⟩
        have hts : t.size ≤ 1048576 := by omega
        go_wp2_with fail
        refine (sleaf_any t _ hts).mono ?_
        rintro e w6 ⟨rfl, hb6⟩
        have HZ : Hid ((Gt.lf t).size = 16) := Gt.lf_size t
        generalize Gt.lf t = z at HZ
        have K6 : Hid (OwnT w6 w.heap.size (some ⟨G, 0, none⟩) k c S ∧ w.grownBy w6 (some g) ∧ Cur w6 g a n cap) := by
          refine ⟨OwnT.below (own_kept (own_kept KO.out.1 hg4 (fun y e => by cases e; simp; omega)) hg5 (fun y e => by cases e; simp; omega)) hb6, ?_, curBelow hc5 hb6⟩
          exact grownBy_trans (grownBy_trans (grownBy_trans KO.out.2.2 hg4) hg5) ⟨hb6.os, hb6.tape, hb6.output, hb6.size, fun j hj _ => hb6.block j hj⟩
        have hsz6 := K6.out.2.1.size
        clear hg4 hg5 hb6 hc4 hc5 hcu x1 ht hts
        go_wp2_with (at_builtin; refine wpList_append_all _ (by rfl) _ _ 24 (by rfl) w.heap.size 9 i0 (.string ByteArray.empty) 1 16 Try.underlying24 hi hz0 hz1 hz2 rfl (by decide) G k c _ (by rfl) (World.ownsRow.alloc K6.out.1 _) ⟨w6.heap.size, 0, none⟩ 1 1 [.string z] (by rfl) (by rfl) (World.news_of_block (cs := #[.string z]) (t := 9) (fr := (0, 0)) (heap_alloc_new w6 _)) (by simp [Value.oneCell']) (by unfold maxLen; omega) (by omega) (by simp; omega) ?_; intro g3 cap3 w7 hown3 hgrow3)
        have hgr : World.grownBy (w6.alloc (.cells #[.string z] 9)) w7 (some G) := hgrow3
        have HL : Hid (L6 w w7 g n cap a (k + 1) (.slice (some ⟨g3, 0, none⟩) (k + 1) cap3)) := by
          refine ⟨g3, cap3, fun j => if j = k then z else S j, rfl, ?_, ?_, grown_since (grownBy_trans K6.out.2.1 (World.grownBy_alloc w6 _ _)) hgr lG.1, Cur.far (K6.out.2.2.alloc _) hgr (by omega) hab⟩
          · have hx : sL (fun j => if j = k then z else S j) (k + 1) = sL S k ++ [Value.string z] := by
              rw [sL_snoc, sL_congr (S' := S) (fun i hi => by rw [if_neg (by omega)])]
              simp
            unfold OwnT
            rw [hx]
            exact hown3
          · intro i hi
            by_cases e : i = k
            · simp [e, HZ.out]
            · simp [e]; exact KO.out.2.1 i (by omega)
        clear hown3 hgrow3 hgr K6 KO
        go_roundw
        case rel => exact ⟨k + 1, by omega, by go_num, HL.out⟩
        case measure => simp [intOf]; omega
      · obtain rfl : k = m := by omega
        have hkk : ¬ (k : Int) < (k : Int) := by omega
        by_cases hm0 : 0 < k
        · have hm0' : (0 : Int) < (k : Int) := by omega
          go_wp2_with fail
          refine (once_any g n cap a _ _ hcu).mono ?_
          rintro e w8 ⟨d2, rfl, hg8, hc8⟩
          have K8 : Hid (OwnT w8 w.heap.size (some ⟨G, 0, none⟩) k c S ∧ w.grownBy w8 (some g)) := ⟨own_kept KO.out.1 hg8 (fun y e => by cases e; simp; omega), grownBy_trans KO.out.2.2 hg8⟩
          clear hg8 hcu
          cases d2 with
          | false =>
            go_wp2
            go_ret
            exact ⟨k, _, hm, rfl, G, c, S, rfl, K8.out.1, KO.out.2.1, K8.out.2, hc8⟩
          | true =>
            go_wp2_with fail
            refine (belowN_any g n cap a (k : Int) _ hc8).mono ?_
            rintro e w9 ⟨x, x0, x1, _, rfl, hg9, hc9⟩
            have x2 := x1 (by omega)
            obtain ⟨q, rfl⟩ := Int.eq_ofNat_of_zero_le x0
            have hq : q < k := by omega
            have K9 : Hid (OwnT w9 w.heap.size (some ⟨G, 0, none⟩) k c S ∧ w.grownBy w9 (some g)) := ⟨own_kept K8.out.1 hg9 (fun y e => by cases e; simp; omega), grownBy_trans K8.out.2 hg9⟩
            have hst := World.ownsRow.stored K9.out.1 q (.string ⟨#[115, 104, 111, 114, 116]⟩)
            rw [sL_set _ _ _ _ hq] at hst
            have HF : Hid (L6 w (w9.setCell ⟨G, q, none⟩ (.string ⟨#[115, 104, 111, 114, 116]⟩)) g n cap a k (.slice (some ⟨G, 0, none⟩) k c)) := by
              refine ⟨G, c, _, rfl, hst.1, fun i hi => ?_, grown_since K9.out.2 (grown_set _ _ _ _) lG.1, Cur.far hc9 (grown_set _ _ _ _) (by omega) hab⟩
              by_cases e : i = q
              · simp only [e, if_true]; decide
              · simp only [e, if_false]; exact KO.out.2.1 i hi
            have cq : w9.cell? ⟨G, q, none⟩ = some (.string (S q)) := by
              have := (OwnT.at K9.out.1) q hq
              obtain ⟨b', off', eq, hcc⟩ := this
              cases eq
              simpa using hcc
            have fq := World.ownsRow.frozenAt K9.out.1 q
            have hqi : (q : Int) < (k : Int) := by omega
            generalize S q = old at cq
            clear hst hg9 x1 hc9 hc8 K8 K9 KO
            go_wp2
            go_ret
            exact ⟨k, _, hm, rfl, HF.out⟩
        · have hm0' : ¬ (0 : Int) < (k : Int) := by omega
          have HF : Hid (∃ (m : Nat) (v : Value), m ≤ 65 ∧ Ending.returned (.slice (some ⟨G, 0, none⟩) k c) = Ending.returned v ∧ L6 w wr g n cap a m v) := ⟨k, _, hm, rfl, G, c, S, rfl, KO.out.1, KO.out.2.1, KO.out.2.2, hcu⟩
          obtain rfl : k = 0 := by omega
          clear KO
          go_wp2
          go_ret
          obtain ⟨m9, v9, q1, q2, q3⟩ := HF.out
          exact ⟨m9, q1, v9, q2, q3⟩
  | false =>
    obtain ⟨m, hmx⟩ : ∃ m : Nat, 1 + x = (m : Int) := ⟨(1 + x).toNat, by omega⟩
    have hm : m ≤ 65 := by omega
    rw [hmx] at hwx
    have K3 : Hid (OwnT w2 w.heap.size (some ⟨w.heap.size, 0, none⟩) 0 0 (fun _ => ByteArray.empty) ∧ w.grownBy w2 (some g) ∧ Cur w2 g a n cap) := ⟨K2.out.1, K2.out.2, hc2⟩
    clear hc2 K2
    go_wp2
    try rw [hmx]
    clear x0 x2 hwx hmx
    go_loopw [3, 5] (fun v vi wr => ∃ k : Nat, k ≤ m ∧ vi = .int .i64 (k : Int) ∧ L6 w wr g n cap a k v) (fun _ vi _ => m - (intOf vi).toNat)
    case atStart => exact ⟨0, Nat.zero_le _, rfl, w.heap.size, 0, _, rfl, K3.out.1, fun i hi => by omega, K3.out.2.1, K3.out.2.2⟩
    case round =>
      obtain ⟨k, hk, rfl, G, c, S, rfl, ho, h16, hg, hcu⟩ := hrel
      have lG := World.ownsRow.lt ho _ rfl
      have KO : Hid (OwnT wr w.heap.size (some ⟨G, 0, none⟩) k c S ∧ (∀ i, i < k → (S i).size ≤ 16) ∧ w.grownBy wr (some g)) := ⟨ho, h16, hg⟩
      clear ho h16 hg K3
      by_cases hlt : k < m
      · have hlti : (k : Int) < (m : Int) := by omega
        go_wp2_with fail
        refine (belowN_any g n cap a 4 _ hcu).mono ?_
        rintro e w4 ⟨x, x0, x1, _, rfl, hg4, hc4⟩
        have x2 := x1 (by omega)
        obtain ⟨q, rfl⟩ := Int.eq_ofNat_of_zero_le x0
        go_wp2_with fail
        refine (bytes_any g n cap a q _ hc4 hab (by omega)).mono ?_
        rintro e w5 ⟨t, ht, rfl, hg5, hc5⟩
        have hts : t.size ≤ 1048576 := by omega
        go_wp2_with fail
        refine (sleaf_any t _ hts).mono ?_
        rintro e w6 ⟨rfl, hb6⟩
        have HZ : Hid ((Gt.lf t).size = 16) := Gt.lf_size t
        generalize Gt.lf t = z at HZ
        have K6 : Hid (OwnT w6 w.heap.size (some ⟨G, 0, none⟩) k c S ∧ w.grownBy w6 (some g) ∧ Cur w6 g a n cap) := by
          refine ⟨OwnT.below (own_kept (own_kept KO.out.1 hg4 (fun y e => by cases e; simp; omega)) hg5 (fun y e => by cases e; simp; omega)) hb6, ?_, curBelow hc5 hb6⟩
          exact grownBy_trans (grownBy_trans (grownBy_trans KO.out.2.2 hg4) hg5) ⟨hb6.os, hb6.tape, hb6.output, hb6.size, fun j hj _ => hb6.block j hj⟩
        have hsz6 := K6.out.2.1.size
        clear hg4 hg5 hb6 hc4 hc5 hcu x1 ht hts
        go_wp2_with (at_builtin; refine wpList_append_all _ (by rfl) _ _ 24 (by rfl) w.heap.size 9 i0 (.string ByteArray.empty) 1 16 Try.underlying24 hi hz0 hz1 hz2 rfl (by decide) G k c _ (by rfl) (World.ownsRow.alloc K6.out.1 _) ⟨w6.heap.size, 0, none⟩ 1 1 [.string z] (by rfl) (by rfl) (World.news_of_block (cs := #[.string z]) (t := 9) (fr := (0, 0)) (heap_alloc_new w6 _)) (by simp [Value.oneCell']) (by unfold maxLen; omega) (by omega) (by simp; omega) ?_; intro g3 cap3 w7 hown3 hgrow3)
        have hgr : World.grownBy (w6.alloc (.cells #[.string z] 9)) w7 (some G) := hgrow3
        have HL : Hid (L6 w w7 g n cap a (k + 1) (.slice (some ⟨g3, 0, none⟩) (k + 1) cap3)) := by
          refine ⟨g3, cap3, fun j => if j = k then z else S j, rfl, ?_, ?_, grown_since (grownBy_trans K6.out.2.1 (World.grownBy_alloc w6 _ _)) hgr lG.1, Cur.far (K6.out.2.2.alloc _) hgr (by omega) hab⟩
          · have hx : sL (fun j => if j = k then z else S j) (k + 1) = sL S k ++ [Value.string z] := by
              rw [sL_snoc, sL_congr (S' := S) (fun i hi => by rw [if_neg (by omega)])]
              simp
            unfold OwnT
            rw [hx]
            exact hown3
          · intro i hi
            by_cases e : i = k
            · simp [e, HZ.out]
            · simp [e]; exact KO.out.2.1 i (by omega)
        clear hown3 hgrow3 hgr K6 KO
        go_roundw
        case rel => exact ⟨k + 1, by omega, by go_num, HL.out⟩
        case measure => simp [intOf]; omega
      · obtain rfl : k = m := by omega
        have hkk : ¬ (k : Int) < (k : Int) := by omega
        by_cases hm0 : 0 < k
        · have hm0' : (0 : Int) < (k : Int) := by omega
          go_wp2_with fail
          refine (once_any g n cap a _ _ hcu).mono ?_
          rintro e w8 ⟨d2, rfl, hg8, hc8⟩
          have K8 : Hid (OwnT w8 w.heap.size (some ⟨G, 0, none⟩) k c S ∧ w.grownBy w8 (some g)) := ⟨own_kept KO.out.1 hg8 (fun y e => by cases e; simp; omega), grownBy_trans KO.out.2.2 hg8⟩
          clear hg8 hcu
          cases d2 with
          | false =>
            go_wp2
            go_ret
            exact ⟨k, _, hm, rfl, G, c, S, rfl, K8.out.1, KO.out.2.1, K8.out.2, hc8⟩
          | true =>
            go_wp2_with fail
            refine (belowN_any g n cap a (k : Int) _ hc8).mono ?_
            rintro e w9 ⟨x, x0, x1, _, rfl, hg9, hc9⟩
            have x2 := x1 (by omega)
            obtain ⟨q, rfl⟩ := Int.eq_ofNat_of_zero_le x0
            have hq : q < k := by omega
            have K9 : Hid (OwnT w9 w.heap.size (some ⟨G, 0, none⟩) k c S ∧ w.grownBy w9 (some g)) := ⟨own_kept K8.out.1 hg9 (fun y e => by cases e; simp; omega), grownBy_trans K8.out.2 hg9⟩
            have hst := World.ownsRow.stored K9.out.1 q (.string ⟨#[115, 104, 111, 114, 116]⟩)
            rw [sL_set _ _ _ _ hq] at hst
            have HF : Hid (L6 w (w9.setCell ⟨G, q, none⟩ (.string ⟨#[115, 104, 111, 114, 116]⟩)) g n cap a k (.slice (some ⟨G, 0, none⟩) k c)) := by
              refine ⟨G, c, _, rfl, hst.1, fun i hi => ?_, grown_since K9.out.2 (grown_set _ _ _ _) lG.1, Cur.far hc9 (grown_set _ _ _ _) (by omega) hab⟩
              by_cases e : i = q
              · simp only [e, if_true]; decide
              · simp only [e, if_false]; exact KO.out.2.1 i hi
            have cq : w9.cell? ⟨G, q, none⟩ = some (.string (S q)) := by
              have := (OwnT.at K9.out.1) q hq
              obtain ⟨b', off', eq, hcc⟩ := this
              cases eq
              simpa using hcc
            have fq := World.ownsRow.frozenAt K9.out.1 q
            have hqi : (q : Int) < (k : Int) := by omega
            generalize S q = old at cq
            clear hst hg9 x1 hc9 hc8 K8 K9 KO
            go_wp2
            go_ret
            exact ⟨k, _, hm, rfl, HF.out⟩
        · have hm0' : ¬ (0 : Int) < (k : Int) := by omega
          have HF : Hid (∃ (m : Nat) (v : Value), m ≤ 65 ∧ Ending.returned (.slice (some ⟨G, 0, none⟩) k c) = Ending.returned v ∧ L6 w wr g n cap a m v) := ⟨k, _, hm, rfl, G, c, S, rfl, KO.out.1, KO.out.2.1, KO.out.2.2, hcu⟩
          obtain rfl : k = 0 := by omega
          clear KO
          go_wp2
          go_ret
          obtain ⟨m9, v9, q1, q2, q3⟩ := HF.out
          exact ⟨m9, q1, v9, q2, q3⟩
end Go.Proofs.Ytahgdbmilflcmaa
