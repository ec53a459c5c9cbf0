/- Seats of which some are left out (slices.DeleteFunc), in the program. Conditions: lists of at most 2^20. -/
import Derived.Test.YtodpgbmpfflkoaaGreatDoorG44
import Derived.Test.YtodpgbmpfflkoaaGreatDoorG46
import Derived.Test.YtodpgbmpfflkoaaGreatDoorG11
import Derived.Test.YtodpgbmpfflkoaaGreatDoorG43
import Derived.Test.YtodpgbmpfflkoaaGreatDoorG34
import Derived.Test.YtodpgbmpfflkoaaGreatDoorG35
import Derived.Test.YtodpgbmpfflkoaaGreatDoorG16
namespace Go.Proofs.YtodpgbmpfflkoaaGreatDoor
set_option maxRecDepth 2000
open Go.ChangeShapes Go.WideShapes Go.ChangeAt Go.RowKit

/-- Each seat's cells are numbers, and a list. -/
def SeY (n : Nat) (y : Nat → Nat → Value) : Prop := ∀ i, i < n → ∃ (i0 f0 b0 b1 : Int) (an : Option Addr) (nn cn : Nat), y i 0 = .int .i64 i0 ∧ y i 1 = .int .i64 f0 ∧ y i 2 = .slice an nn cn ∧ y i 3 = .int .i64 b0 ∧ y i 4 = .int .i64 b1
/-- What stands when k are looked at, of whom j are kept. -/
def DeI (w : World) (B g n : Nat) (y : Nat → Nat → Value) (p : Nat → Bool) (k j : Nat) (wr : World) : Prop := ∃ z, wr.ownsRow B 101 5 (.slice (some ⟨g, 0, none⟩) n n) n (cL 5 z n) ∧ (∀ t, t < j → ∀ q, q < 5 → z t q = y ((kl p k).getD t 0) q) ∧ (∀ t, k ≤ t → t < n → ∀ q, q < 5 → z t q = y t q) ∧ Trn w wr (fun x => x = g)
theorem DeI.skip {w wr w' : World} {B g n : Nat} {y : Nat → Nat → Value} {p : Nat → Bool} {k j : Nat} (h : DeI w B g n y p k j wr) (hp : p k = true) (hb : Below wr.heap.size wr w') : DeI w B g n y p (k + 1) j w' := by
  obtain ⟨z, h1, h2, h3, h4⟩ := h
  refine ⟨z, ownsRow_below h1 hb, fun t ht q hq => ?_, fun t h5 h6 q hq => h3 t (by omega) h6 q hq, h4.trans (Trn.ofBelow _ hb)⟩
  rw [kl_succ, if_pos hp]
  exact h2 t ht q hq
theorem DeI.keep {w wr w' : World} {B g n : Nat} {y : Nat → Nat → Value} {p : Nat → Bool} {k j : Nat} (h : DeI w B g n y p k j wr) (hp : p k = false) (hj : j = (kl p k).length) (hjk : j < k) (hk : k < n) (hb : Below wr.heap.size wr w') : DeI w B g n y p (k + 1) (j + 1) (w'.setCells g (j * 5) [y k 0, y k 1, y k 2, y k 3, y k 4]) := by
  obtain ⟨z, h1, h2, h3, h4⟩ := h
  have h5 := own_setCells (show j < n by omega) [y k 0, y k 1, y k 2, y k 3, y k 4] 0 w' z rfl (ownsRow_below h1 hb)
  rw [Nat.add_zero] at h5
  refine ⟨_, h5, fun t ht q hq => ?_, fun t ha hb' q hq => ?_, (h4.trans (Trn.ofBelow _ hb)).trans (trn_setCells (F := fun x => x = g) _ rfl _ _)⟩
  · have ek : kl p (k + 1) = kl p k ++ [k] := by rw [kl_succ, if_neg (by rw [hp]; decide)]
    rw [ek]
    by_cases e : t = j
    · subst e
      have e1 : (kl p k ++ [k]).getD t 0 = k := by rw [hj]; simp
      rw [if_pos ⟨rfl, Nat.zero_le _⟩, e1]
      match q, hq with
      | 0, _ | 1, _ | 2, _ | 3, _ | 4, _ => rfl
    · rw [if_neg (fun h => e h.1), h2 t (by omega) q hq]
      have e1 : (kl p k ++ [k]).getD t 0 = (kl p k).getD t 0 := by
        rw [List.getD_eq_getElem?_getD, List.getD_eq_getElem?_getD, List.getElem?_append_left (by omega)]
      rw [e1]
  · rw [if_neg (fun h => by have := h.1; omega)]
    exact h3 t (by omega) hb' q hq
set_option maxHeartbeats 4000000 in
theorem delS_any (B g n L : Nat) (y : Nat → Nat → Value) (p : Nat → Bool) (w : World) (hO : w.ownsRow B 101 5 (.slice (some ⟨g, 0, none⟩) n n) n (cL 5 y n)) (hn : n ≤ 1048576) (hY : SeY n y)
    (hF : ∀ i, i < n → ∀ W, Trn w W (fun x => x = g) → Calls Tryz.prog 77 #[.agg #[y i 0, y i 1, y i 2, y i 3, y i 4], .pointer (some ⟨L, 0, none⟩)] W fun e w' => e = .returned (.bool (p i)) ∧ Below W.heap.size W w') :
    Calls Tryz.prog 75 #[.slice (some ⟨g, 0, none⟩) n n, .func (.func 77) #[] #[.pointer (some ⟨L, 0, none⟩)]] w fun e w' => ∃ z, e = .returned (.slice (some ⟨g, 0, none⟩) (kl p n).length n) ∧ w'.ownsRow B 101 5 (.slice (some ⟨g, 0, none⟩) n n) n (cL 5 z n) ∧ (∀ t, t < (kl p n).length → ∀ q, q < 5 → z t q = y ((kl p n).getD t 0) q) ∧ Trn w w' (fun x => x = g) := by
  have KI : Hid _ := ixS_any B g n n L y p w hO hn (fun i hi W hW => hF i hi W (Trn.ofBelow _ hW))
  have KO : Hid _ := hO
  have KF : Hid _ := hF
  have KY : Hid _ := hY
  clear hO hF hY
  cases hx : ixF p n 0 with
  | none =>
    have e1 : ixX p n = -1 := by unfold ixX; rw [hx]
    rw [e1] at KI
    have hal := ixF_none hx
    have e2 : kl p n = List.range n := kl_all (fun i hi => hal i (Nat.zero_le _) (by omega))
    have HE : Hid ((kl p n).length = n ∧ ∀ t, t < n → (kl p n).getD t 0 = t) := ⟨by rw [e2]; simp, fun t ht => by rw [e2, List.getD_eq_getElem?_getD, List.getElem?_range ht]; rfl⟩
    clear hx e1 hal e2
    go_enter Tryz.func75, Tryz.ntmps75
    go_wp2_with fail
    refine Calls.mono KI.out ?_
    rintro e w1 ⟨rfl, b1⟩
    have HF : Hid (w1.ownsRow B 101 5 (.slice (some ⟨g, 0, none⟩) n n) n (cL 5 y n) ∧ Trn w w1 (fun x => x = g)) := ⟨ownsRow_below KO.out b1, Trn.ofBelow _ b1⟩
    clear b1
    go_wp2
    go_ret
    refine ⟨y, by rw [HE.out.1]; rfl, HF.out.1, fun t ht q _ => ?_, HF.out.2⟩
    rw [HE.out.1] at ht
    rw [HE.out.2 t ht]
  | some x =>
    have e1 : ixX p n = (x : Int) := by unfold ixX; rw [hx]
    rw [e1] at KI
    obtain ⟨_, hxn', hpx, hal⟩ := ixF_some hx
    have hxn : x < n := by omega
    have e2 : kl p x = List.range x := kl_all (fun i hi => hal i (Nat.zero_le _) hi)
    have e3 : kl p (x + 1) = List.range x := by rw [kl_succ, if_pos hpx, e2]
    have hne : ¬ ((x : Int) = -1) := by omega
    have hne2 : ((x : Int) == -1) = false := by simp
    have hxw : IntKind.i64.wrap ((x : Int) + 1) = (x : Int) + 1 := by rw [IntKind.wrap_i64]; omega
    have HE3 : Hid ((kl p (x + 1)).length = x ∧ ∀ t, t < x → (kl p (x + 1)).getD t 0 = t) := ⟨by rw [e3]; simp, fun t ht => by rw [e3, List.getD_eq_getElem?_getD, List.getElem?_range ht]; rfl⟩
    clear hx e1 hal e2 e3 hxn' hpx
    go_enter Tryz.func75, Tryz.ntmps75
    go_wp2_with fail
    refine Calls.mono KI.out ?_
    rintro e w1 ⟨rfl, b1⟩
    have H0 : Hid (DeI w B g n y p (x + 1) x w1) := ⟨y, ownsRow_below KO.out b1, fun t ht q _ => by rw [HE3.out.2 t ht], fun t _ _ q _ => rfl, Trn.ofBelow _ b1⟩
    clear b1 KI
    go_wp2
    go_loopw [5, 6] (fun vi vj wr => ∃ k j : Nat, j < k ∧ k ≤ n ∧ vj = .int .i64 (k : Int) ∧ vi = .int .i64 (j : Int) ∧ Hid (j = (kl p k).length ∧ DeI w B g n y p k j wr)) (fun _ vj _ => n - (intOf vj).toNat)
    case atStart => exact ⟨x + 1, x, by omega, by omega, by simp, rfl, HE3.out.1.symm, H0.out⟩
    case round =>
      obtain ⟨k, j, hjk, hk, rfl, rfl, HR⟩ := hrel
      clear H0 HE3 hne hne2 hxw
      by_cases hlt : k < n
      · have hki : (k : Int) < (n : Int) := by omega
        obtain ⟨z, ho, hz1, hz2, ht⟩ := HR.out.2
        have hr0 := row_range ho hlt
        rw [hz2 k (Nat.le_refl _) hlt 0 (by omega), hz2 k (Nat.le_refl _) hlt 1 (by omega), hz2 k (Nat.le_refl _) hlt 2 (by omega), hz2 k (Nat.le_refl _) hlt 3 (by omega), hz2 k (Nat.le_refl _) hlt 4 (by omega)] at hr0
        obtain ⟨V, HV⟩ : ∃ v, Hid (v = wr.heap.size) := ⟨_, rfl⟩
        obtain ⟨w2, HW2⟩ : ∃ v, Hid (v = wr.alloc (.cells #[y k 0, y k 1, y k 2, y k 3, y k 4] 101)) := ⟨_, rfl⟩
        have b2 : Below wr.heap.size wr w2 := by rw [HW2.out]; exact (Below.refl _ _).alloc (Nat.le_refl _) _
        have RV2 : Row w2 V 101 #[y k 0, y k 1, y k 2, y k 3, y k 4] := by rw [HW2.out, HV.out]; exact Row.new wr _ _
        have KC0 := KF.out k hlt w2 (ht.trans (Trn.ofBelow _ b2))
        have HDe := HR.out.2
        have HL := HR.out.1
        have HB2 : Hid (Below wr.heap.size wr w2) := b2
        obtain ⟨i0, f0, q0, q1, an, nn, cn, g0, g1, g2, g3, g4⟩ := KY.out k hlt
        have HKe : Hid (∀ w3, Below wr.heap.size wr w3 → p k = false → DeI w B g n y p (k + 1) (j + 1) (w3.setCells g (j * 5) [.int .i64 i0, .int .i64 f0, .slice an nn cn, .int .i64 q0, .int .i64 q1]) ∧ (kl p (k + 1)).length = j + 1 ∧ w3.there g (j * 5) 5) := fun w3 hb hp => by
          have h1 := DeI.keep HDe hp HL hjk hlt hb
          rw [g0, g1, g2, g3, g4] at h1
          exact ⟨h1, by rw [kl_succ, if_neg (by rw [hp]; decide), List.length_append, ← HL]; rfl, there_row (ownsRow_below ho hb) (by omega)⟩
        have HSk : Hid (∀ w3, Below wr.heap.size wr w3 → p k = true → DeI w B g n y p (k + 1) j w3 ∧ (kl p (k + 1)).length = j) := fun w3 hb hp => ⟨DeI.skip HDe hp hb, by rw [kl_succ, if_pos hp]; exact HL.symm⟩
        rw [g0, g1, g2, g3, g4] at hr0 HW2 RV2 KC0
        have R1 : Hid _ := hr0
        have RV : Hid (Row w2 V 101 #[.int .i64 i0, .int .i64 f0, .slice an nn cn, .int .i64 q0, .int .i64 q1]) := RV2
        have KC : Hid _ := KC0
        clear hr0 RV2 KC0 g0 g1 g2 g3 g4 ho hz1 hz2 ht HDe HL b2 HR
        cases hp : p k with
        | true =>
          rw [hp] at KC
          have HS2 : Hid (∀ w3, Below wr.heap.size wr w3 → DeI w B g n y p (k + 1) j w3 ∧ (kl p (k + 1)).length = j) := fun w3 hb => HSk.out w3 hb hp
          clear hp HSk HKe
          go_wp2_with (refine wpList_load_mid (by rfl) 101 _ (by rfl) g (k * 5) (by rfl) [.int .i64 i0, .int .i64 f0, .slice an nn cn, .int .i64 q0, .int .i64 q1] _ ?_ Tryz.underlying101 (by rfl) Tryz.infoSt ?_; exact R1.out)
          rw [← HW2.out]
          refine Calls.mono KC.out ?_
          rintro e w3 ⟨rfl, b3⟩
          obtain ⟨hd, hl⟩ := HS2.out w3 (below2 HB2.out b3)
          have HN2 : Hid (j = (kl p (k + 1)).length ∧ DeI w B g n y p (k + 1) j w3) := ⟨hl.symm, hd⟩
          clear hd hl b3 KC R1 RV
          go_wp2
          go_roundw
          case rel => exact ⟨k + 1, j, by omega, by omega, by go_num, rfl, HN2⟩
          case measure => simp [intOf]; omega
        | false =>
          rw [hp] at KC
          have HS2 : Hid (∀ w3, Below wr.heap.size wr w3 → DeI w B g n y p (k + 1) (j + 1) (w3.setCells g (j * 5) [.int .i64 i0, .int .i64 f0, .slice an nn cn, .int .i64 q0, .int .i64 q1]) ∧ (kl p (k + 1)).length = j + 1 ∧ w3.there g (j * 5) 5) := fun w3 hb => HKe.out w3 hb hp
          clear hp HSk HKe
          go_wp2_with (refine wpList_load_mid (by rfl) 101 _ (by rfl) g (k * 5) (by rfl) [.int .i64 i0, .int .i64 f0, .slice an nn cn, .int .i64 q0, .int .i64 q1] _ ?_ Tryz.underlying101 (by rfl) Tryz.infoSt ?_; exact R1.out)
          rw [← HW2.out, ← HV.out]
          refine Calls.mono KC.out ?_
          rintro e w3 ⟨rfl, b3⟩
          obtain ⟨hd, hl, hth⟩ := HS2.out w3 (below2 HB2.out b3)
          have RV3 : Hid (Row w3 V 101 #[.int .i64 i0, .int .i64 f0, .slice an nn cn, .int .i64 q0, .int .i64 q1]) := RV.out.below b3 RV.out.lt
          obtain ⟨w4, HW4⟩ : ∃ v, Hid (v = w3.setCells g (j * 5) [.int .i64 i0, .int .i64 f0, .slice an nn cn, .int .i64 q0, .int .i64 q1]) := ⟨_, rfl⟩
          have HN2 : Hid (j + 1 = (kl p (k + 1)).length ∧ DeI w B g n y p (k + 1) (j + 1) w4) := ⟨hl.symm, by rw [HW4.out]; exact hd⟩
          have TH : Hid _ := hth
          have hji : (j : Int) < (n : Int) := by omega
          clear hd hl hth b3 KC R1 RV
          go_wp2_with (first | (refine wpList_load_row (by rfl) 101 _ (by rfl) V (by rfl) 101 #[.int .i64 i0, .int .i64 f0, .slice an nn cn, .int .i64 q0, .int .i64 q1] (0, 0) _ ?_ Tryz.underlying101 (by rfl) Tryz.infoSt ?_; exact RV3.out) | (refine wpList_store_mid (by rfl) 101 _ _ (by rfl) g (j * 5) #[.int .i64 i0, .int .i64 f0, .slice an nn cn, .int .i64 q0, .int .i64 q1] (by rfl) (by rfl) ?_ Tryz.infoSt (by simp [Value.oneCell']) ?_; exact TH.out; rw [← HW4.out]))
          go_roundw
          case rel => exact ⟨k + 1, j + 1, by omega, by omega, by go_num, by go_num, HN2⟩
          case measure => simp [intOf]; omega
      · obtain rfl : k = n := by omega
        obtain ⟨z, ho, hz1, _, ht⟩ := HR.out.2
        obtain ⟨vs, hvl, hclr⟩ := clear_seats ho hjk
        obtain ⟨z', ho', hz'⟩ := own_seg (by omega) vs (j * 5) wr z (by omega) ho
        obtain ⟨w4, HW4⟩ : ∃ v, Hid (v = wr.setCells g (j * 5) vs) := ⟨_, rfl⟩
        rw [← HW4.out] at hclr ho'
        have HF : Hid (j = (kl p k).length ∧ w4.ownsRow B 101 5 (.slice (some ⟨g, 0, none⟩) k k) k (cL 5 z' k) ∧ (∀ t, t < j → ∀ q, q < 5 → z' t q = y ((kl p k).getD t 0) q) ∧ Trn w w4 (fun x => x = g)) := ⟨HR.out.1, ho', fun t ht' q hq => by rw [hz' t q (by omega) hq (mid_lt ht' hq)]; exact hz1 t ht' q hq, by rw [HW4.out]; exact ht.trans (trn_setCells (F := fun x => x = g) _ rfl _ _)⟩
        have hji : (j : Int) < (k : Int) := by omega
        have hnj : ¬ (k = j) := by omega
        clear ho hz1 ht ho' hz' hvl HR
        go_wp2
        go_ret
        exact ⟨z', by rw [← HF.out.1]; rfl, HF.out.2.1, by rw [← HF.out.1]; exact HF.out.2.2.1, HF.out.2.2.2⟩
end Go.Proofs.YtodpgbmpfflkoaaGreatDoor
/- The seats of those who are no liars, in the program. Conditions: lists of at most 2^20. -/
namespace Go.Proofs.YtodpgbmpfflkoaaGreatDoor
set_option maxRecDepth 2000
open Go.ChangeShapes Go.WideShapes Go.ChangeAt Go.RowKit

/-- Whether a node is a liar. -/
def lyP (zs : List Int) (i : Nat) : Bool := decide ((i : Int) ∈ zs)
set_option maxHeartbeats 2000000 in
theorem honest_any (f : Int) (a : Option Addr) (n c : Nat) (l : Option Addr) (d : Nat) (zs : List Int) (v3 : Value) (N : Nat → Nd) (wb w : World) (hwb : Below wb.heap.size wb w) (h : Rd wb (ndsD n N) (.slice a n c)) (hl : IntsAt w l zs.length zs) (hn : n ≤ 1048576) (hz : zs.length ≤ 1048576) :
    Calls Tryz.prog 49 #[ntV f (.slice a n c) (.slice l zs.length d) v3] w fun e w' => ∃ g z, e = .returned (.slice (some ⟨g, 0, none⟩) (kl (lyP zs) n).length n) ∧ w'.ownsRow w.heap.size 101 5 (.slice (some ⟨g, 0, none⟩) n n) n (cL 5 z n) ∧ (∀ t, t < (kl (lyP zs) n).length → ∀ q, q < 5 → Rd wb (stD (N ((kl (lyP zs) n).getD t 0)) ((kl (lyP zs) n).getD t 0) f q) (z t q)) ∧ Below w.heap.size w w' := by
  obtain ⟨A, HA⟩ : ∃ x, Hid (x = w.heap.size) := ⟨_, rfl⟩
  obtain ⟨w0, HW0⟩ : ∃ x, Hid (x = w.alloc (.cells #[.int .i64 f, .slice a n c, .slice l zs.length d, v3] 35)) := ⟨_, rfl⟩
  have RA : Hid (Row w0 A 35 #[.int .i64 f, .slice a n c, .slice l zs.length d, v3]) := by show Row _ _ _ _; rw [HW0.out, HA.out]; exact Row.new w _ _
  have b0 : Below w.heap.size w w0 := by rw [HW0.out]; exact (Below.refl _ _).alloc (Nat.le_refl _) _
  have KB0 : Hid (Below w.heap.size w w0) := b0
  have KL : Hid _ := lies_any f (.slice a n c) v3 l d zs w0 (hl.below b0) hz
  have KS : Hid (∀ W, Below w.heap.size w W → Calls Tryz.prog 76 #[ntV f (.slice a n c) (.slice l zs.length d) v3] W fun e w' => ∃ g y, e = .returned (.slice (some ⟨g, 0, none⟩) n n) ∧ w'.ownsRow W.heap.size 101 5 (.slice (some ⟨g, 0, none⟩) n n) n (cL 5 y n) ∧ (∀ i, i < n → ∀ q, q < 5 → Rd wb (stD (N i) i f q) (y i q)) ∧ Below W.heap.size W w') := fun W hW => seatO_any f a n c (.slice l zs.length d) v3 N wb W (below2 hwb hW) h hn
  clear h hl b0 hwb
  go_enter Tryz.func49, Tryz.ntmps49
  go_wp2_with (rw [← HW0.out, ← HA.out]; refine wpList_load_row (by rfl) 35 _ (by rfl) A (by rfl) 35 #[.int .i64 f, .slice a n c, .slice l zs.length d, v3] (0, 0) _ ?_ Tryz.underlying35 (by rfl) Tryz.infoNt ?_; exact RA.out)
  refine Calls.mono KL.out ?_
  rintro e w1 ⟨b, rfl, hm1, hbb, b1⟩
  obtain ⟨L, HL⟩ : ∃ x, Hid (x = w1.heap.size) := ⟨_, rfl⟩
  obtain ⟨w2, HW2⟩ : ∃ x, Hid (x = w1.alloc (.cells #[.map (some b)] 132)) := ⟨_, rfl⟩
  have b2 : Below w1.heap.size w1 w2 := by rw [HW2.out]; exact (Below.refl _ _).alloc (Nat.le_refl _) _
  have RL2 : Row w2 L 132 #[.map (some b)] := by rw [HW2.out, HL.out]; exact Row.new w1 _ _
  have RA2 : Hid (Row w2 A 35 #[.int .i64 f, .slice a n c, .slice l zs.length d, v3]) := (RA.out.below b1 RA.out.lt).below b2 (Nat.lt_of_lt_of_le RA.out.lt b1.size)
  have KB2 : Hid (Below w.heap.size w w2) := below2 (below2 KB0.out b1) b2
  have HM2 : Hid (LM w2 b f zs ∧ Row w2 L 132 #[.map (some b)] ∧ b < w2.heap.size) := ⟨hm1.below b2, RL2, by
    obtain ⟨_, _, e, _⟩ := hm1.below b2
    exact (Array.getElem?_eq_some_iff.1 e).1⟩
  have KC2 : Hid _ := KS.out w2 KB2.out
  clear b1 b2 RL2 hm1 hbb KL KS HW0
  go_wp2_with (rw [← HW2.out, ← HL.out]; refine wpList_load_row (by rfl) 35 _ (by rfl) A (by rfl) 35 #[.int .i64 f, .slice a n c, .slice l zs.length d, v3] (0, 0) _ ?_ Tryz.underlying35 (by rfl) Tryz.infoNt ?_; exact RA2.out)
  refine Calls.mono KC2.out ?_
  rintro e w3 ⟨g, y, rfl, ho, hr, b3⟩
  have hg := (World.ownsRow.lt ho g rfl).1
  have hlL := HM2.out.2.1.lt
  have hlb := HM2.out.2.2
  have HY : Hid (SeY n y) := fun i hi => by
    obtain ⟨an, cn, e0, e1, e2, e3, e4, _⟩ := st_cells (hr i hi)
    exact ⟨_, _, _, _, _, _, _, e0, e1, e2, e3, e4⟩
  have KD : Hid _ := delS_any w2.heap.size g n L y (lyP zs) w3 ho hn HY.out (fun i hi W ht => by
    obtain ⟨an, cn, e0, e1, e2, e3, e4, _⟩ := st_cells (hr i hi)
    rw [e3, e4]
    have hL3 : Row w3 L 132 #[.map (some b)] := HM2.out.2.1.below b3 hlL
    have hLW : Row W L 132 #[.map (some b)] := (ht.block L hL3.lt (by omega)).trans hL3
    have hcL := hLW.cell 0
    have hmW : LM W b f zs := by
      obtain ⟨es, clock, eb, hle⟩ := HM2.out.1.below b3
      exact ⟨es, clock, (ht.block b (Array.getElem?_eq_some_iff.1 eb).1 (by omega)).trans eb, hle⟩
    exact honest1_any L b f zs (y i 0) (y i 1) (y i 2) (i : Int) W (by simpa using hcL) hmW)
  have hin : ∀ t, t < (kl (lyP zs) n).length → (kl (lyP zs) n).getD t 0 < n := fun t ht => by
    rw [List.getD_eq_getElem?_getD, List.getElem?_eq_getElem ht]
    have := List.getElem_mem ht
    exact List.mem_range.1 (List.mem_filter.1 this).1
  have hs2 := KB2.out.size
  have HFin : Hid (∀ w' z, w'.ownsRow w2.heap.size 101 5 (.slice (some ⟨g, 0, none⟩) n n) n (cL 5 z n) → (∀ t, t < (kl (lyP zs) n).length → ∀ q, q < 5 → z t q = y ((kl (lyP zs) n).getD t 0) q) → Trn w3 w' (fun x => x = g) → w'.ownsRow w.heap.size 101 5 (.slice (some ⟨g, 0, none⟩) n n) n (cL 5 z n) ∧ (∀ t, t < (kl (lyP zs) n).length → ∀ q, q < 5 → Rd wb (stD (N ((kl (lyP zs) n).getD t 0)) ((kl (lyP zs) n).getD t 0) f q) (z t q)) ∧ Below w.heap.size w w') := fun w' z h1 h2 h3 =>
    ⟨own_base h1 hs2, fun t ht q hq => by rw [h2 t ht q hq]; exact hr _ (hin t ht) q hq, (below2 KB2.out b3).trans (h3.below (fun x hx => by have hx' : x = g := hx; omega) (below2 KB2.out b3).size)⟩
  clear ho hr b3 hg hlL hlb hin hs2
  go_wp2_with fail
  refine Calls.mono KD.out ?_
  rintro e w4 ⟨z, rfl, h1, h2, h3⟩
  have HR : Hid _ := HFin.out w4 z h1 h2 h3
  clear h1 h2 h3
  go_wp2
  go_ret
  exact ⟨g, z, rfl, HR.out⟩
end Go.Proofs.YtodpgbmpfflkoaaGreatDoor
/- Which nodes that are no liars are done with a root (NetDone), in the program. Conditions: lists of at most 2^20. -/
namespace Go.Proofs.YtodpgbmpfflkoaaGreatDoor
set_option maxRecDepth 2000
open Go.ChangeShapes Go.WideShapes Go.ChangeAt Go.RowKit

theorem take_one {l : List Nat} {t : Nat} (h : t < l.length) : l.take (t + 1) = l.take t ++ [l.getD t 0] := by
  rw [List.take_add_one, List.getD_eq_getElem?_getD, List.getElem?_eq_getElem h]
  rfl
/-- What the count tells of each node. -/
structure NdQ (d : Nd) : Prop where
  n : d.n ≤ 1048576
  k : ∀ i, i < d.n → SlK (d.S i)
  s : ∀ i, i < d.n → SlS (d.S i)
/-- What stands when t seats are looked at. -/
structure DnI (w : World) (B g n : Nat) (z : Nat → Nat → Value) (L : List Int) (gg len cc : Nat) (wr : World) : Prop where
  ro : wr.ownsRow B 3 1 (.slice (some ⟨gg, 0, none⟩) len cc) len (L.map (Value.int .i64))
  rs : wr.ownsRow B 101 5 (.slice (some ⟨g, 0, none⟩) n n) n (cL 5 z n)
  ln : L.length = len
  bw : Below w.heap.size w wr
  wB : w.heap.size ≤ B
theorem row_type {w : World} {B e s n cap g : Nat} {xs : List Value} (h : w.ownsRow B e s (.slice (some ⟨g, 0, none⟩) n cap) n xs) : ∃ cur fr, w.heap[g]? = some (.cells cur e fr) := by
  rcases h.2 with ⟨e', _⟩ | ⟨g', cap', cur, e', h1, h2, _⟩
  · cases e'
  · cases e'
    exact ⟨_, _, h2⟩
theorem DnI.ne {w wr : World} {B g n : Nat} {z : Nat → Nat → Value} {L : List Int} {gg len cc : Nat} (h : DnI w B g n z L gg len cc wr) : g ≠ gg := fun e => by
  obtain ⟨c1, f1, e1⟩ := row_type h.ro
  obtain ⟨c2, f2, e2⟩ := row_type h.rs
  rw [e, e1] at e2
  simp at e2
theorem DnI.below {w wr w' : World} {B g n : Nat} {z : Nat → Nat → Value} {L : List Int} {gg len cc : Nat} (h : DnI w B g n z L gg len cc wr) (hb : Below wr.heap.size wr w') : DnI w B g n z L gg len cc w' := ⟨ownsRow_below h.ro hb, ownsRow_below h.rs hb, h.ln, below2 h.bw hb, h.wB⟩
theorem DnI.grow {w wr w' : World} {B g n : Nat} {z : Nat → Nat → Value} {L : List Int} {gg len cc g3 c3 : Nat} {x : Int} (h : DnI w B g n z L gg len cc wr) (ho : w'.ownsRow B 3 1 (.slice (some ⟨g3, 0, none⟩) (len + 1) c3) (len + 1) (L.map (Value.int .i64) ++ [.int .i64 x])) (hg : wr.grownBy w' (some gg)) : DnI w B g n z (L ++ [x]) g3 (len + 1) c3 w' :=
  ⟨by rw [List.map_append]; exact ho, own_kept h.rs hg (fun y hy => by cases hy; exact h.ne), by rw [List.length_append, h.ln]; rfl, h.bw.grown hg h.bw.size (fun k e => by cases e; exact Nat.le_trans h.wB (World.ownsRow.lt h.ro gg rfl).1), h.wB⟩
end Go.Proofs.YtodpgbmpfflkoaaGreatDoor
/- Which nodes that are no liars are done with a root (NetDone), in the model. Conditions: lists of at most 2^20. -/
namespace Go.Proofs.YtodpgbmpfflkoaaGreatDoor
set_option maxRecDepth 2000
open Go.ChangeShapes Go.WideShapes Go.ChangeAt Go.RowKit

set_option maxHeartbeats 1000000 in
theorem sHas_any (l : Option Addr) (d : Nat) (zs : List Int) (x : Int) (w : World) (h : IntsAt w l zs.length zs) (hn : zs.length ≤ 1048576) :
    Calls Tryz.prog 38 #[.slice l zs.length d, .int .i64 x] w fun e w' => e = .returned (.bool (decide (x ∈ zs))) ∧ w' = w := by
  have KH : Hid (IntsAt w l zs.length zs) := h
  clear h
  obtain ⟨bb, HBB⟩ : ∃ v, Hid (decide (x ∈ zs) = v) := ⟨_, rfl⟩
  rw [HBB.out]
  obtain ⟨n, HN⟩ : ∃ v, Hid (zs.length = v) := ⟨_, rfl⟩
  rw [HN.out] at hn ⊢
  go_enter Tryz.func38, Tryz.ntmps38
  go_wp2
  go_loopw [5] (fun vi wr => ∃ k : Nat, k ≤ n ∧ vi = .int .i64 (k : Int) ∧ wr = w ∧ Hid (∀ i, i < k → zs.getD i 0 ≠ x)) (fun vi _ => n - (intOf vi).toNat)
  case atStart => exact ⟨0, Nat.zero_le _, rfl, rfl, fun i hi => absurd hi (Nat.not_lt_zero _)⟩
  case round =>
    obtain ⟨k, hk, rfl, hw, HP⟩ := hrel
    obtain rfl := hw.symm
    clear hw
    by_cases hlt : k < n
    · have hki : (k : Int) < (n : Int) := by omega
      obtain ⟨bl, off, e1, hc⟩ := KH.out.some (by rw [HN.out]; omega)
      subst e1
      have x1 := hc k (by rw [HN.out]; exact hlt)
      clear hc
      obtain ⟨v, HV⟩ : ∃ y, Hid (zs.getD k 0 = y) := ⟨_, rfl⟩
      rw [HV.out] at x1
      by_cases hv : v = x
      · have HI : Hid (bb = true) := by
          rw [← HBB.out]
          refine decide_eq_true ?_
          rw [← hv, ← HV.out, List.getD_eq_getElem?_getD, List.getElem?_eq_getElem (by rw [HN.out]; exact hlt)]
          exact List.getElem_mem _
        have hb : (v == x) = true := by simp [hv]
        go_wp2
        go_ret
        exact ⟨by rw [HI.out]; rfl, rfl⟩
      · have HP2 : Hid (∀ i, i < k + 1 → zs.getD i 0 ≠ x) := fun i hi => by
          by_cases e : i = k
          · rw [e, HV.out]; exact hv
          · exact HP.out i (by omega)
        have hb : (v == x) = false := by simp [hv]
        clear HP
        go_wp2
        go_roundw
        case rel => exact ⟨k + 1, by omega, by go_num, trivial, HP2⟩
        case measure => simp [intOf]; omega
    · obtain rfl : k = n := by omega
      have HI : Hid (bb = false) := by
        rw [← HBB.out]
        refine decide_eq_false fun hx => ?_
        obtain ⟨i, hi, e⟩ := List.getElem_of_mem hx
        refine HP.out i (by rw [← HN.out]; exact hi) ?_
        rw [List.getD_eq_getElem?_getD, List.getElem?_eq_getElem hi]
        exact e
      go_wp2
      go_ret
      exact ⟨by rw [HI.out]; rfl, rfl⟩
/-- What stands when k nodes are looked at. -/
structure DnS (w : World) (A : Nat) (f : Int) (a : Option Addr) (n c : Nat) (l : Option Addr) (zl d : Nat) (v3 : Value) (L : List Int) (gg len cc : Nat) (wr : World) : Prop where
  ro : wr.ownsRow (A + 1) 3 1 (.slice (some ⟨gg, 0, none⟩) len cc) len (L.map (Value.int .i64))
  ra : Row wr A 35 #[.int .i64 f, .slice a n c, .slice l zl d, v3]
  ln : L.length = len
  bw : Below w.heap.size w wr
  wA : w.heap.size ≤ A
section
variable {w wr w' : World} {A : Nat} {f : Int} {a : Option Addr} {n c : Nat} {l : Option Addr} {zl d : Nat} {v3 : Value} {L : List Int} {gg len cc : Nat}
theorem DnS.below (h : DnS w A f a n c l zl d v3 L gg len cc wr) (hb : Below wr.heap.size wr w') : DnS w A f a n c l zl d v3 L gg len cc w' := ⟨ownsRow_below h.ro hb, h.ra.below hb h.ra.lt, h.ln, below2 h.bw hb, h.wA⟩
theorem DnS.grow {g3 c3 : Nat} {x : Int} (h : DnS w A f a n c l zl d v3 L gg len cc wr) (ho : w'.ownsRow (A + 1) 3 1 (.slice (some ⟨g3, 0, none⟩) (len + 1) c3) (len + 1) (L.map (Value.int .i64) ++ [.int .i64 x])) (hg : wr.grownBy w' (some gg)) : DnS w A f a n c l zl d v3 (L ++ [x]) g3 (len + 1) c3 w' := by
  have lg := (World.ownsRow.lt h.ro gg rfl).1
  have hA := h.wA
  exact ⟨by rw [List.map_append]; exact ho, (hg.block A h.ra.lt (fun e => by cases e; omega)).trans h.ra, by rw [List.length_append, h.ln]; rfl, h.bw.grown hg h.bw.size (fun k e => by cases e; omega), h.wA⟩
end
end Go.Proofs.YtodpgbmpfflkoaaGreatDoor
/- What the count of a net tells of it, for the laws over nets. Lemmas. -/
namespace Go.Proofs.YtodpgbmpfflkoaaGreatDoor
set_option maxRecDepth 2000
open Go.ChangeShapes Go.WideShapes Go.ChangeAt Go.RowKit

theorem tot_mul {g h : Nat → Nat} {c : Nat} (hg : ∀ i, g i ≤ c + 10 * h i) (n : Nat) : tot g n ≤ c * n + 10 * tot h n := by
  induction n with
  | zero => exact Nat.zero_le _
  | succ n ih =>
    show tot g n + g n ≤ c * (n + 1) + 10 * (tot h n + h n)
    have := hg n
    rw [Nat.mul_succ]
    omega
theorem wkN_le (d : Nd) : wkN d ≤ 2 + 10 * wtN d := by
  have h1 := tot_mul (g := fun i => wkS (d.S i)) (h := fun i => wtS (d.S i)) (c := 10) (fun i => by unfold wkS wtS wtP; omega) d.n
  unfold wkN wtN wtL
  omega
theorem ofy_wt (k : Nat) (Y : Nat → Sy) (m : Nat) : ofy k Y m ≤ k + 9 * m + tot (fun i => wtY (Y i)) m := by
  induction m with
  | zero => simp [ofy, tot]
  | succ m ih =>
    show ofy k Y m + 9 + (Y m).p.m ≤ k + 9 * (m + 1) + (tot (fun i => wtY (Y i)) m + wtY (Y m))
    have : (Y m).p.m ≤ wtY (Y m) := by unfold wtY wtP; omega
    omega
theorem wtT_little {n : Nat} {N : Nat → Nd} {zs : List Int} {m : Nat} {Y : Nat → Sy} (h : wtT n N zs m Y ≤ 1048576) : (∀ i, i < n → NdQ (N i)) ∧ NtW n N zs m Y := by
  unfold wtT wtNs wtYs at h
  have hw : ∀ i, i < n → wtL (N i).n (N i).S ≤ 1048576 := fun i hi => by show wtN (N i) ≤ 1048576; have : wtN (N i) ≤ tot (fun i => wtN (N i)) n := tot_ge2 (g := fun i => wtN (N i)) hi; omega
  have hy : ∀ i, i < m → wtY (Y i) ≤ 1048576 := fun i hi => by have : wtY (Y i) ≤ tot (fun i => wtY (Y i)) m := tot_ge2 (g := fun i => wtY (Y i)) hi; omega
  refine ⟨fun i hi => ?_, by omega, fun i hi => ?_, by omega, by omega, fun i hi => ?_, ?_⟩
  · obtain ⟨h1, h2, h3, _⟩ := wtL_little (hw i hi)
    exact ⟨h1, h3, h2⟩
  · obtain ⟨h1, h2, _, _⟩ := wtL_little (hw i hi)
    exact ⟨h1, h2⟩
  · have := hy i hi
    unfold wtY wtP at this
    omega
  · have h1 := tot_mul (g := fun i => wkN (N i)) (h := fun i => wtN (N i)) (c := 2) (fun i => wkN_le (N i)) n
    have h2 := ofy_wt (mq2 n N zs) Y m
    unfold mq3
    unfold mq2 mq1 at h2 ⊢
    omega
theorem Tryz.infoNtL2 : (Tryz.prog.info? 26).map (·.size) = some 4 := by kernel_rfl
theorem Trn.turned {w w' : World} {F : Nat → Prop} {b e : Nat} (h : Trn w w' F) (hF : ∀ g, F g → rng b e g) : Trn w w' (rng b e) := h.mono hF
end Go.Proofs.YtodpgbmpfflkoaaGreatDoor
/- Lists of pieces, by data of any depth: read, marked, asked for; wide bounds. Conditions: at most 2^20 pieces. -/
namespace Go.Proofs.YtodpgbmpfflkoaaGreatDoor
set_option maxRecDepth 2000
open Go.ChangeShapes Go.WideShapes Go.ChangeAt Go.RowKit

theorem rd_pcs {w : World} {n : Nat} {P : Nat → Pc} {a : Option Addr} {cap : Nat} (h : Rd w (pcsD n P) (.slice a n cap)) : PiAt w a n P := by
  intro i hi
  obtain ⟨b, off, y, ea, hy, hr⟩ := h.row hi
  have r5 : Rd w (txD (P i).m (P i).S) (y 5) := hr 5 (by omega)
  obtain ⟨ap, cp, e5⟩ := r5.shape
  rw [e5] at r5
  have g0 := hr 0 (by omega)
  have g1 := hr 1 (by omega)
  have g2 := hr 2 (by omega)
  have g3 := hr 3 (by omega)
  have g4 := hr 4 (by omega)
  simp only [Rd, pcD] at g0 g1 g2 g3 g4
  refine ⟨b, off, ap, cp, ea, fun q hq => ?_, rd_txt.1 r5⟩
  have := hy q hq
  rw [this]
  match q, hq with
  | 0, _ => rw [g0]; rfl
  | 1, _ => rw [g1]; rfl
  | 2, _ => rw [g2]; rfl
  | 3, _ => rw [g3]; rfl
  | 4, _ => rw [g4]; rfl
  | 5, _ => rw [e5]; rfl
theorem own_at {w w' : World} {B e s n cap g : Nat} {xs : List Value} (h : w.ownsRow B e s (.slice (some ⟨g, 0, none⟩) n cap) n xs) (hb : w'.heap[g]? = w.heap[g]?) : w'.ownsRow B e s (.slice (some ⟨g, 0, none⟩) n cap) n xs := by
  refine ⟨h.1, ?_⟩
  rcases h.2 with h' | ⟨g', cap', cur, h1, h2, h3, h4⟩
  · exact .inl h'
  · refine .inr ⟨g', cap', cur, h1, h2, ?_, h4⟩
    cases h1
    rw [hb]
    exact h3
/-- The cells of a piece whose proof is ours. -/
theorem ow_piece {w : World} {B : Nat} {p : Pc} {v : Value} {F : Nat → Prop} (h : Ow w B (txD p.m p.S) v F) (q : Nat) (hq : q < 6) : Ow w B (pcD p q) ([Value.string p.r, .int .i64 p.k, .int .i64 p.n, .int .i64 p.i, .string p.b, v].getD q undef) (fun x => q = 5 ∧ F x) := by
  match q, hq with
  | 0, _ | 1, _ | 2, _ | 3, _ | 4, _ => rfl
  | 5, _ => exact Ow.mono h fun g hg => ⟨rfl, hg⟩
end Go.Proofs.YtodpgbmpfflkoaaGreatDoor
/- The pieces that nodes that are no liars have of a root (NetPieces), in the program. Conditions: lists of at most 2^20. -/
namespace Go.Proofs.YtodpgbmpfflkoaaGreatDoor
set_option maxRecDepth 2000
open Go.ChangeShapes Go.WideShapes Go.ChangeAt Go.RowKit

/-- Whether a node has its piece of a root. -/
def hsB (N : Nat → Nd) (root : ByteArray) (i : Nat) : Bool := soB (N i).S root (N i).n && (soS (N i).S root (N i).n).h
def hsL (N : Nat → Nd) (root : ByteArray) (l : List Nat) : List Nat := l.filter (hsB N root)
/-- The pieces of a list of nodes. -/
def hsP (N : Nat → Nd) (root : ByteArray) (l : List Nat) (i : Nat) : Pc := (soS (N ((hsL N root l).getD i 0)).S root (N ((hsL N root l).getD i 0)).n).p
theorem hsL_snoc (N : Nat → Nd) (root : ByteArray) (l : List Nat) (x : Nat) : hsL N root (l ++ [x]) = if hsB N root x = true then hsL N root l ++ [x] else hsL N root l := by
  unfold hsL
  rw [List.filter_append]
  by_cases h : hsB N root x = true <;> simp [h]
theorem hsL_le (N : Nat → Nd) (root : ByteArray) (l : List Nat) : (hsL N root l).length ≤ l.length := List.length_filter_le _ _
/-- What stands when the nodes of a list are looked at: the pieces, and beside them what K says of a block g. -/
structure PcI (w : World) (g : Nat) (K : World → Prop) (N : Nat → Nd) (root : ByteArray) (l : List Nat) (v : Value) (len : Nat) (wr : World) : Prop where
  op : Ow wr w.heap.size (pcsD len (hsP N root l)) v (fun x => rng w.heap.size wr.heap.size x ∧ x ≠ g)
  rs : K wr
  gl : g < wr.heap.size
  ln : (hsL N root l).length = len
  bw : Below w.heap.size w wr
section
variable {w wr w5 w6 w' : World} {g : Nat} {K : World → Prop} {N : Nat → Nd} {root : ByteArray} {l : List Nat} {v : Value} {len : Nat}
theorem PcI.below (h : PcI w g K N root l v len wr) (hK : ∀ W W', W'.heap[g]? = W.heap[g]? → K W → K W') (hb : Below wr.heap.size wr w') : PcI w g K N root l v len w' :=
  ⟨(h.op.below hb).mono (fun _ hx => ⟨⟨hx.1.1, Nat.lt_of_lt_of_le hx.1.2 hb.size⟩, hx.2⟩), hK _ _ (hb.block g h.gl) h.rs, Nat.lt_of_lt_of_le h.gl hb.size, h.ln, below2 h.bw hb⟩
theorem PcI.skip {x : Nat} (h : PcI w g K N root l v len wr) (hx : hsB N root x = false) : PcI w g K N root (l ++ [x]) v len wr := by
  have e : hsL N root (l ++ [x]) = hsL N root l := by rw [hsL_snoc, if_neg (by rw [hx]; decide)]
  exact ⟨h.op.congr (fun i q _ _ => by unfold hsP; rw [e]), h.rs, h.gl, by rw [e]; exact h.ln, h.bw⟩
theorem PcI.grow {x g3 cap : Nat} {tp : Pc} {H : Nat → Nat → Prop} (h : PcI w g K N root l v len wr) (hK : ∀ W W', W'.heap[g]? = W.heap[g]? → K W → K W') (b5 : Below wr.heap.size wr w5) (hx : hsB N root x = true) (hT : (soS (N x).S root (N x).n).p = tp)
    (O6 : Ow w6 w.heap.size (.lst 49 6 (len + 1) (fun i => if i = len then pcD tp else pcD (hsP N root l i))) (.slice (some ⟨g3, 0, none⟩) (len + 1) cap) (fun y => y < w6.heap.size ∧ (((rng w.heap.size wr.heap.size y ∧ y ≠ g) ∨ ∃ q, q < 6 ∧ H q y) ∨ w5.heap.size ≤ y)))
    (b6 : Below w.heap.size w5 w6) (hs : ∀ y, y < w5.heap.size → ¬ (rng w.heap.size wr.heap.size y ∧ y ≠ g) → w6.heap[y]? = w5.heap[y]?) (hH : ∀ q y, q < 6 → H q y → wr.heap.size ≤ y) : PcI w g K N root (l ++ [x]) (.slice (some ⟨g3, 0, none⟩) (len + 1) cap) (len + 1) w6 := by
  have e : hsL N root (l ++ [x]) = hsL N root l ++ [x] := by rw [hsL_snoc, if_pos hx]
  have h5 := h.below hK b5
  have hw := h.bw.size
  have hg := h.gl
  have s5 := b5.size
  refine ⟨(O6.mono (fun y hy => ?_)).congr (fun i q hi _ => ?_), hK _ _ (hs g h5.gl (fun k => k.2 rfl)) h5.rs, Nat.lt_of_lt_of_le h5.gl b6.size, by rw [e, List.length_append, h.ln]; rfl, h5.bw.trans b6⟩
  · rcases hy.2 with (h1 | ⟨q, hq, h1⟩) | h1
    · exact ⟨⟨h1.1.1, hy.1⟩, h1.2⟩
    · have := hH q y hq h1
      exact ⟨⟨by omega, hy.1⟩, by omega⟩
    · exact ⟨⟨by omega, hy.1⟩, by omega⟩
  · by_cases ei : i = len
    · rw [if_pos ei, ← hT]
      unfold hsP
      rw [e, ei, ← h.ln]
      simp
    · rw [if_neg ei]
      have e1 : (hsL N root l ++ [x]).getD i 0 = (hsL N root l).getD i 0 := by
        rw [List.getD_eq_getElem?_getD, List.getD_eq_getElem?_getD, List.getElem?_append_left (by have := h.ln; omega)]
      unfold hsP
      rw [e, e1]
end
theorem ow_pnil (w : World) (B : Nat) (P : Nat → Pc) (hB : B ≤ w.heap.size) {F : Nat → Prop} (hF : F w.heap.size) : Ow (w.alloc (.cells #[] 49)) B (pcsD 0 P) (.slice (some ⟨w.heap.size, 0, none⟩) 0 0) F := by
  have hown := World.ownsRow_lit (e := 49) (size := 6) (base := B) w #[] 0 hB (by unfold maxLen; omega) rfl
  refine ⟨_, _, fun _ _ => undef, fun _ _ _ => False, rfl, by simpa [cL] using hown, ⟨fun x e => ?_, fun _ _ _ hi => absurd hi (Nat.not_lt_zero _), fun _ _ _ hi => absurd hi (Nat.not_lt_zero _), fun _ _ _ _ _ hi => absurd hi (Nat.not_lt_zero _)⟩, fun _ _ hi => absurd hi (Nat.not_lt_zero _)⟩
  cases e
  exact hF
theorem Tryz.infoPcZ : (Tryz.prog.info? 49).map (fun i => (i.zero, i.size, i.bytes)) = some (some (.agg #[.string ByteArray.empty, .int .i64 0, .int .i64 0, .int .i64 0, .string ByteArray.empty, .slice none 0 0]), 6, 80) := by kernel_rfl
set_option maxHeartbeats 4000000 in
theorem netPieces_any (f : Int) (a : Option Addr) (n c : Nat) (l : Option Addr) (d : Nat) (zs : List Int) (v3 : Value) (N : Nat → Nd) (root : ByteArray) (w : World) (h : Rd w (ndsD n N) (.slice a n c)) (hl : IntsAt w l zs.length zs) (hn : n ≤ 1048576) (hz : zs.length ≤ 1048576) (hQ : ∀ i, i < n → NdQ (N i)) :
    Calls Tryz.prog 26 #[ntV f (.slice a n c) (.slice l zs.length d) v3, .string root] w fun e w' => ∃ gg cc F, e = .returned (.slice (some ⟨gg, 0, none⟩) (hsL N root (kl (lyP zs) n)).length cc) ∧ Ow w' w.heap.size (pcsD (hsL N root (kl (lyP zs) n)).length (hsP N root (kl (lyP zs) n))) (.slice (some ⟨gg, 0, none⟩) (hsL N root (kl (lyP zs) n)).length cc) F ∧ Below w.heap.size w w' := by
  obtain ⟨i0, hi, hz0, hz1, hz2⟩ := info_parts Tryz.infoPcZ
  obtain ⟨A, HA⟩ : ∃ x, Hid (x = w.heap.size) := ⟨_, rfl⟩
  obtain ⟨g0, HG0⟩ : ∃ x, Hid (x = w.heap.size + 1) := ⟨_, rfl⟩
  obtain ⟨w0, HW0⟩ : ∃ x, Hid (x = (w.alloc (.cells #[.int .i64 f, .slice a n c, .slice l zs.length d, v3] 35)).alloc (.cells #[] 49)) := ⟨_, rfl⟩
  have RA : Hid (Row w0 A 35 #[.int .i64 f, .slice a n c, .slice l zs.length d, v3]) := by show Row _ _ _ _; rw [HW0.out, HA.out]; exact Row.alloc (Row.new w _ _) _
  have b0 : Below w.heap.size w w0 := by rw [HW0.out]; exact ((Below.refl _ _).alloc (Nat.le_refl _) _).alloc (by simp) _
  have hs0 : w0.heap.size = w.heap.size + 2 := by rw [HW0.out]; simp
  have HO0 : Hid (∀ F : Nat → Prop, F g0 → Ow w0 w.heap.size (pcsD 0 (hsP N root [])) (.slice (some ⟨g0, 0, none⟩) 0 0) F) := fun F hF => by
    have e : (w.alloc (.cells #[.int .i64 f, .slice a n c, .slice l zs.length d, v3] 35)).heap.size = g0 := by rw [HG0.out]; simp
    have := ow_pnil (w.alloc (.cells #[.int .i64 f, .slice a n c, .slice l zs.length d, v3] 35)) w.heap.size (hsP N root []) (by simp) (F := F) (e ▸ hF)
    rw [e] at this
    rw [HW0.out]
    exact this
  have KH : Hid _ := honest_any f a n c l d zs v3 N w w0 b0 h (hl.below b0) hn hz
  obtain ⟨m, HM⟩ : ∃ x, Hid ((kl (lyP zs) n).length = x) := ⟨_, rfl⟩
  have hmn : m ≤ n := by rw [← HM.out]; exact kl_le _ _
  rw [HM.out] at KH
  have KB0 : Hid (Below w.heap.size w w0) := b0
  have hin : ∀ t, t < m → (kl (lyP zs) n).getD t 0 < n := fun t ht => by
    rw [← HM.out] at ht
    rw [List.getD_eq_getElem?_getD, List.getElem?_eq_getElem ht]
    exact List.mem_range.1 (List.mem_filter.1 (List.getElem_mem ht)).1
  have KQ : Hid (∀ t, t < m → (kl (lyP zs) n).getD t 0 < n ∧ NdQ (N ((kl (lyP zs) n).getD t 0))) := fun t ht => ⟨hin t ht, hQ _ (hin t ht)⟩
  clear h hl b0 hQ hin
  go_enter Tryz.func26, Tryz.ntmps26
  go_wp2_with (rw [← HW0.out, ← HG0.out, ← HA.out]; refine wpList_load_row (by rfl) 35 _ (by rfl) A (by rfl) 35 #[.int .i64 f, .slice a n c, .slice l zs.length d, v3] (0, 0) _ ?_ Tryz.underlying35 (by rfl) Tryz.infoNt ?_; exact RA.out)
  refine Calls.mono KH.out ?_
  rintro e w1 ⟨g, z, rfl, ho, hr, b1⟩
  have hgl := World.ownsRow.lt ho g rfl
  have HK : Hid (∀ W W' : World, W'.heap[g]? = W.heap[g]? → W.ownsRow w.heap.size 101 5 (.slice (some ⟨g, 0, none⟩) n n) n (cL 5 z n) → W'.ownsRow w.heap.size 101 5 (.slice (some ⟨g, 0, none⟩) n n) n (cL 5 z n)) := fun W W' e h => own_at h e
  have H1 : Hid (PcI w g (fun W => W.ownsRow w.heap.size 101 5 (.slice (some ⟨g, 0, none⟩) n n) n (cL 5 z n)) N root [] (.slice (some ⟨g0, 0, none⟩) 0 0) 0 w1) := ⟨(HO0.out (fun x => rng w.heap.size w1.heap.size x ∧ x ≠ g) ⟨⟨by have := HG0.out; omega, by have := HG0.out; have := b1.size; omega⟩, by have := HG0.out; have := hgl.1; omega⟩).below b1, own_base ho KB0.out.size, hgl.2, rfl, below2 KB0.out b1⟩
  have KR : Hid (∀ t, t < m → ∀ q, q < 5 → Rd w (stD (N ((kl (lyP zs) n).getD t 0)) ((kl (lyP zs) n).getD t 0) f q) (z t q)) := hr
  clear ho hr b1 KH hgl hs0 HO0
  go_wp2
  go_loopw [5, 14] (fun v vi wr => ∃ (t gg len cc : Nat), t ≤ m ∧ len ≤ t ∧ Hid (PcI w g (fun W => W.ownsRow w.heap.size 101 5 (.slice (some ⟨g, 0, none⟩) n n) n (cL 5 z n)) N root ((kl (lyP zs) n).take t) (.slice (some ⟨gg, 0, none⟩) len cc) len wr) ∧ v = .slice (some ⟨gg, 0, none⟩) len cc ∧ vi = .int .i64 (t : Int)) (fun _ vi _ => m - (intOf vi).toNat)
  case atStart => exact ⟨0, g0, 0, 0, Nat.zero_le _, Nat.le_refl _, H1, rfl, rfl⟩
  case round =>
    obtain ⟨t, gg, len, cc, ht, hlt', HD, rfl, rfl⟩ := hrel
    clear H1
    by_cases hlt : t < m
    · have hti : (t : Int) < (m : Int) := by omega
      obtain ⟨an, cn, e0, e1, e2, e3, e4, hrd⟩ := st_cells (KR.out t hlt)
      obtain ⟨hxn, hq⟩ := KQ.out t hlt
      have HTK : Hid ((kl (lyP zs) n).take (t + 1) = (kl (lyP zs) n).take t ++ [(kl (lyP zs) n).getD t 0]) := take_one (by rw [HM.out]; exact hlt)
      have R1' := row_range HD.out.rs (show t < n by omega)
      obtain ⟨x, HX⟩ : ∃ v, Hid ((kl (lyP zs) n).getD t 0 = v) := ⟨_, rfl⟩
      rw [HX.out] at e0 e1 e2 e3 hrd hq hxn HTK
      obtain ⟨nd, HND⟩ : ∃ v, Hid (N x = v) := ⟨_, rfl⟩
      obtain ⟨T, HT⟩ : ∃ v, Hid (soS nd.S root nd.n = v) := ⟨_, rfl⟩
      obtain ⟨okv, HOK⟩ : ∃ v, Hid (soB nd.S root nd.n = v) := ⟨_, rfl⟩
      rw [HND.out] at e0 e1 e2 hrd hq
      rw [e0, e1, e2, e3, e4] at R1'
      have R1 : Hid (wr.rangeAt g (t * 5) [.int .i64 nd.i, .int .i64 nd.f, .slice an nd.n cn, .int .i64 (x : Int), .int .i64 f]) := R1'
      obtain ⟨V, HV⟩ : ∃ v, Hid (v = wr.heap.size) := ⟨_, rfl⟩
      obtain ⟨w2, HW2⟩ : ∃ v, Hid (v = wr.alloc (.cells #[.int .i64 nd.i, .int .i64 nd.f, .slice an nd.n cn, .int .i64 (x : Int), .int .i64 f] 101)) := ⟨_, rfl⟩
      have b2 : Below wr.heap.size wr w2 := by rw [HW2.out]; exact (Below.refl _ _).alloc (Nat.le_refl _) _
      have RV : Hid (Row w2 V 101 #[.int .i64 nd.i, .int .i64 nd.f, .slice an nd.n cn, .int .i64 (x : Int), .int .i64 f]) := by show Row _ _ _ _; rw [HW2.out, HV.out]; exact Row.new wr _ _
      have hsz2 : w2.heap.size = wr.heap.size + 1 := by rw [HW2.out]; simp
      have KB2 : Hid (Below wr.heap.size wr w2 ∧ Below w.heap.size w w2 ∧ w2.heap.size = wr.heap.size + 1) := ⟨b2, below2 HD.out.bw b2, hsz2⟩
      have KC : Hid (Calls Tryz.prog 50 #[ndV nd.i nd.f (.slice an nd.n cn), .string root] w2 fun e w' => ∃ (a6 a11 a12 : Option Addr) (c6 c11 c12 : Nat) (F6 F11 F12 : Nat → Prop), e = .returned (.tuple #[slV T (.slice a6 T.p.m c6) (.slice a11 T.ze.length c11) (.slice a12 T.zr.length c12), .bool okv]) ∧ SlO w' w2.heap.size T (.slice a6 T.p.m c6) (.slice a11 T.ze.length c11) (.slice a12 T.zr.length c12) F6 F11 F12 ∧ Below w2.heap.size w2 w') := by
        have := slotOf_any nd.i nd.f an nd.n cn nd.S root w2 (hrd.below KB2.out.2.1) hq.n hq.k
        rw [HT.out, HOK.out] at this
        exact this
      have HSk : Hid (∀ W, Below wr.heap.size wr W → (okv && T.h) = false → PcI w g (fun W => W.ownsRow w.heap.size 101 5 (.slice (some ⟨g, 0, none⟩) n n) n (cL 5 z n)) N root ((kl (lyP zs) n).take (t + 1)) (.slice (some ⟨gg, 0, none⟩) len cc) len W) := fun W hb hf => by
        rw [HTK.out]
        refine (HD.out.below HK.out hb).skip ?_
        unfold hsB
        rw [HND.out, HT.out, HOK.out]
        exact hf
      have HGr : Hid (∀ W5 W6 g3 cap (H : Nat → Nat → Prop), Below wr.heap.size wr W5 → (okv && T.h) = true → Ow W6 w.heap.size (.lst 49 6 (len + 1) (fun i => if i = len then pcD T.p else pcD (hsP N root ((kl (lyP zs) n).take t) i))) (.slice (some ⟨g3, 0, none⟩) (len + 1) cap) (fun y => y < W6.heap.size ∧ (((rng w.heap.size wr.heap.size y ∧ y ≠ g) ∨ ∃ q, q < 6 ∧ H q y) ∨ W5.heap.size ≤ y)) → Below w.heap.size W5 W6 → (∀ y, y < W5.heap.size → ¬ (rng w.heap.size wr.heap.size y ∧ y ≠ g) → W6.heap[y]? = W5.heap[y]?) → (∀ q y, q < 6 → H q y → wr.heap.size ≤ y) → PcI w g (fun W => W.ownsRow w.heap.size 101 5 (.slice (some ⟨g, 0, none⟩) n n) n (cL 5 z n)) N root ((kl (lyP zs) n).take (t + 1)) (.slice (some ⟨g3, 0, none⟩) (len + 1) cap) (len + 1) W6) := fun W5 W6 g3 cap H h1 h2 h3 h4 h5 h6 => by
        rw [HTK.out]
        refine PcI.grow HD.out HK.out h1 ?_ ?_ h3 h4 h5 h6
        · unfold hsB
          rw [HND.out, HT.out, HOK.out]
          exact h2
        · rw [HND.out, HT.out]
      have HOp : Hid (Ow wr w.heap.size (pcsD len (hsP N root ((kl (lyP zs) n).take t))) (.slice (some ⟨gg, 0, none⟩) len cc) (fun x => rng w.heap.size wr.heap.size x ∧ x ≠ g)) := HD.out.op
      have HBw : Hid (Below w.heap.size w wr) := HD.out.bw
      clear e0 e1 e2 e3 e4 hrd hxn hq R1' b2 hsz2 HTK HX HND HT HOK HD
      cases hok : okv with
      | false =>
        rw [hok] at KC HSk
        clear hok HGr HOp
        go_wp2_with (refine wpList_load_mid (by rfl) 101 _ (by rfl) g (t * 5) (by rfl) [.int .i64 nd.i, .int .i64 nd.f, .slice an nd.n cn, .int .i64 (x : Int), .int .i64 f] _ ?_ Tryz.underlying101 (by rfl) Tryz.infoSt ?_; exact R1.out)
        rw [← HW2.out, ← HV.out]
        refine Calls.mono KC.out ?_
        rintro e w3 ⟨a6, a11, a12, c6, c11, c12, F6, F11, F12, rfl, SO3, b3⟩
        obtain ⟨G, HG⟩ : ∃ v, Hid (v = w3.heap.size) := ⟨_, rfl⟩
        obtain ⟨w4, HW4⟩ : ∃ v, Hid (v = w3.alloc (.cells (slC T (.slice a6 T.p.m c6) (.slice a11 T.ze.length c11) (.slice a12 T.zr.length c12)) 76)) := ⟨_, rfl⟩
        have b4 : Below w3.heap.size w3 w4 := by rw [HW4.out]; exact (Below.refl _ _).alloc (Nat.le_refl _) _
        have RG : Hid (Row w4 G 76 (slC T (.slice a6 T.p.m c6) (.slice a11 T.ze.length c11) (.slice a12 T.zr.length c12))) := by show Row _ _ _ _; rw [HW4.out, HG.out]; exact Row.new w3 _ _
        have B4 : Hid (Below wr.heap.size wr w4) := below2 KB2.out.1 (below2 b3 b4)
        have HSO : Hid (Ow w4 w2.heap.size (txD T.p.m T.p.S) (.slice a6 T.p.m c6) (fun y => F6 y ∧ w2.heap.size ≤ y ∧ y < w3.heap.size)) := SO3.t.cut.below b4
        have y7 := RG.out.cell 7
        simp at y7
        clear b3 b4 KC R1 RV SO3

        have HS2 : Hid _ := HSk.out w4 B4.out rfl
        go_wp2
        rw [← HW4.out]
        go_roundw
        case rel => exact ⟨t + 1, gg, len, cc, by omega, by omega, HS2, rfl, by go_num⟩
        case measure => simp [intOf]; omega

      | true =>
        rw [hok] at KC HSk HGr
        clear hok
        cases hto : T.h with
        | false =>
          have HTO : Hid (T.h = false) := hto
          clear hto HGr HOp
          go_wp2_with (refine wpList_load_mid (by rfl) 101 _ (by rfl) g (t * 5) (by rfl) [.int .i64 nd.i, .int .i64 nd.f, .slice an nd.n cn, .int .i64 (x : Int), .int .i64 f] _ ?_ Tryz.underlying101 (by rfl) Tryz.infoSt ?_; exact R1.out)
          rw [← HW2.out, ← HV.out]
          refine Calls.mono KC.out ?_
          rintro e w3 ⟨a6, a11, a12, c6, c11, c12, F6, F11, F12, rfl, SO3, b3⟩
          obtain ⟨G, HG⟩ : ∃ v, Hid (v = w3.heap.size) := ⟨_, rfl⟩
          obtain ⟨w4, HW4⟩ : ∃ v, Hid (v = w3.alloc (.cells (slC T (.slice a6 T.p.m c6) (.slice a11 T.ze.length c11) (.slice a12 T.zr.length c12)) 76)) := ⟨_, rfl⟩
          have b4 : Below w3.heap.size w3 w4 := by rw [HW4.out]; exact (Below.refl _ _).alloc (Nat.le_refl _) _
          have RG : Hid (Row w4 G 76 (slC T (.slice a6 T.p.m c6) (.slice a11 T.ze.length c11) (.slice a12 T.zr.length c12))) := by show Row _ _ _ _; rw [HW4.out, HG.out]; exact Row.new w3 _ _
          have B4 : Hid (Below wr.heap.size wr w4) := below2 KB2.out.1 (below2 b3 b4)
          have HSO : Hid (Ow w4 w2.heap.size (txD T.p.m T.p.S) (.slice a6 T.p.m c6) (fun y => F6 y ∧ w2.heap.size ≤ y ∧ y < w3.heap.size)) := SO3.t.cut.below b4
          have y7 := RG.out.cell 7
          simp at y7
          clear b3 b4 KC R1 RV SO3

          have HS2 : Hid _ := HSk.out w4 B4.out (by rw [HTO.out]; rfl)
          rw [HTO.out] at y7
          go_upto_region 6 with fail
          rw [← HW4.out, ← HG.out]
          go_wp2
          go_roundw
          case rel => exact ⟨t + 1, gg, len, cc, by omega, by omega, HS2, rfl, by go_num⟩
          case measure => simp [intOf]; omega

        | true =>
          have HTO : Hid (T.h = true) := hto
          clear hto HSk
          go_wp2_with (refine wpList_load_mid (by rfl) 101 _ (by rfl) g (t * 5) (by rfl) [.int .i64 nd.i, .int .i64 nd.f, .slice an nd.n cn, .int .i64 (x : Int), .int .i64 f] _ ?_ Tryz.underlying101 (by rfl) Tryz.infoSt ?_; exact R1.out)
          rw [← HW2.out, ← HV.out]
          refine Calls.mono KC.out ?_
          rintro e w3 ⟨a6, a11, a12, c6, c11, c12, F6, F11, F12, rfl, SO3, b3⟩
          obtain ⟨G, HG⟩ : ∃ v, Hid (v = w3.heap.size) := ⟨_, rfl⟩
          obtain ⟨w4, HW4⟩ : ∃ v, Hid (v = w3.alloc (.cells (slC T (.slice a6 T.p.m c6) (.slice a11 T.ze.length c11) (.slice a12 T.zr.length c12)) 76)) := ⟨_, rfl⟩
          have b4 : Below w3.heap.size w3 w4 := by rw [HW4.out]; exact (Below.refl _ _).alloc (Nat.le_refl _) _
          have RG : Hid (Row w4 G 76 (slC T (.slice a6 T.p.m c6) (.slice a11 T.ze.length c11) (.slice a12 T.zr.length c12))) := by show Row _ _ _ _; rw [HW4.out, HG.out]; exact Row.new w3 _ _
          have B4 : Hid (Below wr.heap.size wr w4) := below2 KB2.out.1 (below2 b3 b4)
          have HSO : Hid (Ow w4 w2.heap.size (txD T.p.m T.p.S) (.slice a6 T.p.m c6) (fun y => F6 y ∧ w2.heap.size ≤ y ∧ y < w3.heap.size)) := SO3.t.cut.below b4
          have y7 := RG.out.cell 7
          simp at y7
          clear b3 b4 KC R1 RV SO3

          rw [HTO.out] at y7
          have y1 := RG.out.cell 1
          have y2 := RG.out.cell 2
          have y3 := RG.out.cell 3
          have y4 := RG.out.cell 4
          have y5 := RG.out.cell 5
          have y6 := RG.out.cell 6
          simp at y1 y2 y3 y4 y5 y6
          obtain ⟨w5, HW5⟩ : ∃ v, Hid (v = w4.alloc (.cells #[.string T.p.r, .int .i64 T.p.k, .int .i64 T.p.n, .int .i64 T.p.i, .string T.p.b, .slice a6 T.p.m c6] 49)) := ⟨_, rfl⟩
          have b5 : Below w4.heap.size w4 w5 := by rw [HW5.out]; exact (Below.refl _ _).alloc (Nat.le_refl _) _
          have HNE : Hid (∀ j u, ([.string T.p.r, .int .i64 T.p.k, .int .i64 T.p.n, .int .i64 T.p.i, .string T.p.b, .slice a6 T.p.m c6] : List Value)[j]? = some u → w5.cell? ((⟨w4.heap.size, 0, none⟩ : Addr).add j) = some u) := by rw [HW5.out]; exact World.news_of_block (cs := #[.string T.p.r, .int .i64 T.p.k, .int .i64 T.p.n, .int .i64 T.p.i, .string T.p.b, .slice a6 T.p.m c6]) (t := 49) (fr := (0, 0)) (heap_alloc_new w4 _)
          have B5 : Hid (Below wr.heap.size wr w5) := below2 B4.out b5
          have HO5 : Hid (Ow w5 w.heap.size (pcsD len (hsP N root ((kl (lyP zs) n).take t))) (.slice (some ⟨gg, 0, none⟩) len cc) (fun x => rng w.heap.size wr.heap.size x ∧ x ≠ g)) := HOp.out.below B5.out
          have HP5 : Hid (∀ q, q < 6 → Ow w5 w.heap.size (pcD T.p q) (([.string T.p.r, .int .i64 T.p.k, .int .i64 T.p.n, .int .i64 T.p.i, .string T.p.b, .slice a6 T.p.m c6] : List Value).getD q undef) (fun y => q = 5 ∧ (F6 y ∧ w2.heap.size ≤ y ∧ y < w3.heap.size))) := fun q hq => ow_piece ((HSO.out.below b5).base (KB2.out.2.1.size)) q hq
          have HHH : Hid (∀ q y, q < 6 → (q = 5 ∧ (F6 y ∧ w2.heap.size ≤ y ∧ y < w3.heap.size)) → wr.heap.size + 1 ≤ y) := fun q y _ hy => by have := hy.2.2.1; have := KB2.out.2.2; show _ ≤ _; omega
          have sB : w.heap.size ≤ w5.heap.size := (below2 HBw.out B5.out).size
          have HSB : Hid (w.heap.size ≤ w5.heap.size) := sB
          clear b5 sB
          go_upto_region 6 with fail
          rw [← HW4.out, ← HG.out]
          go_wp2_with (at_builtin; rw [← HW5.out]; refine (show True → _ from ?_) trivial)
          intro _
          refine wpList_snoc w5 (by rfl) _ _ 37 (by rfl) w.heap.size 49 i0 (.agg #[.string ByteArray.empty, .int .i64 0, .int .i64 0, .int .i64 0, .string ByteArray.empty, .slice none 0 0]) 6 80 Tryz.underlying37 hi hz0 hz1 hz2 rfl (by decide) (.slice (some ⟨gg, 0, none⟩) len cc) len _ _ (by rfl) HO5.out ⟨w4.heap.size, 0, none⟩ 1 [.string T.p.r, .int .i64 T.p.k, .int .i64 T.p.n, .int .i64 T.p.i, .string T.p.b, .slice a6 T.p.m c6] (by rfl) rfl HNE.out (by simp [Value.oneCell']) (pcD T.p) _ HP5.out ?_ ?_ (by unfold maxLen; omega) (by omega) HSB.out ?_
          · intro q y hq hy hf
            have := HHH.out q y hq hy
            have := hf.1.2
            omega
          · intro q q' y _ _ hy hy'
            exact hy.1.trans hy'.1.symm
          intro g3 cap3 w6 O6 b6 hs6
          have HS2 : Hid _ := HGr.out w5 w6 g3 cap3 _ B5.out (by rw [HTO.out]; rfl) O6 b6 hs6 (fun q y hq hy => by have := HHH.out q y hq hy; omega)
          clear O6 b6 hs6
          go_wp2
          go_roundw
          case rel => exact ⟨t + 1, g3, len + 1, cap3, by omega, by omega, HS2, rfl, by go_num⟩
          case measure => simp [intOf]; omega

    · obtain rfl : t = m := by omega
      have HF : Hid ((hsL N root (kl (lyP zs) n)).length = len ∧ Ow wr w.heap.size (pcsD len (hsP N root (kl (lyP zs) n))) (.slice (some ⟨gg, 0, none⟩) len cc) (fun x => rng w.heap.size wr.heap.size x ∧ x ≠ g) ∧ Below w.heap.size w wr) := by
        have e : (kl (lyP zs) n).take t = kl (lyP zs) n := by rw [← HM.out, List.take_length]
        have h1 := HD.out
        rw [e] at h1
        exact ⟨h1.ln, h1.op, h1.bw⟩
      clear HD
      go_wp2
      go_ret
      refine ⟨gg, cc, (fun x => rng w.heap.size wr.heap.size x ∧ x ≠ g), ?_, ?_, HF.out.2.2⟩
      · rw [HF.out.1]; rfl
      · rw [HF.out.1]; exact HF.out.2.1
end Go.Proofs.YtodpgbmpfflkoaaGreatDoor
