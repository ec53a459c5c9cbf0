/- Seats of which some are left out (slices.DeleteFunc), in the program. Conditions: lists of at most 2^20. -/
import Derived.Test.YtjhbjfplgmcbpaaH43
import Derived.Test.YtjhbjfplgmcbpaaH38
import Derived.Test.YtjhbjfplgmcbpaaH40
import Derived.Test.YtjhbjfplgmcbpaaH7
namespace Go.Proofs.Ytjhbjfplgmcbpaa
set_option maxRecDepth 2000
open Go.ChangeShapes Go.WideShapes Go.ChangeAt Go.RowKit

/-- Each seat's cells are numbers, and a list. -/
def SeY (n : Nat) (y : Nat → Nat → Value) : Prop := ∀ i, i < n → ∃ (i0 f0 b0 b1 : Int) (an : Option Addr) (nn cn : Nat), y i 0 = .int .i64 i0 ∧ y i 1 = .int .i64 f0 ∧ y i 2 = .slice an nn cn ∧ y i 3 = .int .i64 b0 ∧ y i 4 = .int .i64 b1
/-- What stands when k are looked at, of whom j are kept. -/
def DeI (w : World) (B g n : Nat) (y : Nat → Nat → Value) (p : Nat → Bool) (k j : Nat) (wr : World) : Prop := ∃ z, wr.ownsRow B 69 5 (.slice (some ⟨g, 0, none⟩) n n) n (cL 5 z n) ∧ (∀ t, t < j → ∀ q, q < 5 → z t q = y ((kl p k).getD t 0) q) ∧ (∀ t, k ≤ t → t < n → ∀ q, q < 5 → z t q = y t q) ∧ Trn w wr (fun x => x = g)
theorem DeI.skip {w wr w' : World} {B g n : Nat} {y : Nat → Nat → Value} {p : Nat → Bool} {k j : Nat} (h : DeI w B g n y p k j wr) (hp : p k = true) (hb : Below wr.heap.size wr w') : DeI w B g n y p (k + 1) j w' := by
  obtain ⟨z, h1, h2, h3, h4⟩ := h
  refine ⟨z, ownsRow_below h1 hb, fun t ht q hq => ?_, fun t h5 h6 q hq => h3 t (by omega) h6 q hq, h4.trans (Trn.ofBelow _ hb)⟩
  rw [kl_succ, if_pos hp]
  exact h2 t ht q hq
theorem DeI.keep {w wr w' : World} {B g n : Nat} {y : Nat → Nat → Value} {p : Nat → Bool} {k j : Nat} (h : DeI w B g n y p k j wr) (hp : p k = false) (hj : j = (kl p k).length) (hjk : j < k) (hk : k < n) (hb : Below wr.heap.size wr w') : DeI w B g n y p (k + 1) (j + 1) (w'.setCells g (j * 5) [y k 0, y k 1, y k 2, y k 3, y k 4]) := by
  obtain ⟨z, h1, h2, h3, h4⟩ := h
  have h5 := own_setCells (show j < n by omega) [y k 0, y k 1, y k 2, y k 3, y k 4] 0 w' z rfl (ownsRow_below h1 hb)
  rw [Nat.add_zero] at h5
  refine ⟨_, h5, fun t ht q hq => ?_, fun t ha hb' q hq => ?_, (h4.trans (Trn.ofBelow _ hb)).trans (trn_setCells (F := fun x => x = g) _ rfl _ _)⟩
  · have ek : kl p (k + 1) = kl p k ++ [k] := by rw [kl_succ, if_neg (by rw [hp]; decide)]
    rw [ek]
    by_cases e : t = j
    · subst e
      have e1 : (kl p k ++ [k]).getD t 0 = k := by rw [hj]; simp
      rw [if_pos ⟨rfl, Nat.zero_le _⟩, e1]
      match q, hq with
      | 0, _ | 1, _ | 2, _ | 3, _ | 4, _ => rfl
    · rw [if_neg (fun h => e h.1), h2 t (by omega) q hq]
      have e1 : (kl p k ++ [k]).getD t 0 = (kl p k).getD t 0 := by
        rw [List.getD_eq_getElem?_getD, List.getD_eq_getElem?_getD, List.getElem?_append_left (by omega)]
      rw [e1]
  · rw [if_neg (fun h => by have := h.1; omega)]
    exact h3 t (by omega) hb' q hq
set_option maxHeartbeats 4000000 in
theorem delS_any (B g n L : Nat) (y : Nat → Nat → Value) (p : Nat → Bool) (w : World) (hO : w.ownsRow B 69 5 (.slice (some ⟨g, 0, none⟩) n n) n (cL 5 y n)) (hn : n ≤ 1048576) (hY : SeY n y)
    (hF : ∀ i, i < n → ∀ W, Trn w W (fun x => x = g) → Calls Try.prog 57 #[.agg #[y i 0, y i 1, y i 2, y i 3, y i 4], .pointer (some ⟨L, 0, none⟩)] W fun e w' => e = .returned (.bool (p i)) ∧ Below W.heap.size W w') :
    Calls Try.prog 55 #[.slice (some ⟨g, 0, none⟩) n n, .func (.func 57) #[] #[.pointer (some ⟨L, 0, none⟩)]] w fun e w' => ∃ z, e = .returned (.slice (some ⟨g, 0, none⟩) (kl p n).length n) ∧ w'.ownsRow B 69 5 (.slice (some ⟨g, 0, none⟩) n n) n (cL 5 z n) ∧ (∀ t, t < (kl p n).length → ∀ q, q < 5 → z t q = y ((kl p n).getD t 0) q) ∧ Trn w w' (fun x => x = g) := by
  have KI : Hid _ := ixS_any B g n n L y p w hO hn (fun i hi W hW => hF i hi W (Trn.ofBelow _ hW))
  have KO : Hid _ := hO
  have KF : Hid _ := hF
  have KY : Hid _ := hY
  clear hO hF hY
  cases hx : ixF p n 0 with
  | none =>
    have e1 : ixX p n = -1 := by unfold ixX; rw [hx]
    rw [e1] at KI
    have hal := ixF_none hx
    have e2 : kl p n = List.range n := kl_all (fun i hi => hal i (Nat.zero_le _) (by omega))
    have HE : Hid ((kl p n).length = n ∧ ∀ t, t < n → (kl p n).getD t 0 = t) := ⟨by rw [e2]; simp, fun t ht => by rw [e2, List.getD_eq_getElem?_getD, List.getElem?_range ht]; rfl⟩
    clear hx e1 hal e2
    go_enter Try.func55, Try.ntmps55
    go_wp2_with fail
    refine Calls.mono KI.out ?_
    rintro e w1 ⟨rfl, b1⟩
    have HF : Hid (w1.ownsRow B 69 5 (.slice (some ⟨g, 0, none⟩) n n) n (cL 5 y n) ∧ Trn w w1 (fun x => x = g)) := ⟨ownsRow_below KO.out b1, Trn.ofBelow _ b1⟩
    clear b1
    go_wp2
    go_ret
    refine ⟨y, by rw [HE.out.1]; rfl, HF.out.1, fun t ht q _ => ?_, HF.out.2⟩
    rw [HE.out.1] at ht
    rw [HE.out.2 t ht]
  | some x =>
    have e1 : ixX p n = (x : Int) := by unfold ixX; rw [hx]
    rw [e1] at KI
    obtain ⟨_, hxn', hpx, hal⟩ := ixF_some hx
    have hxn : x < n := by omega
    have e2 : kl p x = List.range x := kl_all (fun i hi => hal i (Nat.zero_le _) hi)
    have e3 : kl p (x + 1) = List.range x := by rw [kl_succ, if_pos hpx, e2]
    have hne : ¬ ((x : Int) = -1) := by omega
    have hne2 : ((x : Int) == -1) = false := by simp
    have hxw : IntKind.i64.wrap ((x : Int) + 1) = (x : Int) + 1 := by rw [IntKind.wrap_i64]; omega
    have HE3 : Hid ((kl p (x + 1)).length = x ∧ ∀ t, t < x → (kl p (x + 1)).getD t 0 = t) := ⟨by rw [e3]; simp, fun t ht => by rw [e3, List.getD_eq_getElem?_getD, List.getElem?_range ht]; rfl⟩
    clear hx e1 hal e2 e3 hxn' hpx
    go_enter Try.func55, Try.ntmps55
    go_wp2_with fail
    refine Calls.mono KI.out ?_
    rintro e w1 ⟨rfl, b1⟩
    have H0 : Hid (DeI w B g n y p (x + 1) x w1) := ⟨y, ownsRow_below KO.out b1, fun t ht q _ => by rw [HE3.out.2 t ht], fun t _ _ q _ => rfl, Trn.ofBelow _ b1⟩
    clear b1 KI
    go_wp2
    go_loopw [5, 6] (fun vi vj wr => ∃ k j : Nat, j < k ∧ k ≤ n ∧ vj = .int .i64 (k : Int) ∧ vi = .int .i64 (j : Int) ∧ Hid (j = (kl p k).length ∧ DeI w B g n y p k j wr)) (fun _ vj _ => n - (intOf vj).toNat)
    case atStart => exact ⟨x + 1, x, by omega, by omega, by simp, rfl, HE3.out.1.symm, H0.out⟩
    case round =>
      obtain ⟨k, j, hjk, hk, rfl, rfl, HR⟩ := hrel
      clear H0 HE3 hne hne2 hxw
      by_cases hlt : k < n
      · have hki : (k : Int) < (n : Int) := by omega
        obtain ⟨z, ho, hz1, hz2, ht⟩ := HR.out.2
        have hr0 := row_range ho hlt
        rw [hz2 k (Nat.le_refl _) hlt 0 (by omega), hz2 k (Nat.le_refl _) hlt 1 (by omega), hz2 k (Nat.le_refl _) hlt 2 (by omega), hz2 k (Nat.le_refl _) hlt 3 (by omega), hz2 k (Nat.le_refl _) hlt 4 (by omega)] at hr0
        obtain ⟨V, HV⟩ : ∃ v, Hid (v = wr.heap.size) := ⟨_, rfl⟩
        obtain ⟨w2, HW2⟩ : ∃ v, Hid (v = wr.alloc (.cells #[y k 0, y k 1, y k 2, y k 3, y k 4] 69)) := ⟨_, rfl⟩
        have b2 : Below wr.heap.size wr w2 := by rw [HW2.out]; exact (Below.refl _ _).alloc (Nat.le_refl _) _
        have RV2 : Row w2 V 69 #[y k 0, y k 1, y k 2, y k 3, y k 4] := by rw [HW2.out, HV.out]; exact Row.new wr _ _
        have KC0 := KF.out k hlt w2 (ht.trans (Trn.ofBelow _ b2))
        have HDe := HR.out.2
        have HL := HR.out.1
        have HB2 : Hid (Below wr.heap.size wr w2) := b2
        obtain ⟨i0, f0, q0, q1, an, nn, cn, g0, g1, g2, g3, g4⟩ := KY.out k hlt
        have HKe : Hid (∀ w3, Below wr.heap.size wr w3 → p k = false → DeI w B g n y p (k + 1) (j + 1) (w3.setCells g (j * 5) [.int .i64 i0, .int .i64 f0, .slice an nn cn, .int .i64 q0, .int .i64 q1]) ∧ (kl p (k + 1)).length = j + 1 ∧ w3.there g (j * 5) 5) := fun w3 hb hp => by
          have h1 := DeI.keep HDe hp HL hjk hlt hb
          rw [g0, g1, g2, g3, g4] at h1
          exact ⟨h1, by rw [kl_succ, if_neg (by rw [hp]; decide), List.length_append, ← HL]; rfl, there_row (ownsRow_below ho hb) (by omega)⟩
        have HSk : Hid (∀ w3, Below wr.heap.size wr w3 → p k = true → DeI w B g n y p (k + 1) j w3 ∧ (kl p (k + 1)).length = j) := fun w3 hb hp => ⟨DeI.skip HDe hp hb, by rw [kl_succ, if_pos hp]; exact HL.symm⟩
        rw [g0, g1, g2, g3, g4] at hr0 HW2 RV2 KC0
        have R1 : Hid _ := hr0
        have RV : Hid (Row w2 V 69 #[.int .i64 i0, .int .i64 f0, .slice an nn cn, .int .i64 q0, .int .i64 q1]) := RV2
        have KC : Hid _ := KC0
        clear hr0 RV2 KC0 g0 g1 g2 g3 g4 ho hz1 hz2 ht HDe HL b2 HR
        cases hp : p k with
        | true =>
          rw [hp] at KC
          have HS2 : Hid (∀ w3, Below wr.heap.size wr w3 → DeI w B g n y p (k + 1) j w3 ∧ (kl p (k + 1)).length = j) := fun w3 hb => HSk.out w3 hb hp
          clear hp HSk HKe
          go_wp2_with (refine wpList_load_mid (by rfl) 69 _ (by rfl) g (k * 5) (by rfl) [.int .i64 i0, .int .i64 f0, .slice an nn cn, .int .i64 q0, .int .i64 q1] _ ?_ Try.underlying69 (by rfl) Try.infoSt ?_; exact R1.out)
          rw [← HW2.out]
          refine Calls.mono KC.out ?_
          rintro e w3 ⟨rfl, b3⟩
          obtain ⟨hd, hl⟩ := HS2.out w3 (below2 HB2.out b3)
          have HN2 : Hid (j = (kl p (k + 1)).length ∧ DeI w B g n y p (k + 1) j w3) := ⟨hl.symm, hd⟩
          clear hd hl b3 KC R1 RV
          go_wp2
          go_roundw
          case rel => exact ⟨k + 1, j, by omega, by omega, by go_num, rfl, HN2⟩
          case measure => simp [intOf]; omega
        | false =>
          rw [hp] at KC
          have HS2 : Hid (∀ w3, Below wr.heap.size wr w3 → DeI w B g n y p (k + 1) (j + 1) (w3.setCells g (j * 5) [.int .i64 i0, .int .i64 f0, .slice an nn cn, .int .i64 q0, .int .i64 q1]) ∧ (kl p (k + 1)).length = j + 1 ∧ w3.there g (j * 5) 5) := fun w3 hb => HKe.out w3 hb hp
          clear hp HSk HKe
          go_wp2_with (refine wpList_load_mid (by rfl) 69 _ (by rfl) g (k * 5) (by rfl) [.int .i64 i0, .int .i64 f0, .slice an nn cn, .int .i64 q0, .int .i64 q1] _ ?_ Try.underlying69 (by rfl) Try.infoSt ?_; exact R1.out)
          rw [← HW2.out, ← HV.out]
          refine Calls.mono KC.out ?_
          rintro e w3 ⟨rfl, b3⟩
          obtain ⟨hd, hl, hth⟩ := HS2.out w3 (below2 HB2.out b3)
          have RV3 : Hid (Row w3 V 69 #[.int .i64 i0, .int .i64 f0, .slice an nn cn, .int .i64 q0, .int .i64 q1]) := RV.out.below b3 RV.out.lt
          obtain ⟨w4, HW4⟩ : ∃ v, Hid (v = w3.setCells g (j * 5) [.int .i64 i0, .int .i64 f0, .slice an nn cn, .int .i64 q0, .int .i64 q1]) := ⟨_, rfl⟩
          have HN2 : Hid (j + 1 = (kl p (k + 1)).length ∧ DeI w B g n y p (k + 1) (j + 1) w4) := ⟨hl.symm, by rw [HW4.out]; exact hd⟩
          have TH : Hid _ := hth
          have hji : (j : Int) < (n : Int) := by omega
          clear hd hl hth b3 KC R1 RV
          go_wp2_with (first | (refine wpList_load_row (by rfl) 69 _ (by rfl) V (by rfl) 69 #[.int .i64 i0, .int .i64 f0, .slice an nn cn, .int .i64 q0, .int .i64 q1] (0, 0) _ ?_ Try.underlying69 (by rfl) Try.infoSt ?_; exact RV3.out) | (refine wpList_store_mid (by rfl) 69 _ _ (by rfl) g (j * 5) #[.int .i64 i0, .int .i64 f0, .slice an nn cn, .int .i64 q0, .int .i64 q1] (by rfl) (by rfl) ?_ Try.infoSt (by simp [Value.oneCell']) ?_; exact TH.out; rw [← HW4.out]))
          go_roundw
          case rel => exact ⟨k + 1, j + 1, by omega, by omega, by go_num, by go_num, HN2⟩
          case measure => simp [intOf]; omega
      · obtain rfl : k = n := by omega
        obtain ⟨z, ho, hz1, _, ht⟩ := HR.out.2
        obtain ⟨vs, hvl, hclr⟩ := clear_seats ho hjk
        obtain ⟨z', ho', hz'⟩ := own_seg (by omega) vs (j * 5) wr z (by omega) ho
        obtain ⟨w4, HW4⟩ : ∃ v, Hid (v = wr.setCells g (j * 5) vs) := ⟨_, rfl⟩
        rw [← HW4.out] at hclr ho'
        have HF : Hid (j = (kl p k).length ∧ w4.ownsRow B 69 5 (.slice (some ⟨g, 0, none⟩) k k) k (cL 5 z' k) ∧ (∀ t, t < j → ∀ q, q < 5 → z' t q = y ((kl p k).getD t 0) q) ∧ Trn w w4 (fun x => x = g)) := ⟨HR.out.1, ho', fun t ht' q hq => by rw [hz' t q (by omega) hq (mid_lt ht' hq)]; exact hz1 t ht' q hq, by rw [HW4.out]; exact ht.trans (trn_setCells (F := fun x => x = g) _ rfl _ _)⟩
        have hji : (j : Int) < (k : Int) := by omega
        have hnj : ¬ (k = j) := by omega
        clear ho hz1 ht ho' hz' hvl HR
        go_wp2
        go_ret
        exact ⟨z', by rw [← HF.out.1]; rfl, HF.out.2.1, by rw [← HF.out.1]; exact HF.out.2.2.1, HF.out.2.2.2⟩
end Go.Proofs.Ytjhbjfplgmcbpaa
/- The seats of those who are no liars, in the program. Conditions: lists of at most 2^20. -/
namespace Go.Proofs.Ytjhbjfplgmcbpaa
set_option maxRecDepth 2000
open Go.ChangeShapes Go.WideShapes Go.ChangeAt Go.RowKit

/-- Whether a node is a liar. -/
def lyP (zs : List Int) (i : Nat) : Bool := decide ((i : Int) ∈ zs)
set_option maxHeartbeats 2000000 in
theorem honest_any (f : Int) (a : Option Addr) (n c : Nat) (l : Option Addr) (d : Nat) (zs : List Int) (v3 : Value) (N : Nat → Nd) (wb w : World) (hwb : Below wb.heap.size wb w) (h : Rd wb (ndsD n N) (.slice a n c)) (hl : IntsAt w l zs.length zs) (hn : n ≤ 1048576) (hz : zs.length ≤ 1048576) :
    Calls Try.prog 34 #[ntV f (.slice a n c) (.slice l zs.length d) v3] w fun e w' => ∃ g z, e = .returned (.slice (some ⟨g, 0, none⟩) (kl (lyP zs) n).length n) ∧ w'.ownsRow w.heap.size 69 5 (.slice (some ⟨g, 0, none⟩) n n) n (cL 5 z n) ∧ (∀ t, t < (kl (lyP zs) n).length → ∀ q, q < 5 → Rd wb (stD (N ((kl (lyP zs) n).getD t 0)) ((kl (lyP zs) n).getD t 0) f q) (z t q)) ∧ Below w.heap.size w w' := by
  obtain ⟨A, HA⟩ : ∃ x, Hid (x = w.heap.size) := ⟨_, rfl⟩
  obtain ⟨w0, HW0⟩ : ∃ x, Hid (x = w.alloc (.cells #[.int .i64 f, .slice a n c, .slice l zs.length d, v3] 31)) := ⟨_, rfl⟩
  have RA : Hid (Row w0 A 31 #[.int .i64 f, .slice a n c, .slice l zs.length d, v3]) := by show Row _ _ _ _; rw [HW0.out, HA.out]; exact Row.new w _ _
  have b0 : Below w.heap.size w w0 := by rw [HW0.out]; exact (Below.refl _ _).alloc (Nat.le_refl _) _
  have KB0 : Hid (Below w.heap.size w w0) := b0
  have KL : Hid _ := lies_any f (.slice a n c) v3 l d zs w0 (hl.below b0) hz
  have KS : Hid (∀ W, Below w.heap.size w W → Calls Try.prog 56 #[ntV f (.slice a n c) (.slice l zs.length d) v3] W fun e w' => ∃ g y, e = .returned (.slice (some ⟨g, 0, none⟩) n n) ∧ w'.ownsRow W.heap.size 69 5 (.slice (some ⟨g, 0, none⟩) n n) n (cL 5 y n) ∧ (∀ i, i < n → ∀ q, q < 5 → Rd wb (stD (N i) i f q) (y i q)) ∧ Below W.heap.size W w') := fun W hW => seatO_any f a n c (.slice l zs.length d) v3 N wb W (below2 hwb hW) h hn
  clear h hl b0 hwb
  go_enter Try.func34, Try.ntmps34
  go_wp2_with (rw [← HW0.out, ← HA.out]; refine wpList_load_row (by rfl) 31 _ (by rfl) A (by rfl) 31 #[.int .i64 f, .slice a n c, .slice l zs.length d, v3] (0, 0) _ ?_ Try.underlying31 (by rfl) Try.infoNt ?_; exact RA.out)
  refine Calls.mono KL.out ?_
  rintro e w1 ⟨b, rfl, hm1, hbb, b1⟩
  obtain ⟨L, HL⟩ : ∃ x, Hid (x = w1.heap.size) := ⟨_, rfl⟩
  obtain ⟨w2, HW2⟩ : ∃ x, Hid (x = w1.alloc (.cells #[.map (some b)] 93)) := ⟨_, rfl⟩
  have b2 : Below w1.heap.size w1 w2 := by rw [HW2.out]; exact (Below.refl _ _).alloc (Nat.le_refl _) _
  have RL2 : Row w2 L 93 #[.map (some b)] := by rw [HW2.out, HL.out]; exact Row.new w1 _ _
  have RA2 : Hid (Row w2 A 31 #[.int .i64 f, .slice a n c, .slice l zs.length d, v3]) := (RA.out.below b1 RA.out.lt).below b2 (Nat.lt_of_lt_of_le RA.out.lt b1.size)
  have KB2 : Hid (Below w.heap.size w w2) := below2 (below2 KB0.out b1) b2
  have HM2 : Hid (LM w2 b f zs ∧ Row w2 L 93 #[.map (some b)] ∧ b < w2.heap.size) := ⟨hm1.below b2, RL2, by
    obtain ⟨_, _, e, _⟩ := hm1.below b2
    exact (Array.getElem?_eq_some_iff.1 e).1⟩
  have KC2 : Hid _ := KS.out w2 KB2.out
  clear b1 b2 RL2 hm1 hbb KL KS HW0
  go_wp2_with (rw [← HW2.out, ← HL.out]; refine wpList_load_row (by rfl) 31 _ (by rfl) A (by rfl) 31 #[.int .i64 f, .slice a n c, .slice l zs.length d, v3] (0, 0) _ ?_ Try.underlying31 (by rfl) Try.infoNt ?_; exact RA2.out)
  refine Calls.mono KC2.out ?_
  rintro e w3 ⟨g, y, rfl, ho, hr, b3⟩
  have hg := (World.ownsRow.lt ho g rfl).1
  have hlL := HM2.out.2.1.lt
  have hlb := HM2.out.2.2
  have HY : Hid (SeY n y) := fun i hi => by
    obtain ⟨an, cn, e0, e1, e2, e3, e4, _⟩ := st_cells (hr i hi)
    exact ⟨_, _, _, _, _, _, _, e0, e1, e2, e3, e4⟩
  have KD : Hid _ := delS_any w2.heap.size g n L y (lyP zs) w3 ho hn HY.out (fun i hi W ht => by
    obtain ⟨an, cn, e0, e1, e2, e3, e4, _⟩ := st_cells (hr i hi)
    rw [e3, e4]
    have hL3 : Row w3 L 93 #[.map (some b)] := HM2.out.2.1.below b3 hlL
    have hLW : Row W L 93 #[.map (some b)] := (ht.block L hL3.lt (by omega)).trans hL3
    have hcL := hLW.cell 0
    have hmW : LM W b f zs := by
      obtain ⟨es, clock, eb, hle⟩ := HM2.out.1.below b3
      exact ⟨es, clock, (ht.block b (Array.getElem?_eq_some_iff.1 eb).1 (by omega)).trans eb, hle⟩
    exact honest1_any L b f zs (y i 0) (y i 1) (y i 2) (i : Int) W (by simpa using hcL) hmW)
  have hin : ∀ t, t < (kl (lyP zs) n).length → (kl (lyP zs) n).getD t 0 < n := fun t ht => by
    rw [List.getD_eq_getElem?_getD, List.getElem?_eq_getElem ht]
    have := List.getElem_mem ht
    exact List.mem_range.1 (List.mem_filter.1 this).1
  have hs2 := KB2.out.size
  have HFin : Hid (∀ w' z, w'.ownsRow w2.heap.size 69 5 (.slice (some ⟨g, 0, none⟩) n n) n (cL 5 z n) → (∀ t, t < (kl (lyP zs) n).length → ∀ q, q < 5 → z t q = y ((kl (lyP zs) n).getD t 0) q) → Trn w3 w' (fun x => x = g) → w'.ownsRow w.heap.size 69 5 (.slice (some ⟨g, 0, none⟩) n n) n (cL 5 z n) ∧ (∀ t, t < (kl (lyP zs) n).length → ∀ q, q < 5 → Rd wb (stD (N ((kl (lyP zs) n).getD t 0)) ((kl (lyP zs) n).getD t 0) f q) (z t q)) ∧ Below w.heap.size w w') := fun w' z h1 h2 h3 =>
    ⟨own_base h1 hs2, fun t ht q hq => by rw [h2 t ht q hq]; exact hr _ (hin t ht) q hq, (below2 KB2.out b3).trans (h3.below (fun x hx => by have hx' : x = g := hx; omega) (below2 KB2.out b3).size)⟩
  clear ho hr b3 hg hlL hlb hin hs2
  go_wp2_with fail
  refine Calls.mono KD.out ?_
  rintro e w4 ⟨z, rfl, h1, h2, h3⟩
  have HR : Hid _ := HFin.out w4 z h1 h2 h3
  clear h1 h2 h3
  go_wp2
  go_ret
  exact ⟨g, z, rfl, HR.out⟩
end Go.Proofs.Ytjhbjfplgmcbpaa
/- Which nodes that are no liars are done with a root (NetDone), in the program. Conditions: lists of at most 2^20. -/
namespace Go.Proofs.Ytjhbjfplgmcbpaa
set_option maxRecDepth 2000
open Go.ChangeShapes Go.WideShapes Go.ChangeAt Go.RowKit

theorem take_one {l : List Nat} {t : Nat} (h : t < l.length) : l.take (t + 1) = l.take t ++ [l.getD t 0] := by
  rw [List.take_add_one, List.getD_eq_getElem?_getD, List.getElem?_eq_getElem h]
  rfl
/-- What the count tells of each node. -/
structure NdQ (d : Nd) : Prop where
  n : d.n ≤ 1048576
  k : ∀ i, i < d.n → SlK (d.S i)
  s : ∀ i, i < d.n → SlS (d.S i)
/-- What stands when t seats are looked at. -/
structure DnI (w : World) (B g n : Nat) (z : Nat → Nat → Value) (L : List Int) (gg len cc : Nat) (wr : World) : Prop where
  ro : wr.ownsRow B 3 1 (.slice (some ⟨gg, 0, none⟩) len cc) len (L.map (Value.int .i64))
  rs : wr.ownsRow B 69 5 (.slice (some ⟨g, 0, none⟩) n n) n (cL 5 z n)
  ln : L.length = len
  bw : Below w.heap.size w wr
  wB : w.heap.size ≤ B
theorem row_type {w : World} {B e s n cap g : Nat} {xs : List Value} (h : w.ownsRow B e s (.slice (some ⟨g, 0, none⟩) n cap) n xs) : ∃ cur fr, w.heap[g]? = some (.cells cur e fr) := by
  rcases h.2 with ⟨e', _⟩ | ⟨g', cap', cur, e', h1, h2, _⟩
  · cases e'
  · cases e'
    exact ⟨_, _, h2⟩
theorem DnI.ne {w wr : World} {B g n : Nat} {z : Nat → Nat → Value} {L : List Int} {gg len cc : Nat} (h : DnI w B g n z L gg len cc wr) : g ≠ gg := fun e => by
  obtain ⟨c1, f1, e1⟩ := row_type h.ro
  obtain ⟨c2, f2, e2⟩ := row_type h.rs
  rw [e, e1] at e2
  simp at e2
theorem DnI.below {w wr w' : World} {B g n : Nat} {z : Nat → Nat → Value} {L : List Int} {gg len cc : Nat} (h : DnI w B g n z L gg len cc wr) (hb : Below wr.heap.size wr w') : DnI w B g n z L gg len cc w' := ⟨ownsRow_below h.ro hb, ownsRow_below h.rs hb, h.ln, below2 h.bw hb, h.wB⟩
end Go.Proofs.Ytjhbjfplgmcbpaa
