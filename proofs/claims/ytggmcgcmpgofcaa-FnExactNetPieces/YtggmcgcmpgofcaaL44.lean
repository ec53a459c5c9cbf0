/- The seats of those who are no liars, in the program. Conditions: lists of at most 2^20. -/
import Derived.Test.YtggmcgcmpgofcaaL43
import Derived.Test.YtggmcgcmpgofcaaL37
import Derived.Test.YtggmcgcmpgofcaaL40
import Derived.Test.YtggmcgcmpgofcaaL8
import Derived.Test.YtggmcgcmpgofcaaL39
import Derived.Test.YtggmcgcmpgofcaaL26
import Derived.Test.YtggmcgcmpgofcaaL23
import Derived.Test.YtggmcgcmpgofcaaL29
import Derived.Test.YtggmcgcmpgofcaaL18
namespace Go.Proofs.Ytggmcgcmpgofcaa
set_option maxRecDepth 2000
open Go.ChangeShapes Go.WideShapes Go.ChangeAt Go.RowKit

/-- Whether a node is a liar. -/
def lyP (zs : List Int) (i : Nat) : Bool := decide ((i : Int) ∈ zs)
set_option maxHeartbeats 2000000 in
theorem honest_any (f : Int) (a : Option Addr) (n c : Nat) (l : Option Addr) (d : Nat) (zs : List Int) (v3 : Value) (N : Nat → Nd) (wb w : World) (hwb : Below wb.heap.size wb w) (h : Rd wb (ndsD n N) (.slice a n c)) (hl : IntsAt w l zs.length zs) (hn : n ≤ 1048576) (hz : zs.length ≤ 1048576) :
    Calls Try.prog 54 #[ntV f (.slice a n c) (.slice l zs.length d) v3] w fun e w' => ∃ g z, e = .returned (.slice (some ⟨g, 0, none⟩) (kl (lyP zs) n).length n) ∧ w'.ownsRow w.heap.size 89 5 (.slice (some ⟨g, 0, none⟩) n n) n (cL 5 z n) ∧ (∀ t, t < (kl (lyP zs) n).length → ∀ q, q < 5 → Rd wb (stD (N ((kl (lyP zs) n).getD t 0)) ((kl (lyP zs) n).getD t 0) f q) (z t q)) ∧ Below w.heap.size w w' := by
  obtain ⟨A, HA⟩ : ∃ x, Hid (x = w.heap.size) := ⟨_, rfl⟩
  obtain ⟨w0, HW0⟩ : ∃ x, Hid (x = w.alloc (.cells #[.int .i64 f, .slice a n c, .slice l zs.length d, v3] 36)) := ⟨_, rfl⟩
  have RA : Hid (Row w0 A 36 #[.int .i64 f, .slice a n c, .slice l zs.length d, v3]) := by show Row _ _ _ _; rw [HW0.out, HA.out]; exact Row.new w _ _
  have b0 : Below w.heap.size w w0 := by rw [HW0.out]; exact (Below.refl _ _).alloc (Nat.le_refl _) _
  have KB0 : Hid (Below w.heap.size w w0) := b0
  have KL : Hid _ := lies_any f (.slice a n c) v3 l d zs w0 (hl.below b0) hz
  have KS : Hid (∀ W, Below w.heap.size w W → Calls Try.prog 74 #[ntV f (.slice a n c) (.slice l zs.length d) v3] W fun e w' => ∃ g y, e = .returned (.slice (some ⟨g, 0, none⟩) n n) ∧ w'.ownsRow W.heap.size 89 5 (.slice (some ⟨g, 0, none⟩) n n) n (cL 5 y n) ∧ (∀ i, i < n → ∀ q, q < 5 → Rd wb (stD (N i) i f q) (y i q)) ∧ Below W.heap.size W w') := fun W hW => seatO_any f a n c (.slice l zs.length d) v3 N wb W (below2 hwb hW) h hn
  clear h hl b0 hwb
  go_enter Try.func54, Try.ntmps54
  go_wp2_with (rw [← HW0.out, ← HA.out]; refine wpList_load_row (by rfl) 36 _ (by rfl) A (by rfl) 36 #[.int .i64 f, .slice a n c, .slice l zs.length d, v3] (0, 0) _ ?_ Try.underlying36 (by rfl) Try.infoNt ?_; exact RA.out)
  refine Calls.mono KL.out ?_
  rintro e w1 ⟨b, rfl, hm1, hbb, b1⟩
  obtain ⟨L, HL⟩ : ∃ x, Hid (x = w1.heap.size) := ⟨_, rfl⟩
  obtain ⟨w2, HW2⟩ : ∃ x, Hid (x = w1.alloc (.cells #[.map (some b)] 112)) := ⟨_, rfl⟩
  have b2 : Below w1.heap.size w1 w2 := by rw [HW2.out]; exact (Below.refl _ _).alloc (Nat.le_refl _) _
  have RL2 : Row w2 L 112 #[.map (some b)] := by rw [HW2.out, HL.out]; exact Row.new w1 _ _
  have RA2 : Hid (Row w2 A 36 #[.int .i64 f, .slice a n c, .slice l zs.length d, v3]) := (RA.out.below b1 RA.out.lt).below b2 (Nat.lt_of_lt_of_le RA.out.lt b1.size)
  have KB2 : Hid (Below w.heap.size w w2) := below2 (below2 KB0.out b1) b2
  have HM2 : Hid (LM w2 b f zs ∧ Row w2 L 112 #[.map (some b)] ∧ b < w2.heap.size) := ⟨hm1.below b2, RL2, by
    obtain ⟨_, _, e, _⟩ := hm1.below b2
    exact (Array.getElem?_eq_some_iff.1 e).1⟩
  have KC2 : Hid _ := KS.out w2 KB2.out
  clear b1 b2 RL2 hm1 hbb KL KS HW0
  go_wp2_with (rw [← HW2.out, ← HL.out]; refine wpList_load_row (by rfl) 36 _ (by rfl) A (by rfl) 36 #[.int .i64 f, .slice a n c, .slice l zs.length d, v3] (0, 0) _ ?_ Try.underlying36 (by rfl) Try.infoNt ?_; exact RA2.out)
  refine Calls.mono KC2.out ?_
  rintro e w3 ⟨g, y, rfl, ho, hr, b3⟩
  have hg := (World.ownsRow.lt ho g rfl).1
  have hlL := HM2.out.2.1.lt
  have hlb := HM2.out.2.2
  have HY : Hid (SeY n y) := fun i hi => by
    obtain ⟨an, cn, e0, e1, e2, e3, e4, _⟩ := st_cells (hr i hi)
    exact ⟨_, _, _, _, _, _, _, e0, e1, e2, e3, e4⟩
  have KD : Hid _ := delS_any w2.heap.size g n L y (lyP zs) w3 ho hn HY.out (fun i hi W ht => by
    obtain ⟨an, cn, e0, e1, e2, e3, e4, _⟩ := st_cells (hr i hi)
    rw [e3, e4]
    have hL3 : Row w3 L 112 #[.map (some b)] := HM2.out.2.1.below b3 hlL
    have hLW : Row W L 112 #[.map (some b)] := (ht.block L hL3.lt (by omega)).trans hL3
    have hcL := hLW.cell 0
    have hmW : LM W b f zs := by
      obtain ⟨es, clock, eb, hle⟩ := HM2.out.1.below b3
      exact ⟨es, clock, (ht.block b (Array.getElem?_eq_some_iff.1 eb).1 (by omega)).trans eb, hle⟩
    exact honest1_any L b f zs (y i 0) (y i 1) (y i 2) (i : Int) W (by simpa using hcL) hmW)
  have hin : ∀ t, t < (kl (lyP zs) n).length → (kl (lyP zs) n).getD t 0 < n := fun t ht => by
    rw [List.getD_eq_getElem?_getD, List.getElem?_eq_getElem ht]
    have := List.getElem_mem ht
    exact List.mem_range.1 (List.mem_filter.1 this).1
  have hs2 := KB2.out.size
  have HFin : Hid (∀ w' z, w'.ownsRow w2.heap.size 89 5 (.slice (some ⟨g, 0, none⟩) n n) n (cL 5 z n) → (∀ t, t < (kl (lyP zs) n).length → ∀ q, q < 5 → z t q = y ((kl (lyP zs) n).getD t 0) q) → Trn w3 w' (fun x => x = g) → w'.ownsRow w.heap.size 89 5 (.slice (some ⟨g, 0, none⟩) n n) n (cL 5 z n) ∧ (∀ t, t < (kl (lyP zs) n).length → ∀ q, q < 5 → Rd wb (stD (N ((kl (lyP zs) n).getD t 0)) ((kl (lyP zs) n).getD t 0) f q) (z t q)) ∧ Below w.heap.size w w') := fun w' z h1 h2 h3 =>
    ⟨own_base h1 hs2, fun t ht q hq => by rw [h2 t ht q hq]; exact hr _ (hin t ht) q hq, (below2 KB2.out b3).trans (h3.below (fun x hx => by have hx' : x = g := hx; omega) (below2 KB2.out b3).size)⟩
  clear ho hr b3 hg hlL hlb hin hs2
  go_wp2_with fail
  refine Calls.mono KD.out ?_
  rintro e w4 ⟨z, rfl, h1, h2, h3⟩
  have HR : Hid _ := HFin.out w4 z h1 h2 h3
  clear h1 h2 h3
  go_wp2
  go_ret
  exact ⟨g, z, rfl, HR.out⟩
end Go.Proofs.Ytggmcgcmpgofcaa
/- Which nodes that are no liars are done with a root (NetDone), in the program. Conditions: lists of at most 2^20. -/
namespace Go.Proofs.Ytggmcgcmpgofcaa
set_option maxRecDepth 2000
open Go.ChangeShapes Go.WideShapes Go.ChangeAt Go.RowKit

theorem take_one {l : List Nat} {t : Nat} (h : t < l.length) : l.take (t + 1) = l.take t ++ [l.getD t 0] := by
  rw [List.take_add_one, List.getD_eq_getElem?_getD, List.getElem?_eq_getElem h]
  rfl
/-- What the count tells of each node. -/
structure NdQ (d : Nd) : Prop where
  n : d.n ≤ 1048576
  k : ∀ i, i < d.n → SlK (d.S i)
  s : ∀ i, i < d.n → SlS (d.S i)
/-- What stands when t seats are looked at. -/
structure DnI (w : World) (B g n : Nat) (z : Nat → Nat → Value) (L : List Int) (gg len cc : Nat) (wr : World) : Prop where
  ro : wr.ownsRow B 3 1 (.slice (some ⟨gg, 0, none⟩) len cc) len (L.map (Value.int .i64))
  rs : wr.ownsRow B 89 5 (.slice (some ⟨g, 0, none⟩) n n) n (cL 5 z n)
  ln : L.length = len
  bw : Below w.heap.size w wr
  wB : w.heap.size ≤ B
theorem row_type {w : World} {B e s n cap g : Nat} {xs : List Value} (h : w.ownsRow B e s (.slice (some ⟨g, 0, none⟩) n cap) n xs) : ∃ cur fr, w.heap[g]? = some (.cells cur e fr) := by
  rcases h.2 with ⟨e', _⟩ | ⟨g', cap', cur, e', h1, h2, _⟩
  · cases e'
  · cases e'
    exact ⟨_, _, h2⟩
theorem DnI.ne {w wr : World} {B g n : Nat} {z : Nat → Nat → Value} {L : List Int} {gg len cc : Nat} (h : DnI w B g n z L gg len cc wr) : g ≠ gg := fun e => by
  obtain ⟨c1, f1, e1⟩ := row_type h.ro
  obtain ⟨c2, f2, e2⟩ := row_type h.rs
  rw [e, e1] at e2
  simp at e2
theorem DnI.below {w wr w' : World} {B g n : Nat} {z : Nat → Nat → Value} {L : List Int} {gg len cc : Nat} (h : DnI w B g n z L gg len cc wr) (hb : Below wr.heap.size wr w') : DnI w B g n z L gg len cc w' := ⟨ownsRow_below h.ro hb, ownsRow_below h.rs hb, h.ln, below2 h.bw hb, h.wB⟩
theorem DnI.grow {w wr w' : World} {B g n : Nat} {z : Nat → Nat → Value} {L : List Int} {gg len cc g3 c3 : Nat} {x : Int} (h : DnI w B g n z L gg len cc wr) (ho : w'.ownsRow B 3 1 (.slice (some ⟨g3, 0, none⟩) (len + 1) c3) (len + 1) (L.map (Value.int .i64) ++ [.int .i64 x])) (hg : wr.grownBy w' (some gg)) : DnI w B g n z (L ++ [x]) g3 (len + 1) c3 w' :=
  ⟨by rw [List.map_append]; exact ho, own_kept h.rs hg (fun y hy => by cases hy; exact h.ne), by rw [List.length_append, h.ln]; rfl, h.bw.grown hg h.bw.size (fun k e => by cases e; exact Nat.le_trans h.wB (World.ownsRow.lt h.ro gg rfl).1), h.wB⟩
end Go.Proofs.Ytggmcgcmpgofcaa
/- Which nodes that are no liars are done with a root (NetDone), in the model. Conditions: lists of at most 2^20. -/
namespace Go.Proofs.Ytggmcgcmpgofcaa
set_option maxRecDepth 2000
open Go.ChangeShapes Go.WideShapes Go.ChangeAt Go.RowKit

set_option maxHeartbeats 1000000 in
theorem sHas_any (l : Option Addr) (d : Nat) (zs : List Int) (x : Int) (w : World) (h : IntsAt w l zs.length zs) (hn : zs.length ≤ 1048576) :
    Calls Try.prog 51 #[.slice l zs.length d, .int .i64 x] w fun e w' => e = .returned (.bool (decide (x ∈ zs))) ∧ w' = w := by
  have KH : Hid (IntsAt w l zs.length zs) := h
  clear h
  obtain ⟨bb, HBB⟩ : ∃ v, Hid (decide (x ∈ zs) = v) := ⟨_, rfl⟩
  rw [HBB.out]
  obtain ⟨n, HN⟩ : ∃ v, Hid (zs.length = v) := ⟨_, rfl⟩
  rw [HN.out] at hn ⊢
  go_enter Try.func51, Try.ntmps51
  go_wp2
  go_loopw [5] (fun vi wr => ∃ k : Nat, k ≤ n ∧ vi = .int .i64 (k : Int) ∧ wr = w ∧ Hid (∀ i, i < k → zs.getD i 0 ≠ x)) (fun vi _ => n - (intOf vi).toNat)
  case atStart => exact ⟨0, Nat.zero_le _, rfl, rfl, fun i hi => absurd hi (Nat.not_lt_zero _)⟩
  case round =>
    obtain ⟨k, hk, rfl, hw, HP⟩ := hrel
    obtain rfl := hw.symm
    clear hw
    by_cases hlt : k < n
    · have hki : (k : Int) < (n : Int) := by omega
      obtain ⟨bl, off, e1, hc⟩ := KH.out.some (by rw [HN.out]; omega)
      subst e1
      have x1 := hc k (by rw [HN.out]; exact hlt)
      clear hc
      obtain ⟨v, HV⟩ : ∃ y, Hid (zs.getD k 0 = y) := ⟨_, rfl⟩
      rw [HV.out] at x1
      by_cases hv : v = x
      · have HI : Hid (bb = true) := by
          rw [← HBB.out]
          refine decide_eq_true ?_
          rw [← hv, ← HV.out, List.getD_eq_getElem?_getD, List.getElem?_eq_getElem (by rw [HN.out]; exact hlt)]
          exact List.getElem_mem _
        have hb : (v == x) = true := by simp [hv]
        go_wp2
        go_ret
        exact ⟨by rw [HI.out]; rfl, rfl⟩
      · have HP2 : Hid (∀ i, i < k + 1 → zs.getD i 0 ≠ x) := fun i hi => by
          by_cases e : i = k
          · rw [e, HV.out]; exact hv
          · exact HP.out i (by omega)
        have hb : (v == x) = false := by simp [hv]
        clear HP
        go_wp2
        go_roundw
        case rel => exact ⟨k + 1, by omega, by go_num, trivial, HP2⟩
        case measure => simp [intOf]; omega
    · obtain rfl : k = n := by omega
      have HI : Hid (bb = false) := by
        rw [← HBB.out]
        refine decide_eq_false fun hx => ?_
        obtain ⟨i, hi, e⟩ := List.getElem_of_mem hx
        refine HP.out i (by rw [← HN.out]; exact hi) ?_
        rw [List.getD_eq_getElem?_getD, List.getElem?_eq_getElem hi]
        exact e
      go_wp2
      go_ret
      exact ⟨by rw [HI.out]; rfl, rfl⟩
/-- What stands when k nodes are looked at. -/
structure DnS (w : World) (A : Nat) (f : Int) (a : Option Addr) (n c : Nat) (l : Option Addr) (zl d : Nat) (v3 : Value) (L : List Int) (gg len cc : Nat) (wr : World) : Prop where
  ro : wr.ownsRow (A + 1) 3 1 (.slice (some ⟨gg, 0, none⟩) len cc) len (L.map (Value.int .i64))
  ra : Row wr A 36 #[.int .i64 f, .slice a n c, .slice l zl d, v3]
  ln : L.length = len
  bw : Below w.heap.size w wr
  wA : w.heap.size ≤ A
section
variable {w wr w' : World} {A : Nat} {f : Int} {a : Option Addr} {n c : Nat} {l : Option Addr} {zl d : Nat} {v3 : Value} {L : List Int} {gg len cc : Nat}
theorem DnS.below (h : DnS w A f a n c l zl d v3 L gg len cc wr) (hb : Below wr.heap.size wr w') : DnS w A f a n c l zl d v3 L gg len cc w' := ⟨ownsRow_below h.ro hb, h.ra.below hb h.ra.lt, h.ln, below2 h.bw hb, h.wA⟩
theorem DnS.grow {g3 c3 : Nat} {x : Int} (h : DnS w A f a n c l zl d v3 L gg len cc wr) (ho : w'.ownsRow (A + 1) 3 1 (.slice (some ⟨g3, 0, none⟩) (len + 1) c3) (len + 1) (L.map (Value.int .i64) ++ [.int .i64 x])) (hg : wr.grownBy w' (some gg)) : DnS w A f a n c l zl d v3 (L ++ [x]) g3 (len + 1) c3 w' := by
  have lg := (World.ownsRow.lt h.ro gg rfl).1
  have hA := h.wA
  exact ⟨by rw [List.map_append]; exact ho, (hg.block A h.ra.lt (fun e => by cases e; omega)).trans h.ra, by rw [List.length_append, h.ln]; rfl, h.bw.grown hg h.bw.size (fun k e => by cases e; omega), h.wA⟩
end
end Go.Proofs.Ytggmcgcmpgofcaa
/- What the count of a net tells of it, for the laws over nets. Lemmas. -/
namespace Go.Proofs.Ytggmcgcmpgofcaa
set_option maxRecDepth 2000
open Go.ChangeShapes Go.WideShapes Go.ChangeAt Go.RowKit

theorem tot_mul {g h : Nat → Nat} {c : Nat} (hg : ∀ i, g i ≤ c + 10 * h i) (n : Nat) : tot g n ≤ c * n + 10 * tot h n := by
  induction n with
  | zero => exact Nat.zero_le _
  | succ n ih =>
    show tot g n + g n ≤ c * (n + 1) + 10 * (tot h n + h n)
    have := hg n
    rw [Nat.mul_succ]
    omega
theorem wkN_le (d : Nd) : wkN d ≤ 2 + 10 * wtN d := by
  have h1 := tot_mul (g := fun i => wkS (d.S i)) (h := fun i => wtS (d.S i)) (c := 10) (fun i => by unfold wkS wtS wtP; omega) d.n
  unfold wkN wtN wtL
  omega
theorem ofy_wt (k : Nat) (Y : Nat → Sy) (m : Nat) : ofy k Y m ≤ k + 9 * m + tot (fun i => wtY (Y i)) m := by
  induction m with
  | zero => simp [ofy, tot]
  | succ m ih =>
    show ofy k Y m + 9 + (Y m).p.m ≤ k + 9 * (m + 1) + (tot (fun i => wtY (Y i)) m + wtY (Y m))
    have : (Y m).p.m ≤ wtY (Y m) := by unfold wtY wtP; omega
    omega
theorem wtT_little {n : Nat} {N : Nat → Nd} {zs : List Int} {m : Nat} {Y : Nat → Sy} (h : wtT n N zs m Y ≤ 1048576) : (∀ i, i < n → NdQ (N i)) ∧ NtW n N zs m Y := by
  unfold wtT wtNs wtYs at h
  have hw : ∀ i, i < n → wtL (N i).n (N i).S ≤ 1048576 := fun i hi => by show wtN (N i) ≤ 1048576; have : wtN (N i) ≤ tot (fun i => wtN (N i)) n := tot_ge2 (g := fun i => wtN (N i)) hi; omega
  have hy : ∀ i, i < m → wtY (Y i) ≤ 1048576 := fun i hi => by have : wtY (Y i) ≤ tot (fun i => wtY (Y i)) m := tot_ge2 (g := fun i => wtY (Y i)) hi; omega
  refine ⟨fun i hi => ?_, by omega, fun i hi => ?_, by omega, by omega, fun i hi => ?_, ?_⟩
  · obtain ⟨h1, h2, h3, _⟩ := wtL_little (hw i hi)
    exact ⟨h1, h3, h2⟩
  · obtain ⟨h1, h2, _, _⟩ := wtL_little (hw i hi)
    exact ⟨h1, h2⟩
  · have := hy i hi
    unfold wtY wtP at this
    omega
  · have h1 := tot_mul (g := fun i => wkN (N i)) (h := fun i => wtN (N i)) (c := 2) (fun i => wkN_le (N i)) n
    have h2 := ofy_wt (mq2 n N zs) Y m
    unfold mq3
    unfold mq2 mq1 at h2 ⊢
    omega
theorem Try.infoNtL2 : (Try.prog.info? 46).map (·.size) = some 4 := by kernel_rfl
theorem Trn.turned {w w' : World} {F : Nat → Prop} {b e : Nat} (h : Trn w w' F) (hF : ∀ g, F g → rng b e g) : Trn w w' (rng b e) := h.mono hF
end Go.Proofs.Ytggmcgcmpgofcaa
/- Lists of pieces, by data of any depth: read, marked, asked for; wide bounds. Conditions: at most 2^20 pieces. -/
namespace Go.Proofs.Ytggmcgcmpgofcaa
set_option maxRecDepth 2000
open Go.ChangeShapes Go.WideShapes Go.ChangeAt Go.RowKit

set_option maxHeartbeats 4000000 in
theorem heldPw_any (g n cap : Nat) (P : Nat → Pc) (k : Nat) (w : World) (h : PiAt w (some ⟨g, 0, none⟩) n (mkd k P)) (hn : n ≤ 1048576) (hm : ∀ i, i < n → (P i).m ≤ 1048576) (hk : ofs k P n ≤ 20000000) :
    Calls Try.prog 30 #[.slice (some ⟨g, 0, none⟩) n cap, .int .i64 (k : Int)] w fun e w' => e = .returned (.int .i64 ((ofs k P n : Nat) : Int)) ∧ Below w.heap.size w w' := by
  have KH : Hid (PiAt w (some ⟨g, 0, none⟩) n (mkd k P)) := h
  have HM : Hid (∀ i, i < n → (P i).m ≤ 1048576) := hm
  clear h hm
  go_enter Try.func30, Try.ntmps30
  go_wp2
  go_loopw [1, 5] (fun vk vi wr => ∃ c : Nat, c ≤ n ∧ vk = .int .i64 ((ofs k P c : Nat) : Int) ∧ vi = .int .i64 (c : Int) ∧ Below w.heap.size w wr) (fun _ vi _ => n - (intOf vi).toNat)
  case atStart => exact ⟨0, Nat.zero_le _, rfl, rfl, Below.refl _ _⟩
  case round =>
    obtain ⟨c, hcn, rfl, rfl, hbel⟩ := hrel
    by_cases hlt : c < n
    · have hki : (c : Int) < (n : Int) := by omega
      obtain ⟨o, HO⟩ : ∃ o, Hid (ofs k P c = o) := ⟨_, rfl⟩
      have ho : o + 5 + (P c).m ≤ 20000000 := by rw [← HO.out]; exact Nat.le_trans (ofs_le k P (show c + 1 ≤ n by omega)) hk
      rw [HO.out]
      have hmc := HM.out c hlt
      have HNX : Hid (ofs k P (c + 1) = o + 5 + (P c).m) := by show ofs k P c + 5 + (P c).m = _; rw [HO.out]
      obtain ⟨ap, cp, hcs, hts⟩ := (KH.out.below hbel).own hlt
      have HQ : Hid (mkd k P c = ⟨mtxt o, ((o + 1 : Nat) : Int), ((o + 2 : Nat) : Int), ((o + 3 : Nat) : Int), mtxt (o + 4), (P c).m, fun j => mtxt (o + 5 + j)⟩) := by show _ = _; unfold mkd; rw [HO.out]
      rw [HQ.out] at hcs hts
      obtain ⟨o1, HO1⟩ : ∃ x, Hid (x = o + 1) := ⟨_, rfl⟩
      obtain ⟨o2, HO2⟩ : ∃ x, Hid (x = o + 2) := ⟨_, rfl⟩
      obtain ⟨o3, HO3⟩ : ∃ x, Hid (x = o + 3) := ⟨_, rfl⟩
      obtain ⟨o4, HO4⟩ : ∃ x, Hid (x = o + 4) := ⟨_, rfl⟩
      obtain ⟨o5, HO5⟩ : ∃ x, Hid (x = o + 5) := ⟨_, rfl⟩
      rw [← HO1.out, ← HO2.out, ← HO3.out, ← HO4.out, ← HO5.out] at hcs
      have e1 : (o : Int) + 1 = (o1 : Int) := by have := HO1.out; omega
      have e2 : (o1 : Int) + 1 = (o2 : Int) := by have := HO1.out; have := HO2.out; omega
      have e3 : (o2 : Int) + 1 = (o3 : Int) := by have := HO3.out; have := HO2.out; omega
      have e4 : (o3 : Int) + 1 = (o4 : Int) := by have := HO3.out; have := HO4.out; omega
      have e5 : (o4 : Int) + 1 = (o5 : Int) := by have := HO5.out; have := HO4.out; omega
      have l5 : o5 + (P c).m ≤ 20000000 ∧ o4 < o5 ∧ o3 < o4 ∧ o2 < o3 ∧ o1 < o2 ∧ o < o1 := by have := HO1.out; have := HO2.out; have := HO3.out; have := HO4.out; have := HO5.out; omega
      obtain ⟨s0, HS0⟩ : ∃ x, Hid (mtxt o = x) := ⟨_, rfl⟩
      obtain ⟨s4, HS4⟩ : ∃ x, Hid (mtxt o4 = x) := ⟨_, rfl⟩
      obtain ⟨m, HMm⟩ : ∃ x, Hid ((P c).m = x) := ⟨_, rfl⟩
      rw [HMm.out] at l5 hmc HNX hcs hts
      rw [HS0.out, HS4.out] at hcs
      rw [← HO5.out] at hts
      have KM0 : Hid (∀ W, Calls Try.prog 57 #[.int .i64 (o : Int)] W fun e w' => e = .returned (.string s0) ∧ Below W.heap.size W w') := fun W => by rw [← HS0.out]; exact markText_any o W (by omega)
      have KM4 : Hid (∀ W, Calls Try.prog 57 #[.int .i64 (o4 : Int)] W fun e w' => e = .returned (.string s4) ∧ Below W.heap.size W w') := fun W => by rw [← HS4.out]; exact markText_any o4 W (by omega)
      obtain ⟨q6, HQ6⟩ : ∃ x, Hid (o5 + m = x) := ⟨_, rfl⟩
      have l5' : o5 + m ≤ 20000000 := l5.1
      have l51 : o5 ≤ 20000000 ∧ o4 ≤ 20000000 ∧ o3 ≤ 20000000 ∧ o2 ≤ 20000000 ∧ o1 ≤ 20000000 ∧ o ≤ 20000000 := by omega
      obtain ⟨u5, u4, u3, u2, u1, u0⟩ := l51
      have KS : Hid (∀ W, Below wr.heap.size wr W → Calls Try.prog 59 #[.slice ap m cp, .int .i64 (o5 : Int)] W fun e w' => e = .returned (.int .i64 (q6 : Int)) ∧ Below W.heap.size W w') := fun W hW => heldT2_any ap m cp o5 q6 W (hts.below hW) (by omega) (by omega) HQ6.out
      have x0 := hcs 0 (by omega)
      have x1 := hcs 1 (by omega)
      have x2 := hcs 2 (by omega)
      have x3 := hcs 3 (by omega)
      have x4 := hcs 4 (by omega)
      have x5 := hcs 5 (by omega)
      simp only [cel, Nat.add_zero] at x0 x1 x2 x3 x4 x5
      have lg := block_lt_of_cell x0
      have n0 : (s0.toList != s0.toList) = false := by simp
      have n0' := ba_beq s0
      have n4 : (s4.toList != s4.toList) = false := by simp
      have n4' := ba_beq s4
      have n1 : ((o1 : Int) != (o1 : Int)) = false := by simp
      have n2 : ((o2 : Int) != (o2 : Int)) = false := by simp
      have n3 : ((o3 : Int) != (o3 : Int)) = false := by simp
      have q6n : ¬ ((q6 : Int) < 0) := by omega
      have KB : Hid (Below w.heap.size w wr) := hbel
      have HQQ : Hid ((q6 : Int) = ((ofs k P (c + 1) : Nat) : Int)) := by show _ = _; rw [HNX.out, ← HQ6.out, HO5.out]
      clear hcs hts hbel hk l5 ho
      go_wp2_with fail
      go_region_held3 (fun w' => w'.cell? ⟨g, c * 6, none⟩ = some (.string s0)) (go_keep) ((go_at_call 57; refine Calls.mono (KM0.out _) ?_; rintro e w1 ⟨rfl, b1'⟩; have b1 := below_of_drew b1'; clear b1'; have y0 := (b1.cell (p := ⟨g, c * 6, none⟩) lg).trans x0))
      all_goals
        have y1 := (b1.cell (p := ⟨g, c * 6 + 1, none⟩) lg).trans x1
        have y2 := (b1.cell (p := ⟨g, c * 6 + 2, none⟩) lg).trans x2
        have y3 := (b1.cell (p := ⟨g, c * 6 + 3, none⟩) lg).trans x3
        have y4 := (b1.cell (p := ⟨g, c * 6 + 4, none⟩) lg).trans x4
        have y5 := (b1.cell (p := ⟨g, c * 6 + 5, none⟩) lg).trans x5
        have lg1 := block_lt_of_cell y0
        clear x0 x1 x2 x3 x4 x5
        go_wp2_with fail
        go_region_held3 (fun w' => w'.cell? ⟨g, c * 6 + 4, none⟩ = some (.string s4)) (go_keep) ((go_at_call 57; refine Calls.mono (KM4.out _) ?_; rintro e w2 ⟨rfl, b2'⟩; have b2 := below_of_drew b2'; clear b2'; have z4 := (b2.cell (p := ⟨g, c * 6 + 4, none⟩) lg1).trans y4))
        all_goals
          have z5 := (b2.cell (p := ⟨g, c * 6 + 5, none⟩) lg1).trans y5
          have b12 := below2 b1 b2
          clear y0 y1 y2 y3 y4 y5 z4
          go_wp2_with fail
          refine Calls.mono (KS.out _ b12) ?_
          rintro e w3 ⟨rfl, b3⟩
          have HB3 : Hid (Below w.heap.size w w3) := below2 KB.out (below2 b12 b3)
          clear b1 b2 b3 b12
          go_wp2
          go_roundw
          case rel => exact ⟨c + 1, by omega, by rw [HQQ.out], by go_num, HB3.out⟩
          case measure => simp [intOf]; omega
    · obtain rfl : c = n := by omega
      go_wp2
      go_ret
      exact ⟨rfl, hbel⟩

theorem rd_pcs {w : World} {n : Nat} {P : Nat → Pc} {a : Option Addr} {cap : Nat} (h : Rd w (pcsD n P) (.slice a n cap)) : PiAt w a n P := by
  intro i hi
  obtain ⟨b, off, y, ea, hy, hr⟩ := h.row hi
  have r5 : Rd w (txD (P i).m (P i).S) (y 5) := hr 5 (by omega)
  obtain ⟨ap, cp, e5⟩ := r5.shape
  rw [e5] at r5
  have g0 := hr 0 (by omega)
  have g1 := hr 1 (by omega)
  have g2 := hr 2 (by omega)
  have g3 := hr 3 (by omega)
  have g4 := hr 4 (by omega)
  simp only [Rd, pcD] at g0 g1 g2 g3 g4
  refine ⟨b, off, ap, cp, ea, fun q hq => ?_, rd_txt.1 r5⟩
  have := hy q hq
  rw [this]
  match q, hq with
  | 0, _ => rw [g0]; rfl
  | 1, _ => rw [g1]; rfl
  | 2, _ => rw [g2]; rfl
  | 3, _ => rw [g3]; rfl
  | 4, _ => rw [g4]; rfl
  | 5, _ => rw [e5]; rfl
theorem own_at {w w' : World} {B e s n cap g : Nat} {xs : List Value} (h : w.ownsRow B e s (.slice (some ⟨g, 0, none⟩) n cap) n xs) (hb : w'.heap[g]? = w.heap[g]?) : w'.ownsRow B e s (.slice (some ⟨g, 0, none⟩) n cap) n xs := by
  refine ⟨h.1, ?_⟩
  rcases h.2 with h' | ⟨g', cap', cur, h1, h2, h3, h4⟩
  · exact .inl h'
  · refine .inr ⟨g', cap', cur, h1, h2, ?_, h4⟩
    cases h1
    rw [hb]
    exact h3
/-- The cells of a piece whose proof is ours. -/
theorem ow_piece {w : World} {B : Nat} {p : Pc} {v : Value} {F : Nat → Prop} (h : Ow w B (txD p.m p.S) v F) (q : Nat) (hq : q < 6) : Ow w B (pcD p q) ([Value.string p.r, .int .i64 p.k, .int .i64 p.n, .int .i64 p.i, .string p.b, v].getD q undef) (fun x => q = 5 ∧ F x) := by
  match q, hq with
  | 0, _ | 1, _ | 2, _ | 3, _ | 4, _ => rfl
  | 5, _ => exact Ow.mono h fun g hg => ⟨rfl, hg⟩
end Go.Proofs.Ytggmcgcmpgofcaa
