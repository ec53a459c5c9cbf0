/- The pieces of a text, in the program. Condition: a text of at most 2^20 bytes. -/
import Derived.Test.YtgiegoamcfjfmaaGreatJ30
import Derived.Test.YtgiegoamcfjfmaaGreatJ26
import Derived.Test.YtgiegoamcfjfmaaGreatJ8
namespace Go.Proofs.YtgiegoamcfjfmaaGreat
set_option maxRecDepth 2000
open Go.ChangeShapes Go.WideShapes Go.ChangeAt Go.RowKit

theorem Tryz.infoPc3 : (Tryz.prog.info? 39).map (fun i => (i.zero, i.size, i.bytes)) = some (some (.agg #[.string ByteArray.empty, .int .i64 0, .int .i64 0, .int .i64 0, .string ByteArray.empty, .slice none 0 0]), 6, 80) := by kernel_rfl
def zc : Nat → Value
  | 0 => .string ByteArray.empty
  | 1 => .int .i64 0
  | 2 => .int .i64 0
  | 3 => .int .i64 0
  | 4 => .string ByteArray.empty
  | _ => .slice none 0 0
theorem made_gL (n : Nat) : (madeCells #[.string ByteArray.empty, .int .i64 0, .int .i64 0, .int .i64 0, .string ByteArray.empty, .slice none 0 0] (n * 6)).toList = gL (fun _ => zc) n := by
  apply List.ext_getElem?
  intro j
  by_cases hj : j < n * 6
  · have h2 := gL_get (fun _ => zc) n (j / 6) (j % 6) (by omega) (by omega)
    rw [show j / 6 * 6 + j % 6 = j by omega] at h2
    rw [h2]
    have hq : j % 6 < 6 := by omega
    simp [madeCells, hj]
    generalize j % 6 = q at hq
    match q, hq with
    | 0, _ => rfl
    | 1, _ => rfl
    | 2, _ => rfl
    | 3, _ => rfl
    | 4, _ => rfl
    | 5, _ => rfl
  · rw [List.getElem?_eq_none (by simp [madeCells]; omega), List.getElem?_eq_none (by rw [gL_len]; omega)]
/-- The first c of n pieces laid, the others of their zero value. -/
def CutI (wr : World) (B G n : Nat) (P : Nat → Pc) (c : Nat) : Prop := ∃ (A : Nat → Option Addr) (C : Nat → Nat),
  OwnC wr B (some ⟨G, 0, none⟩) n n (fun i => if i < c then cel (P i) (.slice (A i) (P i).m (C i)) else zc) ∧ (∀ i, i < c → OwnT wr B (A i) (P i).m (C i) (P i).S) ∧
  (∀ i j x y, i < j → j < c → A i = some x → A j = some y → x.block ≠ y.block) ∧ (∀ i x, i < c → A i = some x → x.block ≠ G)
theorem CutI.step {wr w2 : World} {B G n : Nat} {P : Nat → Pc} {c : Nat} {aP : Option Addr} {cP : Nat} (h : CutI wr B G n P c) (hc : c < n) (hb : Below wr.heap.size wr w2) (hB : B ≤ wr.heap.size) (ho : OwnT w2 wr.heap.size aP (P c).m cP (P c).S) :
    CutI ((((((w2.setCell ⟨G, c * 6 + 0, none⟩ (.string (P c).r)).setCell ⟨G, c * 6 + 1, none⟩ (.int .i64 (P c).k)).setCell ⟨G, c * 6 + 2, none⟩ (.int .i64 (P c).n)).setCell ⟨G, c * 6 + 3, none⟩ (.int .i64 (P c).i)).setCell ⟨G, c * 6 + 4, none⟩ (.string (P c).b)).setCell ⟨G, c * 6 + 5, none⟩ (.slice aP (P c).m cP)) B G n P (c + 1) := by
  obtain ⟨A, C, h1, h2, h3, h4⟩ := h
  have lG := (World.ownsRow.lt h1 G rfl).2
  refine ⟨fun i => if i = c then aP else A i, fun i => if i = c then cP else C i, ?_, ?_, ?_, ?_⟩
  · have e := (((((h1.below hb).set hc (show 0 < 6 by omega) (.string (P c).r)).set hc (show 1 < 6 by omega) (.int .i64 (P c).k)).set hc (show 2 < 6 by omega) (.int .i64 (P c).n)).set hc (show 3 < 6 by omega) (.int .i64 (P c).i)).set hc (show 4 < 6 by omega) (.string (P c).b)
    have e2 := e.set hc (show 5 < 6 by omega) (.slice aP (P c).m cP)
    refine e2.congr fun i q hi hq => ?_
    by_cases ei : i = c
    · subst ei
      match q, hq with
      | 0, _ => simp [cel]
      | 1, _ => simp [cel]
      | 2, _ => simp [cel]
      | 3, _ => simp [cel]
      | 4, _ => simp [cel]
      | 5, _ => simp [cel]
    · by_cases e2 : i < c
      · simp [ei, e2, show i < c + 1 by omega]
      · simp [ei, e2, show ¬ i < c + 1 by omega]
  · intro i hi
    by_cases ei : i = c
    · subst ei
      simp only [if_true]
      have o1 : OwnT w2 B aP (P i).m cP (P i).S := OwnT.base ho hB
      have far : ∀ x, aP = some x → x.block ≠ G := fun x e => by subst e; have := (World.ownsRow.lt ho x.block rfl).1; omega
      exact own_kept (own_kept (own_kept (own_kept (own_kept (own_kept o1 (grown_set _ _ _ _) far) (grown_set _ _ _ _) far) (grown_set _ _ _ _) far) (grown_set _ _ _ _) far) (grown_set _ _ _ _) far) (grown_set _ _ _ _) far
    · simp only [ei, if_false]
      have o1 := OwnT.below (h2 i (by omega)) hb
      have far : ∀ x, A i = some x → x.block ≠ G := fun x e => h4 i x (by omega) e
      exact own_kept (own_kept (own_kept (own_kept (own_kept (own_kept o1 (grown_set _ _ _ _) far) (grown_set _ _ _ _) far) (grown_set _ _ _ _) far) (grown_set _ _ _ _) far) (grown_set _ _ _ _) far) (grown_set _ _ _ _) far
  · intro i j x y hij hj hx hy
    replace hx : (if i = c then aP else A i) = some x := hx
    replace hy : (if j = c then aP else A j) = some y := hy
    by_cases ej : j = c
    · subst ej
      simp only [if_true] at hy
      rw [if_neg (by omega)] at hx
      subst hy
      have l1 := (World.ownsRow.lt ho y.block rfl).1
      have hoi := h2 i (by omega)
      rw [hx] at hoi
      have l2 := (World.ownsRow.lt hoi x.block rfl).2
      omega
    · rw [if_neg ej] at hy
      rw [if_neg (by omega)] at hx
      exact h3 i j x y hij (by omega) hx hy
  · intro i x hi hx
    replace hx : (if i = c then aP else A i) = some x := hx
    by_cases ei : i = c
    · subst ei
      simp only [if_true] at hx
      subst hx
      have := (World.ownsRow.lt ho x.block rfl).1
      omega
    · rw [if_neg ei] at hx
      exact h4 i x (by omega) hx
theorem CutI.all {wr : World} {B G n : Nat} {P : Nat → Pc} (h : CutI wr B G n P n) : ∃ A C, OwnP wr B (some ⟨G, 0, none⟩) n n A C P := by
  obtain ⟨A, C, h1, h2, h3, h4⟩ := h
  refine ⟨A, C, h1.congr (fun i q hi _ => by simp [hi]), h2, h3, fun i x y hi hx hy => ?_⟩
  cases hy
  exact h4 i x hi hx

noncomputable def cutR (s : ByteArray) (k n : Int) : Nat := if encOk s k n = true then n.toNat else 0
set_option maxHeartbeats 4000000 in
theorem pcut_any (s : ByteArray) (k n : Int) (w : World) (hs : s.size ≤ 1048576) :
    Calls Tryz.prog 88 #[.string s, .int .i64 k, .int .i64 n] w fun e w' => ∃ v, e = .returned (.tuple #[v, .bool (encOk s k n)]) ∧ ResP w w' v (cutR s k n) (cutP k n.toNat (encS s k.toNat)) ∧ Below w.heap.size w w' := by
  have KE : Hid (Calls Tryz.prog 144 #[.string s, .int .i64 k, .int .i64 n] w fun e w' => ∃ v, e = .returned (.tuple #[v, .bool (encOk s k n)]) ∧ ResT w w' v (encR s k n) (encS s k.toNat) ∧ Below w.heap.size w w') := encode_any s k n w hs
  unfold cutR
  cases hok : encOk s k n with
  | false =>
    rw [hok] at KE
    obtain ⟨P, HP⟩ : ∃ P, Hid (cutP k n.toNat (encS s k.toNat) = P) := ⟨_, rfl⟩
    rw [HP.out]
    go_enter Tryz.func88, Tryz.ntmps88
    go_wp2_with fail
    refine Calls.mono KE.out ?_
    rintro e w1 ⟨v, rfl, _, b1⟩
    have HO : Hid (OwnP (w1.alloc (.cells #[] 39)) w.heap.size (some ⟨w1.heap.size, 0, none⟩) 0 0 (fun _ => none) (fun _ => 0) P) := ⟨World.ownsRow_lit w1 #[] 0 b1.size (by unfold maxLen; omega) rfl, fun i hi => absurd hi (Nat.not_lt_zero _), fun i j x y _ hj => absurd hj (Nat.not_lt_zero _), fun i x y hi => absurd hi (Nat.not_lt_zero _)⟩
    go_wp2
    go_ret2
    exact ⟨_, rfl, ⟨_, _, _, _, rfl, HO.out⟩, b1.alloc b1.size _⟩
  | true =>
    obtain ⟨h1, h2, h3, h4⟩ := encOk_parts hok
    have hR : encR s k n = n.toNat := by unfold encR; rw [hok]; rfl
    have hle := fun i => encS_le hok i
    rw [hok, hR] at KE
    rw [if_pos rfl]
    obtain ⟨N, rfl⟩ : ∃ N : Nat, n = (N : Int) := ⟨n.toNat, by omega⟩
    rw [Int.toNat_natCast] at KE ⊢
    generalize encS s k.toNat = S at KE hle ⊢
    have hN : N ≤ 16 := by omega
    obtain ⟨i0, hi, hz0, hz1, hz2⟩ := info_parts Tryz.infoPc3
    have HPC : Hid (∀ i, cutP k N S i = ⟨rtS N (lvs k N S), k, (N : Int), (i : Int), S i, pfR N (lvs k N S) (i : Int), pfF N (lvs k N S) (i : Int)⟩) := fun i => rfl
    obtain ⟨P, HP⟩ : ∃ P, Hid (cutP k N S = P) := ⟨_, rfl⟩
    rw [HP.out] at HPC
    rw [HP.out]
    obtain ⟨L, HL⟩ : ∃ L, Hid (lvs k N S = L) := ⟨_, rfl⟩
    have HL16 : Hid (∀ i, (L i).size ≤ 16) := fun i => by rw [← HL.out]; exact lvs_le _ _ _ _
    obtain ⟨rt, HRT⟩ : ∃ rt, Hid (rtS N L = rt) := ⟨_, rfl⟩
    have hrt : rt.size ≤ 1048576 := by
      rw [← HRT.out]
      unfold rtS
      split
      · rename_i hlv
        have := lvB_parts hlv
        rw [Gt.rt_size (by omega) this.2.2]
        omega
      · decide
    rw [HL.out, HRT.out] at HPC
    clear h1 h2 h3 h4 hok hR
    go_enter Tryz.func88, Tryz.ntmps88
    go_wp2_with fail
    refine Calls.mono KE.out ?_
    rintro e w1 ⟨v, rfl, ⟨aE, cE, rfl, O1⟩, b1⟩
    have A1 : TxtAt w1 aE N S := OwnT.at O1
    clear O1
    have HBD := bind_any k aE N cE S _ A1 (by omega) (fun i _ => by have := hle i; omega)
    rw [HL.out, HRT.out] at HBD
    go_wp2_with fail
    refine Calls.mono HBD ?_
    rintro e w2 ⟨GL, rfl, O2, b2⟩
    have HA2 : Hid (TxtAt w2 aE N S) := A1.below b2
    have HG2 : Hid (TxtAt w2 (some ⟨GL, 0, none⟩) N L) := OwnT.at O2
    have HB2 : Hid (Below w.heap.size w w2) := below2 b1 b2
    clear A1 O2 b1 b2 HBD hle KE
    obtain ⟨W, HW⟩ : ∃ W, Hid (W = w2.alloc (.cells #[.int .i64 k, .slice aE N cE, .slice (some ⟨GL, 0, none⟩) N N, .string rt] 191)) := ⟨_, rfl⟩
    obtain ⟨D, HD⟩ : ∃ D, Hid (D = w2.heap.size) := ⟨_, rfl⟩
    have HRW : Hid (Row W D 191 #[.int .i64 k, .slice aE N cE, .slice (some ⟨GL, 0, none⟩) N N, .string rt]) := by show Row _ _ _ _; rw [HW.out, HD.out]; exact Row.new w2 _ _
    have hbW : Below w2.heap.size w2 W := by rw [HW.out]; exact (Below.refl _ _).alloc (Nat.le_refl _) _
    go_wp2_with (at_make; rw [← HW.out, ← HD.out]; refine wpList_make_full _ rfl _ _ 130 rfl W.heap.size 39 i0 (.agg #[.string ByteArray.empty, .int .i64 0, .int .i64 0, .int .i64 0, .string ByteArray.empty, .slice none 0 0]) 6 Tryz.underlying130 hi hz0 hz1 .i64 .i64 _ _ N rfl rfl rfl rfl (by rw [hz2]; omega) (by unfold maxLen; omega) (Nat.le_refl _) ?_; intro w3 hown hgrow)
    obtain ⟨G, HG⟩ : ∃ G, Hid (G = W.heap.size) := ⟨_, rfl⟩
    have hGW : W.heap.size ≤ G := by rw [HG.out]; exact Nat.le_refl _
    have K3 : Hid (CutI w3 W.heap.size G N P 0) := by
      refine ⟨fun _ => none, fun _ => 0, ?_, fun i hi => absurd hi (Nat.not_lt_zero _), fun i j x y _ hj => absurd hj (Nat.not_lt_zero _), fun i x hi => absurd hi (Nat.not_lt_zero _)⟩
      rw [HG.out]
      show World.ownsRow _ _ _ _ _ _ _
      rw [gL_congr (c' := fun _ => zc) (fun i q _ _ => by simp), ← made_gL]
      exact hown
    have KB3 : Hid (Below W.heap.size W w3) := (Below.refl _ _).grown hgrow (Nat.le_refl _) (by simp)
    have KBW : Hid (Below w.heap.size w W) := below2 HB2.out hbW
    have HAW : Hid (TxtAt W aE N S) := HA2.out.below hbW
    have HGW : Hid (TxtAt W (some ⟨GL, 0, none⟩) N L) := HG2.out.below hbW
    rw [← HG.out]
    clear hown hgrow hbW HA2 HG2 HB2 hi hz0 hz1 hz2
    go_loopw [30] (fun i wr => ∃ c : Nat, c ≤ N ∧ i = .int .i64 c ∧ CutI wr W.heap.size G N P c ∧ Below W.heap.size W wr) (fun i _ => N - (intOf i).toNat)
    case atStart => exact ⟨0, Nat.zero_le _, rfl, K3.out, KB3.out⟩
    case round =>
      obtain ⟨c, hk, rfl, hci, hbel⟩ := hrel
      clear K3 KB3
      by_cases hlt : c < N
      · have hki : (c : Int) < (N : Int) := by omega
        have HRr : Hid (Row wr D 191 #[.int .i64 k, .slice aE N cE, .slice (some ⟨GL, 0, none⟩) N N, .string rt]) := HRW.out.below hbel HRW.out.lt
        have KP : Hid (Calls Tryz.prog 146 #[.agg #[.int .i64 k, .slice aE N cE, .slice (some ⟨GL, 0, none⟩) N N, .string rt], .int .i64 (c : Int)] wr fun e w' => ∃ v, e = .returned (pcV rt k (N : Int) (c : Int) (S c) v) ∧ ResT wr w' v (P c).m (P c).S ∧ Below wr.heap.size wr w') := by
          rw [HPC.out]
          exact piece_any k aE N cE S GL L rt c wr (HAW.out.below hbel) (HGW.out.below hbel) hlt (by omega) HL16.out hrt
        have KI : Hid (CutI wr W.heap.size G N P c) := hci
        have KB : Hid (Below W.heap.size W wr) := hbel
        have lG : G < wr.heap.size := by
          obtain ⟨A, C, h1, _⟩ := hci
          exact (World.ownsRow.lt h1 G rfl).2
        have HS : Hid ((P c).r = rt ∧ (P c).k = k ∧ (P c).n = (N : Int) ∧ (P c).i = (c : Int) ∧ (P c).b = S c) := by rw [HPC.out]; exact ⟨rfl, rfl, rfl, rfl, rfl⟩
        obtain ⟨sc, HSC⟩ : ∃ sc, Hid (S c = sc) := ⟨_, rfl⟩
        rw [HSC.out] at KP HS
        obtain ⟨mc, HMC⟩ : ∃ mc, Hid ((P c).m = mc) := ⟨_, rfl⟩
        rw [HMC.out] at KP
        have cells : ∃ f : Nat → Value, (∀ q, q < 6 → wr.cell? ⟨G, c * 6 + q, none⟩ = some (f q)) ∧ ∀ q, wr.frozen? ⟨G, c * 6 + q, none⟩ = false := by
          obtain ⟨A, C, h1, _⟩ := hci
          exact ⟨_, fun q hq => h1.cell hlt hq, fun q => World.ownsRow.frozenAt h1 _⟩
        obtain ⟨f, HF, HFr⟩ := cells
        have HFc : Hid (∀ q, q < 6 → wr.cell? ⟨G, c * 6 + q, none⟩ = some (f q)) := HF
        have HFf : Hid (∀ q, wr.frozen? ⟨G, c * 6 + q, none⟩ = false) := HFr
        clear hci hbel HF HFr
        go_wp2_with (refine wpList_load_row (by rfl) 191 _ (by rfl) D (by rfl) 191 _ (0, 0) _ HRr.out Tryz.underlying191 (by rfl) Tryz.infoCut ?_)
        refine Calls.mono KP.out ?_
        rintro e w4 ⟨v4, rfl, ⟨aP, cP, rfl, O4⟩, hb4⟩
        have HI : Hid (CutI ((((((w4.setCell ⟨G, c * 6 + 0, none⟩ (.string rt)).setCell ⟨G, c * 6 + 1, none⟩ (.int .i64 k)).setCell ⟨G, c * 6 + 2, none⟩ (.int .i64 (N : Int))).setCell ⟨G, c * 6 + 3, none⟩ (.int .i64 (c : Int))).setCell ⟨G, c * 6 + 4, none⟩ (.string sc)).setCell ⟨G, c * 6 + 5, none⟩ (.slice aP mc cP)) W.heap.size G N P (c + 1)) := by
          have := CutI.step (aP := aP) (cP := cP) KI.out hlt hb4 KB.out.size (by rw [HMC.out]; exact O4)
          rw [HMC.out, HS.out.1, HS.out.2.1, HS.out.2.2.1, HS.out.2.2.2.1, HS.out.2.2.2.2] at this
          exact this
        have HB4 : Hid (Below W.heap.size W ((((((w4.setCell ⟨G, c * 6 + 0, none⟩ (.string rt)).setCell ⟨G, c * 6 + 1, none⟩ (.int .i64 k)).setCell ⟨G, c * 6 + 2, none⟩ (.int .i64 (N : Int))).setCell ⟨G, c * 6 + 3, none⟩ (.int .i64 (c : Int))).setCell ⟨G, c * 6 + 4, none⟩ (.string sc)).setCell ⟨G, c * 6 + 5, none⟩ (.slice aP mc cP))) := Below.setCell (Below.setCell (Below.setCell (Below.setCell (Below.setCell (Below.setCell (below2 KB.out hb4) hGW _) hGW _) hGW _) hGW _) hGW _) hGW _
        have x0 := (hb4.cell (p := ⟨G, c * 6 + 0, none⟩) lG).trans (HFc.out 0 (by omega))
        have x1 := (hb4.cell (p := ⟨G, c * 6 + 1, none⟩) lG).trans (HFc.out 1 (by omega))
        have x2 := (hb4.cell (p := ⟨G, c * 6 + 2, none⟩) lG).trans (HFc.out 2 (by omega))
        have x3 := (hb4.cell (p := ⟨G, c * 6 + 3, none⟩) lG).trans (HFc.out 3 (by omega))
        have x4 := (hb4.cell (p := ⟨G, c * 6 + 4, none⟩) lG).trans (HFc.out 4 (by omega))
        have x5 := (hb4.cell (p := ⟨G, c * 6 + 5, none⟩) lG).trans (HFc.out 5 (by omega))
        have f0 := (World.frozen?_of_block (a := ⟨G, c * 6 + 0, none⟩) (hb4.block _ lG)).trans (HFf.out 0)
        have f1 := (World.frozen?_of_block (a := ⟨G, c * 6 + 1, none⟩) (hb4.block _ lG)).trans (HFf.out 1)
        have f2 := (World.frozen?_of_block (a := ⟨G, c * 6 + 2, none⟩) (hb4.block _ lG)).trans (HFf.out 2)
        have f3 := (World.frozen?_of_block (a := ⟨G, c * 6 + 3, none⟩) (hb4.block _ lG)).trans (HFf.out 3)
        have f4 := (World.frozen?_of_block (a := ⟨G, c * 6 + 4, none⟩) (hb4.block _ lG)).trans (HFf.out 4)
        have f5 := (World.frozen?_of_block (a := ⟨G, c * 6 + 5, none⟩) (hb4.block _ lG)).trans (HFf.out 5)
        generalize f 0 = y0 at x0
        generalize f 1 = y1 at x1
        generalize f 2 = y2 at x2
        generalize f 3 = y3 at x3
        generalize f 4 = y4 at x4
        generalize f 5 = y5 at x5
        clear hb4 O4 KP KI KB HFc HFf
        rw [Nat.add_zero] at x0 f0 HI HB4
        go_wp2
        go_roundw
        case rel => exact ⟨c + 1, by omega, by go_num, HI.out, HB4.out⟩
        case measure => simp [intOf] <;> omega
      · obtain rfl : c = N := by omega
        have HO : Hid (∃ A C, OwnP wr w.heap.size (some ⟨G, 0, none⟩) c c A C P) := by
          obtain ⟨A, C, h1, h2, h3⟩ := CutI.all hci
          exact ⟨A, C, own_base h1 KBW.out.size, fun i hi => OwnT.base (h2 i hi) KBW.out.size, h3⟩
        have HB5 : Hid (Below w.heap.size w wr) := below2 KBW.out hbel
        clear hci hbel
        go_wp2
        go_ret2
        obtain ⟨A, C, hO⟩ := HO.out
        exact ⟨_, rfl, ⟨_, _, A, C, rfl, hO⟩, HB5.out⟩
end Go.Proofs.YtgiegoamcfjfmaaGreat
/- The pieces of all bodies, of a text, and their root, in the model. Conditions: at most 64 bodies of at most 2^20 bytes; a text of at most 2^20 bytes. -/
namespace Go.Proofs.YtgiegoamcfjfmaaGreat
set_option maxRecDepth 2000
open Go.ChangeShapes Go.WideShapes Go.ChangeAt Go.RowKit

theorem OwnP.snoc {w w2 w3 : World} {B g g3 c cap cap3 : Nat} {A : Nat → Option Addr} {C : Nat → Nat} {P : Nat → Pc} {aP : Option Addr} {cP : Nat} {X : Obj}
    (h : OwnP w B (some ⟨g, 0, none⟩) c cap A C P) (hB : B ≤ w.heap.size) (hb : Below w.heap.size w w2) (ho : OwnT w2 w.heap.size aP (P c).m cP (P c).S)
    (h3 : w3.ownsRow B 39 6 (.slice (some ⟨g3, 0, none⟩) (c + 1) cap3) (c + 1) (gL (fun i => cel (P i) (.slice (A i) (P i).m (C i))) c ++ [.string (P c).r, .int .i64 (P c).k, .int .i64 (P c).n, .int .i64 (P c).i, .string (P c).b, .slice aP (P c).m cP]))
    (hg : (w2.alloc X).grownBy w3 (some g)) (hat : g = g3 ∨ g3 = w2.heap.size + 1) : ∃ A' C', OwnP w3 B (some ⟨g3, 0, none⟩) (c + 1) cap3 A' C' P := by
  obtain ⟨h1, h2, h4, h5⟩ := h
  have lg := (World.ownsRow.lt h1 g rfl).2
  have lA : ∀ i x, i < c → A i = some x → x.block < w.heap.size := fun i x hi e => by
    have := h2 i hi
    rw [e] at this
    exact (World.ownsRow.lt this x.block rfl).2
  have lP : ∀ x, aP = some x → w.heap.size ≤ x.block ∧ x.block < w2.heap.size := fun x e => by
    subst e
    exact World.ownsRow.lt ho x.block rfl
  have hs := hb.size
  refine ⟨fun i => if i = c then aP else A i, fun i => if i = c then cP else C i, ?_, ?_, ?_, ?_⟩
  · show World.ownsRow _ _ _ _ _ _ _
    have e : gL (fun i => cel (P i) (.slice (if i = c then aP else A i) (P i).m (if i = c then cP else C i))) (c + 1) = gL (fun i => cel (P i) (.slice (A i) (P i).m (C i))) c ++ [.string (P c).r, .int .i64 (P c).k, .int .i64 (P c).n, .int .i64 (P c).i, .string (P c).b, .slice aP (P c).m cP] := by
      rw [gL_snoc, gL_congr (c' := fun i => cel (P i) (.slice (A i) (P i).m (C i))) (fun i q hi _ => by simp [show i ≠ c by omega])]
      simp [cel]
    rw [e]
    exact h3
  · intro i hi
    by_cases ei : i = c
    · subst ei
      simp only [if_true]
      exact own_kept (World.ownsRow.alloc (OwnT.base ho hB) X) hg (fun x e => by have := lP x e; omega)
    · simp only [ei, if_false]
      exact own_kept (World.ownsRow.alloc (OwnT.below (h2 i (by omega)) hb) X) hg (fun x e => h5 i x _ (by omega) e rfl)
  · intro i j x y hij hj hx hy
    replace hx : (if i = c then aP else A i) = some x := hx
    replace hy : (if j = c then aP else A j) = some y := hy
    by_cases ej : j = c
    · subst ej
      simp only [if_true] at hy
      rw [if_neg (by omega)] at hx
      have l1 := lP y hy
      have l2 := lA i x (by omega) hx
      omega
    · rw [if_neg ej] at hy
      rw [if_neg (by omega)] at hx
      exact h4 i j x y hij (by omega) hx hy
  · intro i x y hi hx hy
    replace hx : (if i = c then aP else A i) = some x := hx
    cases hy
    by_cases ei : i = c
    · subst ei
      simp only [if_true] at hx
      have := lP x hx
      rcases hat with e | e
      · show x.block ≠ g3; omega
      · show x.block ≠ g3; omega
    · rw [if_neg ei] at hx
      have l2 := lA i x (by omega) hx
      rcases hat with e | e
      · subst e; exact h5 i x _ (by omega) hx rfl
      · show x.block ≠ g3; omega

theorem OwnP.base {w : World} {B B' : Nat} {a : Option Addr} {n cap : Nat} {A : Nat → Option Addr} {C : Nat → Nat} {P : Nat → Pc} (h : OwnP w B a n cap A C P) (hB : B' ≤ B) : OwnP w B' a n cap A C P :=
  ⟨own_base h.1 hB, fun i hi => OwnT.base (h.2.1 i hi) hB, h.2.2⟩
set_option maxHeartbeats 4000000 in
theorem sAll_any (k : Int) (a : Option Addr) (n cap : Nat) (S : Nat → ByteArray) (w : World) (h : TxtAt w a n S) (hn : n ≤ 64) (hS : ∀ i, i < n → (S i).size ≤ 1048576) :
    Calls Tryz.prog 149 #[.slice a n cap, .int .i64 k, .int .i64 (n : Int)] w fun e w' => ∃ v, e = .returned v ∧ ResP w w' v n (cutP k n S) ∧ Below w.heap.size w w' := by
  obtain ⟨i0, hi, hz0, hz1, hz2⟩ := info_parts Tryz.infoStr
  obtain ⟨j0, hj, hy0, hy1, hy2⟩ := info_parts Tryz.infoPc3
  have HPC : Hid (∀ i, cutP k n S i = ⟨rtS n (lvs k n S), k, (n : Int), (i : Int), S i, pfR n (lvs k n S) (i : Int), pfF n (lvs k n S) (i : Int)⟩) := fun i => rfl
  obtain ⟨P, HP⟩ : ∃ P, Hid (cutP k n S = P) := ⟨_, rfl⟩
  rw [HP.out] at HPC
  rw [HP.out]
  obtain ⟨L, HL⟩ : ∃ L, Hid (lvs k n S = L) := ⟨_, rfl⟩
  have HL16 : Hid (∀ i, (L i).size ≤ 16) := fun i => by rw [← HL.out]; exact lvs_le _ _ _ _
  obtain ⟨rt, HRT⟩ : ∃ rt, Hid (rtS n L = rt) := ⟨_, rfl⟩
  rw [HL.out, HRT.out] at HPC
  have KH : Hid (TxtAt w a n S) := h
  have KS : Hid (∀ i, i < n → (S i).size ≤ 1048576) := hS
  have K0 : Hid (OwnT (w.alloc (.cells #[] 9)) w.heap.size (some ⟨w.heap.size, 0, none⟩) 0 0 L ∧ Below w.heap.size w (w.alloc (.cells #[] 9))) := ⟨litT w _, (Below.refl _ _).alloc (Nat.le_refl _) _⟩
  clear h hS
  go_enter Tryz.func149, Tryz.ntmps149
  go_wp2
  go_loopw [7, 8] (fun v vi wr => ∃ c g cc : Nat, c ≤ n ∧ vi = .int .i64 (c : Int) ∧ v = .slice (some ⟨g, 0, none⟩) c cc ∧ OwnT wr w.heap.size (some ⟨g, 0, none⟩) c cc L ∧ Below w.heap.size w wr) (fun _ vi _ => n - (intOf vi).toNat)
  case atStart => exact ⟨0, w.heap.size, 0, Nat.zero_le _, rfl, rfl, K0.out.1, K0.out.2⟩
  case round =>
    obtain ⟨c, g, cc, hk, rfl, rfl, ho, hbel⟩ := hrel
    clear K0
    have KO : Hid (OwnT wr w.heap.size (some ⟨g, 0, none⟩) c cc L ∧ Below w.heap.size w wr) := ⟨ho, hbel⟩
    clear ho hbel
    by_cases hlt : c < n
    · have hki : (c : Int) < (n : Int) := by omega
      obtain ⟨b1, off1, rfl, hc1⟩ := (KH.out.below KO.out.2) c hlt
      have KC : Hid (∀ W, Calls Tryz.prog 177 #[.int .i64 k, .int .i64 (n : Int), .int .i64 (c : Int), .string (S c)] W fun e w' => e = .returned (.string (L c)) ∧ Below W.heap.size W w') := fun W => by
        have := sPieceLeaf_any k (n : Int) (c : Int) (S c) W (KS.out c hlt)
        rw [← HL.out]
        exact this
      have lg := World.ownsRow.lt KO.out.1 _ rfl
      generalize S c = sc at hc1 KC
      obtain ⟨z, HZ⟩ : ∃ z, Hid (L c = z) := ⟨_, rfl⟩
      rw [HZ.out] at KC
      go_wp2_with fail
      refine Calls.mono (KC.out _) ?_
      rintro e w6 ⟨rfl, hb6⟩
      have K6 : Hid (OwnT w6 w.heap.size (some ⟨g, 0, none⟩) c cc L ∧ Below w.heap.size w w6) := ⟨OwnT.below KO.out.1 hb6, below2 KO.out.2 hb6⟩
      have hsz6 := K6.out.2.size
      clear hb6 KC hc1 KO
      go_wp2_with (at_builtin; refine wpList_append_all _ (by rfl) _ _ 25 (by rfl) w.heap.size 9 i0 (.string ByteArray.empty) 1 16 Tryz.underlying25 hi hz0 hz1 hz2 rfl (by decide) g c cc _ (by rfl) (World.ownsRow.alloc K6.out.1 _) ⟨w6.heap.size, 0, none⟩ 1 1 [.string z] (by rfl) (by rfl) (World.news_of_block (cs := #[.string z]) (t := 9) (fr := (0, 0)) (heap_alloc_new w6 _)) (by simp [Value.oneCell']) (by unfold maxLen; omega) (by omega) (by simp; omega) ?_; intro g3 cap3 w7 hown3 hgrow3)
      have HL7 : Hid (OwnT w7 w.heap.size (some ⟨g3, 0, none⟩) (c + 1) cap3 L ∧ Below w.heap.size w w7) := by
        refine ⟨?_, (K6.out.2.alloc hsz6 _).grown (show World.grownBy _ w7 (some g) from hgrow3) (by simp; omega) (fun j hj => by cases hj; exact lg.1)⟩
        unfold OwnT
        rw [sL_snoc, HZ.out]
        exact hown3
      clear hown3 hgrow3 K6
      go_roundw
      case rel => exact ⟨c + 1, g3, cap3, by omega, by go_num, rfl, HL7.out.1, HL7.out.2⟩
      case measure => simp [intOf]; omega
    · obtain rfl : c = n := by omega
      have KR : Hid (Calls Tryz.prog 191 #[.slice (some ⟨g, 0, none⟩) c cc] wr fun e w' => e = .returned (.tuple #[.string rt, .bool (lvB c L)]) ∧ Below wr.heap.size wr w') := by
        have := sRoot_any (some ⟨g, 0, none⟩) c cc L wr (OwnT.at KO.out.1) (by omega) (fun i _ => by have := HL16.out i; unfold maxLen; omega)
        rw [HRT.out] at this
        exact this
      generalize lvB c L = okr at KR
      go_wp2_with fail
      refine Calls.mono KR.out ?_
      rintro e w3 ⟨rfl, hb3⟩
      obtain ⟨w4, HW4⟩ : ∃ w4, Hid (w4 = w3.alloc (.cells #[] 39)) := ⟨_, rfl⟩
      have hb34 : Below w3.heap.size w3 w4 := by rw [HW4.out]; exact (Below.refl _ _).alloc (Nat.le_refl _) _
      have KL3 : Hid (TxtAt w3 (some ⟨g, 0, none⟩) c L) := (OwnT.at KO.out.1).below hb3
      have KA3 : Hid (TxtAt w3 a c S) := (KH.out.below KO.out.2).below hb3
      have KB3 : Hid (Below w.heap.size w w3) := below2 KO.out.2 hb3
      have KB34 : Hid (Below w3.heap.size w3 w4) := hb34
      have KP4 : Hid (OwnP w4 w3.heap.size (some ⟨w3.heap.size, 0, none⟩) 0 0 (fun _ => none) (fun _ => 0) P) := by
        rw [HW4.out]
        exact ⟨World.ownsRow_lit w3 #[] 0 (Nat.le_refl _) (by unfold maxLen; omega) rfl, fun i hi => absurd hi (Nat.not_lt_zero _), fun i j x y _ hj => absurd hj (Nat.not_lt_zero _), fun i x y hi => absurd hi (Nat.not_lt_zero _)⟩
      clear hb3 hb34 KO KR hi hz0 hz1 hz2
      go_wp2_with fail
      rw [← HW4.out]
      go_loopw [11, 12] (fun v vi wr => ∃ q g2 cc2 : Nat, q ≤ c ∧ vi = .int .i64 (q : Int) ∧ v = .slice (some ⟨g2, 0, none⟩) q cc2 ∧ (∃ A C, OwnP wr w3.heap.size (some ⟨g2, 0, none⟩) q cc2 A C P) ∧ Below w3.heap.size w3 wr) (fun _ vi _ => c - (intOf vi).toNat)
      case atStart => exact ⟨0, _, 0, Nat.zero_le _, rfl, rfl, ⟨_, _, KP4.out⟩, KB34.out⟩
      case round =>
        obtain ⟨q, g2, cc2, hq, rfl, rfl, ⟨A, C, hop⟩, hb3r⟩ := hrel
        clear KP4
        have KOP : Hid (OwnP wr w3.heap.size (some ⟨g2, 0, none⟩) q cc2 A C P ∧ Below w3.heap.size w3 wr) := ⟨hop, hb3r⟩
        have lg2 := World.ownsRow.lt hop.1 g2 rfl
        clear hop hb3r
        by_cases hlt2 : q < c
        · have hqi : (q : Int) < (c : Int) := by omega
          have KPF : Hid (Calls Tryz.prog 192 #[.slice (some ⟨g, 0, none⟩) c cc, .int .i64 (q : Int)] wr fun e w' => ∃ v, e = .returned (.tuple #[v, .bool (pfB c L (q : Int))]) ∧ ResT wr w' v (P q).m (P q).S ∧ Below wr.heap.size wr w') := by
            rw [HPC.out]
            exact sProof_any (some ⟨g, 0, none⟩) c cc L (q : Int) wr (KL3.out.below KOP.out.2) (by omega) (fun i _ => by have := HL16.out i; unfold maxLen; omega)
          generalize pfB c L (q : Int) = okp at KPF
          obtain ⟨mq, HMQ⟩ : ∃ mc, Hid ((P q).m = mc) := ⟨_, rfl⟩
          rw [HMQ.out] at KPF
          obtain ⟨sc, HSC⟩ : ∃ sc, Hid (S q = sc) := ⟨_, rfl⟩
          have HS : Hid ((P q).r = rt ∧ (P q).k = k ∧ (P q).n = (c : Int) ∧ (P q).i = (q : Int) ∧ (P q).b = sc) := by rw [HPC.out, HSC.out]; exact ⟨rfl, rfl, rfl, rfl, rfl⟩
          go_wp2_with fail
          refine Calls.mono KPF.out ?_
          rintro e w5 ⟨v5, rfl, ⟨aP, cP, rfl, O5⟩, hb5⟩
          obtain ⟨b1, off1, rfl, hc1⟩ := ((KA3.out.below KOP.out.2).below hb5) q hlt2
          rw [HSC.out] at hc1
          have hs5 := hb5.size
          have hw5 := KOP.out.2.size
          have O5' : Hid (OwnT w5 wr.heap.size aP mq cP (P q).S) := O5
          have HB5 : Hid (Below wr.heap.size wr w5) := hb5
          have KX : Hid (OwnC w5 w3.heap.size (some ⟨g2, 0, none⟩) q cc2 (fun i => cel (P i) (.slice (A i) (P i).m (C i)))) := KOP.out.1.1.below hb5
          clear O5 hb5 KPF
          go_wp2_with (at_builtin; refine wpList_append_lies _ (by rfl) _ _ 130 (by rfl) w3.heap.size 39 j0 (.agg #[.string ByteArray.empty, .int .i64 0, .int .i64 0, .int .i64 0, .string ByteArray.empty, .slice none 0 0]) 6 80 Tryz.underlying130 hj hy0 hy1 hy2 rfl (by decide) (.slice (some ⟨g2, 0, none⟩) q cc2) q _ (by rfl) (World.ownsRow.alloc KX.out _) ⟨w5.heap.size, 0, none⟩ 1 1 [.string rt, .int .i64 k, .int .i64 (c : Int), .int .i64 (q : Int), .string sc, .slice aP mq cP] (by rfl) (by rfl) (World.news_of_block (cs := #[.string rt, .int .i64 k, .int .i64 (c : Int), .int .i64 (q : Int), .string sc, .slice aP mq cP]) (t := 39) (fr := (0, 0)) (heap_alloc_new w5 _)) (by simp [Value.oneCell']) (by omega) (by unfold maxLen; omega) (by omega) (by simp; omega) (w5.heap.size + 1) (by simp) ?_; intro g3 cap3 w7 hown3 hgrow3 hat3 hlt3)
          have hgr : World.grownBy (w5.alloc (.cells #[.string rt, .int .i64 k, .int .i64 (c : Int), .int .i64 (q : Int), .string sc, .slice aP mq cP] 39)) w7 (some g2) := hgrow3
          have HN : Hid ((∃ A C, OwnP w7 w3.heap.size (some ⟨g3, 0, none⟩) (q + 1) cap3 A C P) ∧ Below w3.heap.size w3 w7) := by
            refine ⟨OwnP.snoc (aP := aP) (cP := cP) KOP.out.1 hw5 HB5.out (by rw [HMQ.out]; exact O5'.out) ?_ hgr ?_, ?_⟩
            · rw [HMQ.out, HS.out.1, HS.out.2.1, HS.out.2.2.1, HS.out.2.2.2.1, HS.out.2.2.2.2]
              exact hown3
            · rcases hat3 with e | e
              · exact .inl (by simpa [Value.ownBlock] using e)
              · exact .inr e
            · exact ((below2 KOP.out.2 HB5.out).alloc (by omega) _).grown hgr (by simp; omega) (fun j hj => by cases hj; exact lg2.1)
          clear hown3 hgrow3 hgr hat3 hlt3 KOP KX HB5 O5' hc1
          go_roundw
          case rel => exact ⟨q + 1, g3, cap3, by omega, by go_num, rfl, HN.out.1, HN.out.2⟩
          case measure => simp [intOf]; omega
        · obtain rfl : q = c := by omega
          go_wp2
          go_ret
          exact ⟨_, rfl, ⟨_, _, A, C, rfl, KOP.out.1.base KB3.out.size⟩, below2 KB3.out KOP.out.2⟩

set_option maxHeartbeats 1000000 in
theorem sCut_any (s : ByteArray) (k n : Int) (w : World) (hs : s.size ≤ 1048576) :
    Calls Tryz.prog 92 #[.string s, .int .i64 k, .int .i64 n] w fun e w' => ∃ v, e = .returned (.tuple #[v, .bool (encOk s k n)]) ∧ ResP w w' v (cutR s k n) (cutP k n.toNat (encS s k.toNat)) ∧ Below w.heap.size w w' := by
  have KE : Hid (Calls Tryz.prog 148 #[.string s, .int .i64 k, .int .i64 n] w fun e w' => ∃ v, e = .returned (.tuple #[v, .bool (encOk s k n)]) ∧ ResT w w' v (encR s k n) (encS s k.toNat) ∧ Below w.heap.size w w') := sEncode_any s k n w hs
  unfold cutR
  cases hok : encOk s k n with
  | false =>
    rw [hok] at KE
    obtain ⟨P, HP⟩ : ∃ P, Hid (cutP k n.toNat (encS s k.toNat) = P) := ⟨_, rfl⟩
    rw [HP.out]
    go_enter Tryz.func92, Tryz.ntmps92
    go_wp2_with fail
    refine Calls.mono KE.out ?_
    rintro e w1 ⟨v, rfl, _, b1⟩
    have HO : Hid (OwnP (w1.alloc (.cells #[] 39)) w.heap.size (some ⟨w1.heap.size, 0, none⟩) 0 0 (fun _ => none) (fun _ => 0) P) := ⟨World.ownsRow_lit w1 #[] 0 b1.size (by unfold maxLen; omega) rfl, fun i hi => absurd hi (Nat.not_lt_zero _), fun i j x y _ hj => absurd hj (Nat.not_lt_zero _), fun i x y hi => absurd hi (Nat.not_lt_zero _)⟩
    go_wp2
    go_ret2
    exact ⟨_, rfl, ⟨_, _, _, _, rfl, HO.out⟩, b1.alloc b1.size _⟩
  | true =>
    obtain ⟨h1, h2, h3, h4⟩ := encOk_parts hok
    have hR : encR s k n = n.toNat := by unfold encR; rw [hok]; rfl
    have hle := fun i => encS_le hok i
    rw [hok, hR] at KE
    rw [if_pos rfl]
    obtain ⟨N, rfl⟩ : ∃ N : Nat, n = (N : Int) := ⟨n.toNat, by omega⟩
    rw [Int.toNat_natCast] at KE ⊢
    generalize encS s k.toNat = S at KE hle ⊢
    clear h1 h2 h3 hok hR
    go_enter Tryz.func92, Tryz.ntmps92
    go_wp2_with fail
    refine Calls.mono KE.out ?_
    rintro e w1 ⟨v, rfl, ⟨aE, cE, rfl, O1⟩, b1⟩
    have A1 : TxtAt w1 aE N S := OwnT.at O1
    clear O1
    go_wp2_with fail
    refine Calls.mono (sAll_any k aE N cE S _ A1 (by omega) (fun i _ => by have := hle i; omega)) ?_
    rintro e w2 ⟨v2, rfl, ⟨a2, c2, A2, C2, rfl, O2⟩, b2⟩
    have KO2 : Hid (OwnP w2 w.heap.size (some ⟨a2, 0, none⟩) N c2 A2 C2 (cutP k N S)) := O2.base b1.size
    clear O2 A1
    go_wp2
    go_ret2
    exact ⟨_, rfl, ⟨_, _, _, _, rfl, KO2.out⟩, below2 b1 b2⟩
end Go.Proofs.YtgiegoamcfjfmaaGreat
