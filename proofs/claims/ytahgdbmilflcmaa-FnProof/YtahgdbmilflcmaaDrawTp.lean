/- What DrawProved draws: a root, a leaf, a place, a number and at most 20 texts of at most sixteen bytes. Conditions: a code of at most 2^20 bytes. -/
import Derived.Test.YtahgdbmilflcmaaDrawZ
import Derived.Test.YtahgdbmilflcmaaTProofS
namespace Go.Proofs.Ytahgdbmilflcmaa
set_option maxRecDepth 2000
open Go.ChangeShapes Go.WideShapes Go.ChangeAt Go.RowKit

theorem results_tmp5 {fn : Func} {t u v x y : Tmp} (h : fn.results = #[.tmp t, .tmp u, .tmp v, .tmp x, .tmp y]) (tmps : Array Value) (P : Program) (w : World) :
    (results fn tmps).run P w = .ok (.tuple #[tmps.getD t undef, tmps.getD u undef, tmps.getD v undef, tmps.getD x undef, tmps.getD y undef]) w := by
  simp [results, h]
theorem grownB {w w' : World} (g : Nat) (hb : Below w.heap.size w w') : w.grownBy w' (some g) := ⟨hb.os, hb.tape, hb.output, hb.size, fun j hj _ => hb.block j hj⟩
theorem OwnT.keptG {w w' : World} {B g : Nat} {a : Option Addr} {n c : Nat} {S : Nat → ByteArray} (h : OwnT w B a n c S) (hg : w.grownBy w' (some g)) (hB : g < B) : OwnT w' B a n c S :=
  own_kept h hg (fun x e => by subst e; have := (World.ownsRow.lt h x.block rfl).1; omega)
set_option maxHeartbeats 400000 in
theorem pickT_any (Pz : ByteArray → Prop) (g n cap : Nat) (a : Option Addr) (lb off m lc : Nat) (w : World) (hc : Cur w g a n cap) (hm : 0 < m) (hm2 : m ≤ 256) (hl : lb ≠ g)
    (hcell : ∀ i, i < m → ∃ t : ByteArray, Pz t ∧ w.cell? ⟨lb, off + i, none⟩ = some (.string t)) :
    Calls Try.prog 76 #[.pointer (some ⟨g, 0, none⟩), .slice (some ⟨lb, off, none⟩) m lc] w fun e w' => ∃ t : ByteArray, Pz t ∧ e = .returned (.string t) ∧ w.grownBy w' (some g) ∧ Cur w' g a n cap := by
  go_enter Try.func76, Try.ntmps76
  go_wp2_with fail
  refine (belowN_any g n cap a _ _ hc).mono ?_
  rintro e w1 ⟨x, x0, x1, _, rfl, hg, hc1⟩
  have x2 := x1 (by omega)
  obtain ⟨k, rfl⟩ := Int.eq_ofNat_of_zero_le x0
  obtain ⟨t, ht, hz⟩ := hcell k (by omega)
  have hz1 := hg.cell hz (by simpa using hl)
  have HT : Hid (Pz t) := ht
  clear hcell hz x1 ht
  go_wp2
  go_ret
  exact ⟨t, HT.out, rfl, hg, hc1⟩

abbrev P6 (w wr : World) (g n cap : Nat) (a : Option Addr) (e : Ending) : Prop :=
  ∃ (r x : ByteArray) (i m : Int) (b : Option Addr) (k c : Nat) (S : Nat → ByteArray), e = .returned (.tuple #[.string r, .string x, .int .i64 i, .int .i64 m, .slice b k c]) ∧ TxtAt wr b k S ∧ k ≤ 20 ∧ (∀ i, i < k → (S i).size ≤ 16) ∧ w.grownBy wr (some g) ∧ Cur wr g a n cap

set_option maxHeartbeats 4000000 in
theorem proved06_any (g n cap : Nat) (a : Option Addr) (w : World) (hc : Cur w g a n cap) (hab : Under a n g) :
    Calls Try.prog 48 #[.pointer (some ⟨g, 0, none⟩)] w fun e w' => P6 w w' g n cap a e := by
  obtain ⟨i0, hi, hz0, hz1, hz2⟩ := info_parts Try.infoStr
  have hgl := hc.lt
  go_enter Try.func48, Try.ntmps48
  go_wp2_with fail
  refine (list06_any g n cap a _ hc hab).mono ?_
  rintro e w1 ⟨m, v, hm, rfl, G, c, S, rfl, ho, h16, hg1, hc1⟩
  have lG := World.ownsRow.lt ho _ rfl
  go_wp2_with fail
  refine (belowN_any g n cap a _ _ hc1).mono ?_
  rintro e w2 ⟨i, i0', i1, i2, rfl, hg2, hc2⟩
  have ho2 : OwnT w2 w.heap.size (some ⟨G, 0, none⟩) m c S := own_kept ho hg2 (fun y e => by cases e; simp; omega)
  have hg12 := grownBy_trans hg1 hg2
  have A2 : TxtAt w2 (some ⟨G, 0, none⟩) m S := OwnT.at ho2
  have hL : ∀ i, i < m → (S i).size ≤ maxLen := fun i hi => by have := h16 i hi; unfold maxLen; omega
  have w22 : w.heap.size ≤ w2.heap.size := hg12.size
  clear ho ho2 hg1 hg2 hc hc1
  go_wp2_with fail
  refine Calls.mono (sProof_any (some ⟨G, 0, none⟩) m c S i _ A2 (by omega) hL) ?_
  rintro e w3 ⟨v3, rfl, ⟨aP, cP, rfl, hoP⟩, hb3⟩
  have hkP := pfR_le m S i
  have A3 : TxtAt w3 (some ⟨G, 0, none⟩) m S := A2.below hb3
  have hszP : Hid (∀ j, j < pfR m S i → (pfF m S i j).size ≤ 16) := by
    intro j hj
    unfold pfR at hj
    by_cases hB : pfB m S i = true
    · rw [if_pos hB] at hj
      obtain ⟨h1, h2⟩ := pfB_parts hB
      have h3 := lvB_parts h1
      have : (pfF m S i j).size = 16 := Gt.pf_size _ (by simp [inT] at h2; omega) h3.2.2 j hj
      omega
    · rw [if_neg hB] at hj; omega
  have hin : Hid (pfB m S i = true → ∃ q : Nat, i = (q : Int) ∧ q < m) := fun hB => by
    obtain ⟨h1, h2⟩ := pfB_parts hB
    exact ⟨i.toNat, by simp [inT] at h2; omega, by simp [inT] at h2; omega⟩
  have hc3 : Cur w3 g a n cap := curBelow hc2 hb3
  have hg3 := grownBy_trans hg12 (grownB g hb3)
  clear A2 hc2 hg12 hb3
  generalize hk : pfR m S i = kP at hoP hkP hszP
  generalize hS : pfF m S i = SP at hoP hszP
  generalize hB : pfB m S i = bP at hin
  clear hk hS hB
  replace hoP : OwnT w3 w.heap.size aP kP cP SP := OwnT.base hoP w22
  go_wp2_with fail
  refine Calls.mono (sRoot_any (some ⟨G, 0, none⟩) m c S _ A3 (by omega) hL) ?_
  rintro e w4 ⟨rfl, hb4⟩
  generalize rtS m S = r
  generalize lvB m S = okR
  go_wp2_with fail
  refine (sleaf_any ⟨#[]⟩ _ (by decide)).mono ?_
  rintro e w5 ⟨rfl, hb5⟩
  have HX : Hid ((Gt.lf ⟨#[]⟩).size ≤ 16) := by show _ ≤ _; rw [Gt.lf_size]; omega
  generalize Gt.lf ⟨#[]⟩ = x at HX
  have A5 : TxtAt w5 (some ⟨G, 0, none⟩) m S := (A3.below hb4).below hb5
  have O5 : Hid (OwnT w5 w.heap.size aP kP cP SP) := OwnT.below (OwnT.below hoP hb4) hb5
  have G5 : Hid (w.grownBy w5 (some g)) := grownBy_trans (grownBy_trans hg3 (grownB g hb4)) (grownB g hb5)
  have hc5 : Cur w5 g a n cap := curBelow (curBelow hc3 hb4) hb5
  have H16 : Hid (∀ i, i < m → (S i).size ≤ 16) := h16
  have lGs : G ≠ g := by omega
  clear A3 hoP hb4 hb5 hg3 hc3 hL h16 i1 i2
  cases bP
  case' true =>
    obtain ⟨q, rfl, hq⟩ := hin.out rfl
    have hqi : (q : Int) < (m : Int) := by omega
    obtain ⟨b', off', eq, hcc⟩ := A5 q hq
    cases eq
    rw [Nat.zero_add] at hcc
    clear HX
    have HX : Hid ((S q).size ≤ 16) := H16.out q hq
    generalize S q = y at hcc HX
    go_wp2_with fail
    generalize (q : Int) = i
    clear hcc hqi hq i0' A5
  case' false =>
    obtain ⟨y, rfl⟩ : ∃ y, y = x := ⟨_, rfl⟩
    go_wp2_with fail
    clear i0' A5
  all_goals
    clear hin H16
    refine (belowN_any g n cap a 10 _ hc5).mono ?_
    rintro e w6 ⟨s, s0, _, _, rfl, hg6, hc6⟩
    have O6 : Hid (OwnT w6 w.heap.size aP kP cP SP) := OwnT.keptG O5.out hg6 hgl
    have G6 : Hid (w.grownBy w6 (some g)) := grownBy_trans G5.out hg6
    clear O5 G5 hg6 hc5
    by_cases e0 : s = 0
    · subst e0
      go_wp2_with fail
      refine (sleaf_any ⟨#[120]⟩ _ (by decide)).mono ?_
      rintro e w7 ⟨rfl, hb7⟩
      go_wp2
      (try simp only [Exit.inBlock, Exit.then]); refine bodyPost_ret (results_tmp5 rfl _ _ _) rfl ?_
      exact ⟨_, _, _, _, _, _, _, SP, rfl, OwnT.at (OwnT.below O6.out hb7), by omega, hszP.out, grownBy_trans G6.out (grownB g hb7), curBelow hc6 hb7⟩
    have b0 : (s == 0) = false := by simpa using e0
    by_cases e1 : s = 1
    · subst e1
      have hw : IntKind.i64.wrap ((m : Int) + 2) = (m : Int) + 2 := by rw [IntKind.wrap_i64]; omega
      go_wp2_with fail
      refine (belowN_any g n cap a _ _ hc6).mono ?_
      rintro e w7 ⟨y, y0, y1, _, rfl, hg7, hc7⟩
      have y2 := y1 (by omega)
      clear y1
      have hw2 : IntKind.i64.wrap (y - 1) = y - 1 := by rw [IntKind.wrap_i64]; omega
      have O7 : Hid (OwnT w7 w.heap.size aP kP cP SP) := OwnT.keptG O6.out hg7 hgl
      go_wp2
      (try simp only [Exit.inBlock, Exit.then]); refine bodyPost_ret (results_tmp5 rfl _ _ _) rfl ?_
      exact ⟨_, _, _, _, _, _, _, SP, rfl, OwnT.at O7.out, by omega, hszP.out, grownBy_trans G6.out hg7, hc7⟩
    have b1 : (s == 1) = false := by simpa using e1
    by_cases e2 : s = 2
    · subst e2
      go_wp2_with fail
      refine (belowN_any g n cap a _ _ hc6).mono ?_
      rintro e w7 ⟨y, y0, y1, _, rfl, hg7, hc7⟩
      have O7 : Hid (OwnT w7 w.heap.size aP kP cP SP) := OwnT.keptG O6.out hg7 hgl
      clear y1
      go_wp2
      (try simp only [Exit.inBlock, Exit.then]); refine bodyPost_ret (results_tmp5 rfl _ _ _) rfl ?_
      exact ⟨_, _, _, _, _, _, _, SP, rfl, OwnT.at O7.out, by omega, hszP.out, grownBy_trans G6.out hg7, hc7⟩
    have b2 : (s == 2) = false := by simpa using e2
    by_cases e3 : s = 3
    · subst e3
      have h6 := G6.out.size
      have hl6 := hc6.lt
      go_wp2_with (at_builtin; refine wpList_append_lies _ (by rfl) _ _ 24 (by rfl) w.heap.size 9 i0 (.string ByteArray.empty) 1 16 Try.underlying24 hi hz0 hz1 hz2 rfl (by decide) (.slice aP kP cP) kP _ (by rfl) (World.ownsRow.alloc O6.out _) ⟨w6.heap.size, 0, none⟩ 1 1 [.string y] (by rfl) (by rfl) (World.news_of_block (cs := #[.string y]) (t := 9) (fr := (0, 0)) (heap_alloc_new w6 _)) (by simp [Value.oneCell']) (by omega) (by unfold maxLen; omega) (by omega) (by simp; omega) (w6.heap.size + 1) (by simp) ?_; intro g3 cap3 w7 hown3 hgrow3 hat3 hlt3)
      have HL : Hid (OwnT w7 w.heap.size (some ⟨g3, 0, none⟩) (kP + 1) cap3 (fun j => if j = kP then y else SP j)) := by
        have hx : sL (fun j => if j = kP then y else SP j) (kP + 1) = sL SP kP ++ [Value.string y] := by
          rw [sL_snoc, sL_congr (S' := SP) (fun i hi => by rw [if_neg (by omega)])]
          simp
        show OwnT _ _ _ _ _ _
        unfold OwnT
        rw [hx]
        exact hown3
      have HG : Hid (w.grownBy w7 (some g) ∧ Cur w7 g a n cap) := by
        have hga := grownBy_trans G6.out (World.grownBy_alloc w6 (.cells #[.string y] 9) (some g))
        have hca := Cur.alloc hc6 (.cells #[.string y] 9)
        cases aP with
        | none =>
          have hn : World.grownBy (w6.alloc (.cells #[.string y] 9)) w7 none := hgrow3
          exact ⟨grownBy_trans hga ⟨hn.os, hn.tape, hn.output, hn.size, fun j hj _ => hn.block j hj (by simp)⟩, hca.kept hn (by simp) (by simp)⟩
        | some x =>
          have hb := (World.ownsRow.lt O6.out x.block rfl).1
          have hn : World.grownBy (w6.alloc (.cells #[.string y] 9)) w7 (some x.block) := hgrow3
          exact ⟨grown_since hga hn hb, Cur.far hca hn (by omega) hab⟩
      have HS : Hid (∀ i, i < kP + 1 → ((fun j => if j = kP then y else SP j) i).size ≤ 16) := by
        intro i hi
        by_cases e : i = kP
        · simp [e, HX.out]
        · simp [e]; exact hszP.out i (by omega)
      clear hown3 hgrow3 hat3 hlt3 O6 G6
      go_wp2
      (try simp only [Exit.inBlock, Exit.then]); refine bodyPost_ret (results_tmp5 rfl _ _ _) rfl ?_
      exact ⟨_, _, _, _, _, _, _, _, rfl, OwnT.at HL.out, by omega, HS.out, HG.out.1, HG.out.2⟩
    have b3 : (s == 3) = false := by simpa using e3
    by_cases e4 : s = 4
    · subst e4
      by_cases hk0 : 0 < kP
      · have hk0' : (0 : Int) < (kP : Int) := by omega
        obtain ⟨x', rfl⟩ : ∃ x', aP = some ⟨x', 0, none⟩ := by
          rcases O6.out.2 with ⟨e, h⟩ | ⟨g', c', cu, e, _⟩
          · omega
          · cases e; exact ⟨_, rfl⟩
        have hxb := (World.ownsRow.lt O6.out x' rfl).1
        go_wp2_with fail
        refine (sleaf_any ⟨#[121]⟩ _ (by decide)).mono ?_
        rintro e w7 ⟨rfl, hb7⟩
        have HY : Hid ((Gt.lf ⟨#[121]⟩).size ≤ 16) := by show _ ≤ _; rw [Gt.lf_size]; omega
        generalize Gt.lf ⟨#[121]⟩ = z at HY
        have O7 : Hid (OwnT w7 w.heap.size (some ⟨x', 0, none⟩) kP cP SP) := OwnT.below O6.out hb7
        have G7 : Hid (w.grownBy w7 (some g)) := grownBy_trans G6.out (grownB g hb7)
        have hc7 : Cur w7 g a n cap := curBelow hc6 hb7
        have hl7 := hc7.lt
        have KL : Hid (∀ i, i < 2 → ∃ t : ByteArray, t.size ≤ 16 ∧ (w7.alloc (.cells #[.string z, .string ⟨#[]⟩] 9)).cell? ⟨w7.heap.size, 0 + i, none⟩ = some (.string t)) := by
          intro i hi
          rw [Nat.zero_add, cell_of_row _ _ _ _ 9 _ (heap_alloc_new w7 _)]
          match i, hi with
          | 0, _ => exact ⟨z, HY.out, rfl⟩
          | 1, _ => exact ⟨⟨#[]⟩, by decide, rfl⟩
        clear hb7 O6 G6 hc6
        go_wp2_with fail
        refine (pickT_any (fun t => t.size ≤ 16) g n cap a w7.heap.size 0 2 2 _ (Cur.alloc hc7 _) (by omega) (by omega) (by omega) KL.out).mono ?_
        rintro e w8 ⟨t, ht, rfl, hg8, hc8⟩
        have O8 : OwnT w8 w.heap.size (some ⟨x', 0, none⟩) kP cP SP := OwnT.keptG (World.ownsRow.alloc O7.out _) hg8 hgl
        have G8 : Hid (w.grownBy w8 (some g)) := grownBy_trans (grownBy_trans G7.out (World.grownBy_alloc w7 _ _)) hg8
        have hst := World.ownsRow.stored O8 0 (.string t)
        rw [sL_set _ _ _ _ hk0] at hst
        have HL : Hid (OwnT (w8.setCell ⟨x', 0, none⟩ (.string t)) w.heap.size (some ⟨x', 0, none⟩) kP cP (fun i => if i = 0 then t else SP i)) := hst.1
        have HG : Hid (w.grownBy (w8.setCell ⟨x', 0, none⟩ (.string t)) (some g) ∧ Cur (w8.setCell ⟨x', 0, none⟩ (.string t)) g a n cap) := ⟨grown_since G8.out (grown_set _ _ _ _) hxb, Cur.far hc8 (grown_set _ _ _ _) (by omega) hab⟩
        have HS : Hid (∀ i, i < kP → ((fun i => if i = 0 then t else SP i) i).size ≤ 16) := by
          intro i hi
          by_cases e : i = 0
          · simp only [e, if_true]; exact ht
          · simp only [e, if_false]; exact hszP.out i hi
        have cq : w8.cell? ⟨x', 0, none⟩ = some (.string (SP 0)) := by
          have := (OwnT.at O8) 0 hk0
          obtain ⟨b', off', eq, hcc⟩ := this
          cases eq
          simpa using hcc
        have fq := World.ownsRow.frozenAt O8 0
        generalize SP 0 = old at cq
        clear hst hg8 hc8 O7 G7 hc7 O8 G8 KL ht
        go_wp2
        (try simp only [Exit.inBlock, Exit.then]); refine bodyPost_ret (results_tmp5 rfl _ _ _) rfl ?_
        exact ⟨_, _, _, _, _, _, _, _, rfl, OwnT.at HL.out, by omega, HS.out, HG.out.1, HG.out.2⟩
      · obtain rfl : kP = 0 := by omega
        go_wp2
        (try simp only [Exit.inBlock, Exit.then]); refine bodyPost_ret (results_tmp5 rfl _ _ _) rfl ?_
        exact ⟨_, _, _, _, _, _, _, SP, rfl, OwnT.at O6.out, by omega, hszP.out, G6.out, hc6⟩
    have b4 : (s == 4) = false := by simpa using e4
    go_wp2
    (try simp only [Exit.inBlock, Exit.then]); refine bodyPost_ret (results_tmp5 rfl _ _ _) rfl ?_
    exact ⟨_, _, _, _, _, _, _, SP, rfl, OwnT.at O6.out, by omega, hszP.out, G6.out, hc6⟩

set_option maxHeartbeats 1000000 in
theorem drawProved_any (a : Option Addr) (n cap : Nat) (w : World) (hc : CodeAt w a n) :
    Calls Try.prog 18 #[.slice a n cap] w fun e w' => ∃ (r x : ByteArray) (i m : Int) (b : Option Addr) (k c : Nat) (S : Nat → ByteArray), e = .returned (.tuple #[.string r, .string x, .int .i64 i, .int .i64 m, .slice b k c]) ∧ TxtAt w' b k S ∧ k ≤ 20 ∧ (∀ i, i < k → (S i).size ≤ 16) ∧ Below w.heap.size w w' := by
  go_enter Try.func18, Try.ntmps18
  go_wp2_with fail
  refine (new_any a n cap _ hc.1 hc.bytes).mono ?_
  rintro e w1 ⟨g, rfl, hg, hb1, hc1⟩
  have hab := hc.under hg
  clear hc
  go_wp2_with fail
  refine (proved06_any g n cap a _ hc1 hab).mono ?_
  rintro e w2 ⟨r, x, i, m, b, k, c, S, rfl, hT, hk, h16, hg2, hc2⟩
  have KT : Hid (TxtAt w2 b k S ∧ ∀ i, i < k → (S i).size ≤ 16) := ⟨hT, h16⟩
  clear hT h16
  go_wp2
  (try simp only [Exit.inBlock, Exit.then]); refine bodyPost_ret (results_tmp5 rfl _ _ _) rfl ?_
  exact ⟨r, x, i, m, b, k, c, S, rfl, KT.out.1, hk, KT.out.2, belowOf hb1 hg hg2⟩
end Go.Proofs.Ytahgdbmilflcmaa
