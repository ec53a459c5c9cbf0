/- Lists of marks: copied, compared and marked. Conditions: lists of at most 2^20. -/
import Derived.Test.YtggmcgcmpgofcaaH33
namespace Go.Proofs.Ytggmcgcmpgofcaa
set_option maxRecDepth 2000
open Go.ChangeShapes Go.WideShapes Go.ChangeAt Go.RowKit

set_option maxHeartbeats 4000000 in
theorem eqMas_same (a b : Option Addr) (n ca cb : Nat) (M : Nat → Ma) (w : World) (ha : Rd w (masD n M) (.slice a n ca)) (hb : Rd w (masD n M) (.slice b n cb)) (hn : n ≤ 1048576) :
    Calls Try.prog 12 #[.slice a n ca, .slice b n cb] w fun e w' => e = .returned (.bool true) ∧ Below w.heap.size w w' := by
  have KH : Hid (Rd w (masD n M) (.slice a n ca) ∧ Rd w (masD n M) (.slice b n cb)) := ⟨ha, hb⟩
  have hnn : ((n : Int) != (n : Int)) = false := by simp
  clear ha hb
  go_enter Try.func12, Try.ntmps12
  go_wp2
  go_loopw [5] (fun vi wr => ∃ c : Nat, c ≤ n ∧ vi = .int .i64 (c : Int) ∧ Below w.heap.size w wr) (fun vi _ => n - (intOf vi).toNat)
  case atStart => exact ⟨0, Nat.zero_le _, rfl, Below.refl _ _⟩
  case round =>
    obtain ⟨c, hcn, rfl, hbel⟩ := hrel
    by_cases hlt : c < n
    · have hki : (c : Int) < (n : Int) := by omega
      obtain ⟨b1, f1, rfl, ⟨x0, x1, x2, x3⟩, _⟩ := mark_at (KH.out.1.below hbel) hlt
      obtain ⟨b2, f2, rfl, ⟨y0, y1, y2, y3⟩, _⟩ := mark_at (KH.out.2.below hbel) hlt
      obtain ⟨⟨z0, z1, z2, z3⟩, HM⟩ : ∃ z, Hid (M c = z) := ⟨_, rfl⟩
      simp only [HM.out] at x0 x1 x2 x3 y0 y1 y2 y3
      have KT : Hid (∀ W, Calls Try.prog 32 #[.agg #[.int .i64 z0, .int .i64 z1, .int .i64 z2, .int .i64 z3], .agg #[.int .i64 z0, .int .i64 z1, .int .i64 z2, .int .i64 z3]] W fun e w' => e = .returned (.bool true) ∧ Below W.heap.size W w') := fun W => eqMa_same z0 z1 z2 z3 W
      have KS : Hid (∀ W, Below wr.heap.size wr W → W.cell? ⟨b1, f1 + c * 4, none⟩ = some (.int .i64 z0) ∧ W.cell? ⟨b1, f1 + c * 4 + 1, none⟩ = some (.int .i64 z1) ∧ W.cell? ⟨b1, f1 + c * 4 + 2, none⟩ = some (.int .i64 z2) ∧ W.cell? ⟨b1, f1 + c * 4 + 3, none⟩ = some (.int .i64 z3) ∧ W.cell? ⟨b2, f2 + c * 4, none⟩ = some (.int .i64 z0) ∧ W.cell? ⟨b2, f2 + c * 4 + 1, none⟩ = some (.int .i64 z1) ∧ W.cell? ⟨b2, f2 + c * 4 + 2, none⟩ = some (.int .i64 z2) ∧ W.cell? ⟨b2, f2 + c * 4 + 3, none⟩ = some (.int .i64 z3)) := fun W hW => ⟨(hW.cell (block_lt_of_cell x0)).trans x0, (hW.cell (block_lt_of_cell x1)).trans x1, (hW.cell (block_lt_of_cell x2)).trans x2, (hW.cell (block_lt_of_cell x3)).trans x3, (hW.cell (block_lt_of_cell y0)).trans y0, (hW.cell (block_lt_of_cell y1)).trans y1, (hW.cell (block_lt_of_cell y2)).trans y2, (hW.cell (block_lt_of_cell y3)).trans y3⟩
      have KB : Hid (Below w.heap.size w wr) := hbel
      have hdr := below_drew wr
      clear hbel x0 x1 x2 x3 y0 y1 y2 y3
      go_wp2_with fail
      go_region_held3 (fun w' => w'.cell? ⟨b1, f1 + c * 4, none⟩ = some (.int .i64 z0) ∧ w'.cell? ⟨b1, f1 + c * 4 + 1, none⟩ = some (.int .i64 z1) ∧ w'.cell? ⟨b1, f1 + c * 4 + 2, none⟩ = some (.int .i64 z2) ∧ w'.cell? ⟨b1, f1 + c * 4 + 3, none⟩ = some (.int .i64 z3) ∧ w'.cell? ⟨b2, f2 + c * 4, none⟩ = some (.int .i64 z0) ∧ w'.cell? ⟨b2, f2 + c * 4 + 1, none⟩ = some (.int .i64 z1) ∧ w'.cell? ⟨b2, f2 + c * 4 + 2, none⟩ = some (.int .i64 z2) ∧ w'.cell? ⟨b2, f2 + c * 4 + 3, none⟩ = some (.int .i64 z3)) (exact KS.out _ (by assumption)) ((go_at_call 32; refine Calls.mono (KT.out _) ?_; rintro e w7 ⟨rfl, b7'⟩; have b7 := below_of_drew b7'; clear b7'))
      all_goals
        have HB7 : Hid (Below w.heap.size w w7) := below2 KB.out b7
        clear b7
        go_wp2
        go_roundw
        case rel => exact ⟨c + 1, by omega, by go_num, HB7.out⟩
        case measure => simp [intOf]; omega
    · go_wp2
      go_ret
      exact ⟨rfl, hbel⟩
def zcM : List Value := [.int .i64 0, .int .i64 0, .int .i64 0, .int .i64 0]
theorem Try.infoMaZ : (Try.prog.info? 56).map (fun i => (i.zero, i.size, i.bytes)) = some (some (.agg zcM.toArray), 4, 32) := by kernel_rfl
theorem ow_maZ (w : World) (B q : Nat) (hq : q < 4) : Ow w B (maD maZ q) (zcM.getD q undef) (fun _ => False) := by
  match q, hq with
  | 0, _ | 1, _ | 2, _ | 3, _ => rfl
theorem ow_mark (w : World) (B : Nat) (x0 x1 x2 x3 : Int) (q : Nat) (hq : q < 4) : Ow w B (maD ⟨x0, x1, x2, x3⟩ q) ([Value.int .i64 x0, .int .i64 x1, .int .i64 x2, .int .i64 x3].getD q undef) (fun _ => False) := by
  match q, hq with
  | 0, _ | 1, _ | 2, _ | 3, _ => rfl
set_option maxHeartbeats 4000000 in
theorem toMas_any (a : Option Addr) (n cap : Nat) (M : Nat → Ma) (w : World) (h : Rd w (masD n M) (.slice a n cap)) (hn : n ≤ 1048576) :
    Calls Try.prog 9 #[.slice a n cap] w fun e w' => ∃ g, e = .returned (.slice (some ⟨g, 0, none⟩) n n) ∧ Ow w' w.heap.size (masD n M) (.slice (some ⟨g, 0, none⟩) n n) (rng w.heap.size w'.heap.size) ∧ Below w.heap.size w w' := by
  obtain ⟨i0, hi, hz0, hz1, hz2⟩ := info_parts Try.infoMaZ
  have KH : Hid (Rd w (masD n M) (.slice a n cap)) := h
  clear h
  go_enter Try.func9, Try.ntmps9
  go_wp2_with (at_make; refine wpList_make_full _ rfl _ _ 26 rfl w.heap.size 56 i0 (.agg zcM.toArray) 4 Try.underlying26 hi hz0 hz1 .i64 .i64 _ _ n rfl rfl rfl rfl (by rw [hz2]; omega) (by unfold maxLen; omega) (Nat.le_refl _) ?_; intro w1 hown hgrow)
  have hb1 : Below w.heap.size w w1 := (Below.refl _ _).grown hgrow (Nat.le_refl _) (by simp)
  obtain ⟨g, HG⟩ : ∃ x, Hid (x = w.heap.size) := ⟨_, rfl⟩
  have ho1 : Ow w1 w.heap.size (.lst 56 4 n (fun i => if i < 0 then maD (M i) else maD maZ)) (.slice (some ⟨g, 0, none⟩) n n) (rng w.heap.size w1.heap.size) := by
    have e : (madeCells (Value.agg zcM.toArray).cells (n * 4)).toList = cL 4 (fun _ q => zcM.getD q undef) n := made_cL (zs := zcM) (by simp [zcM])
    rw [e] at hown
    rw [HG.out]
    have := ow_made (F := rng w.heap.size w1.heap.size) hown (fun q hq => ow_maZ w1 w.heap.size q hq) ⟨Nat.le_refl _, (World.ownsRow.lt hown _ rfl).2⟩
    exact this.congr (fun i q _ _ => by simp)
  have gB : g = w.heap.size := HG.out
  rw [← HG.out]
  have HB : Hid (w.heap.size ≤ g) := by show _ ≤ _; omega
  clear hown hgrow gB
  go_loopw [4] (fun i wr => ∃ k : Nat, k ≤ n ∧ i = .int .i64 k ∧ Ow wr w.heap.size (.lst 56 4 n (fun i => if i < k then maD (M i) else maD maZ)) (.slice (some ⟨g, 0, none⟩) n n) (rng w.heap.size wr.heap.size) ∧ Below w.heap.size w wr) (fun i _ => n - (intOf i).toNat)
  case atStart => exact ⟨0, Nat.zero_le _, rfl, ho1, hb1⟩
  case round =>
    obtain ⟨c, hc, rfl, hown, hbel⟩ := hrel
    clear ho1 hb1
    by_cases hlt : c < n
    · have hlti : (c : Int) < (n : Int) := by omega
      obtain ⟨b1, f1, rfl, _, R1'⟩ := mark_at (KH.out.below hbel) hlt
      have KO : Hid (Ow wr w.heap.size (.lst 56 4 n (fun i => if i < c then maD (M i) else maD maZ)) (.slice (some ⟨g, 0, none⟩) n n) (rng w.heap.size wr.heap.size) ∧ Below w.heap.size w wr) := ⟨hown, hbel⟩
      obtain ⟨⟨z0, z1, z2, z3⟩, HZ⟩ : ∃ z, Hid (M c = z) := ⟨_, rfl⟩
      rw [HZ.out] at R1'
      have KT : Hid _ := toMa_any z0 z1 z2 z3 wr
      have R1 : Hid (wr.rangeAt b1 (f1 + c * 4) [.int .i64 z0, .int .i64 z1, .int .i64 z2, .int .i64 z3]) := R1'
      have lg : g < wr.heap.size := by
        obtain ⟨a', cap', c', G', e', ho', _⟩ := hown
        cases e'
        exact (World.ownsRow.lt ho' g rfl).2
      clear R1' hbel hown
      go_wp2_with (refine wpList_load_mid (by rfl) 58 _ (by rfl) b1 (f1 + c * 4) (by rfl) [.int .i64 z0, .int .i64 z1, .int .i64 z2, .int .i64 z3] _ ?_ Try.underlying58 (by rfl) Try.infoMaL ?_; exact R1.out)
      refine Calls.mono KT.out ?_
      rintro e w2 ⟨rfl, b2⟩
      have O2 := KO.out.1.below b2
      have TH : Hid (w2.there g (c * 4) 4) := by
        obtain ⟨a', cap', c', G', e', ho', _⟩ := O2
        cases e'
        intro j hj
        refine ⟨?_, World.ownsRow.frozenAt ho' _⟩
        rw [World.ownsRow.cellAt ho' _ (mid_lt hlt hj), cL_get _ _ _ _ _ hlt hj]
        rfl
      have hsz := KO.out.2.size
      have HO : Hid (Ow (w2.setCells g (c * 4) [Value.int .i64 z0, .int .i64 z1, .int .i64 z2, .int .i64 z3]) w.heap.size (.lst 56 4 n (fun i => if i < c + 1 then maD (M i) else maD maZ)) (.slice (some ⟨g, 0, none⟩) n n) (rng w.heap.size (w2.setCells g (c * 4) [Value.int .i64 z0, .int .i64 z1, .int .i64 z2, .int .i64 z3]).heap.size)) := by
        rw [size_setCells]
        refine Ow.congr (Ow.store (d := maD ⟨z0, z1, z2, z3⟩) (H := fun _ _ => False) O2 hlt rfl (fun q hq => ow_mark _ _ _ _ _ _ q hq) ?_ ?_ ?_ ?_) ?_
        · intro q x _ hx hf
          exact hx.elim
        · intro q q' x _ _ hx hx'
          exact hx.elim
        · intro x hx
          have := b2.size
          exact ⟨hx.1, by have := hx.2; omega⟩
        · intro q x _ hx
          exact hx.elim
        · intro i q _ _
          by_cases e : i = c
          · subst e; simp [HZ.out]
          · by_cases e2 : i < c
            · simp [e, e2, show i < c + 1 by omega]
            · simp [e, e2, show ¬ i < c + 1 by omega]
      have HBe : Hid (Below w.heap.size w (w2.setCells g (c * 4) [Value.int .i64 z0, .int .i64 z1, .int .i64 z2, .int .i64 z3])) := below_setCells (below2 KO.out.2 b2) HB.out _ _
      clear O2 b2 KT R1 KO
      go_wp2_with (refine wpList_store_mid (by rfl) 56 _ _ (by rfl) g (c * 4) ([Value.int .i64 z0, .int .i64 z1, .int .i64 z2, .int .i64 z3]).toArray (by rfl) (by rfl) ?_ Try.infoMa (by simp [Value.oneCell']) ?_; exact TH.out)
      go_roundw
      case rel => exact ⟨c + 1, by omega, by go_num, HO.out, HBe.out⟩
      case measure => simp [intOf]; omega
    · obtain rfl : c = n := by omega
      have HO : Hid (Ow wr w.heap.size (masD c M) (.slice (some ⟨g, 0, none⟩) c c) (rng w.heap.size wr.heap.size)) := hown.congr (fun i q hi _ => by simp [hi])
      clear hown
      go_wp2
      go_ret
      exact ⟨g, rfl, HO.out, hbel⟩
set_option maxHeartbeats 4000000 in
theorem markMas_any (B g n cap k : Nat) (F : Nat → Prop) (M : Nat → Ma) (w : World) (h : Ow w B (masD n M) (.slice (some ⟨g, 0, none⟩) n cap) F) (hn : n ≤ 1048576) (hk : k ≤ 10000000) :
    Calls Try.prog 13 #[.slice (some ⟨g, 0, none⟩) n cap, .int .i64 (k : Int)] w fun e w' => ∃ q : Nat, e = .returned (.int .i64 (q : Int)) ∧ Trn w w' F := by
  obtain ⟨G, hsep, hmk⟩ := Ow.mk h
  have KS : Hid (Sep (some ⟨g, 0, none⟩) n 4 G F) := hsep
  have HG : Hid (F g) := hsep.head _ rfl
  have K0 : Hid (∃ D, MkS w B 56 4 g n cap G D) := ⟨_, hmk⟩
  clear h hsep hmk
  go_enter Try.func13, Try.ntmps13
  go_wp2
  go_loopw [1, 5] (fun vk vi wr => ∃ c o : Nat, c ≤ n ∧ o = k + 4 * c ∧ vk = .int .i64 (o : Int) ∧ vi = .int .i64 (c : Int) ∧ (∃ D, MkS wr B 56 4 g n cap G D) ∧ Trn w wr F) (fun _ vi _ => n - (intOf vi).toNat)
  case atStart => exact ⟨0, k, Nat.zero_le _, by omega, rfl, rfl, K0.out, Trn.refl _ _⟩
  case round =>
    obtain ⟨c, o0, hcn, ho, rfl, rfl, hop, htr⟩ := hrel
    clear K0
    have KO : Hid ((∃ D, MkS wr B 56 4 g n cap G D) ∧ Trn w wr F) := ⟨hop, htr⟩
    clear hop htr
    by_cases hlt : c < n
    · have hki : (c : Int) < (n : Int) := by omega
      obtain ⟨o1, HO1⟩ : ∃ x, Hid (x = o0 + 1) := ⟨_, rfl⟩
      obtain ⟨o2, HO2⟩ : ∃ x, Hid (x = o0 + 2) := ⟨_, rfl⟩
      obtain ⟨o3, HO3⟩ : ∃ x, Hid (x = o0 + 3) := ⟨_, rfl⟩
      obtain ⟨o4, HO4⟩ : ∃ x, Hid (x = o0 + 4) := ⟨_, rfl⟩
      have e1 : (o0 : Int) + 1 = (o1 : Int) := by have := HO1.out; omega
      have e2 : (o1 : Int) + 1 = (o2 : Int) := by have := HO2.out; have := HO1.out; omega
      have e3 : (o2 : Int) + 1 = (o3 : Int) := by have := HO3.out; have := HO2.out; omega
      have e4 : (o3 : Int) + 1 = (o4 : Int) := by have := HO4.out; have := HO3.out; omega
      have u0 : o0 ≤ 100000000 := by omega
      have u1 : o1 ≤ 100000000 := by have := HO1.out; omega
      have u2 : o2 ≤ 100000000 := by have := HO2.out; omega
      have u3 : o3 ≤ 100000000 := by have := HO3.out; omega
      have u4 : o4 ≤ 100000000 := by have := HO4.out; omega
      have HN4 : Hid (o4 = k + 4 * (c + 1)) := by show _ = _; have := HO4.out; omega
      obtain ⟨D, M0⟩ := KO.out.1
      obtain ⟨x0v, x0, f0, _⟩ := MkS.cell M0 hlt (show 0 < 4 by omega)
      obtain ⟨x1v, x1, f1, _⟩ := MkS.cell M0 hlt (show 1 < 4 by omega)
      obtain ⟨x2v, x2, f2, _⟩ := MkS.cell M0 hlt (show 2 < 4 by omega)
      obtain ⟨x3v, x3, f3, _⟩ := MkS.cell M0 hlt (show 3 < 4 by omega)
      simp only [Nat.add_zero] at x0 f0 x1 f1 x2 f2 x3 f3
      obtain ⟨W1, HW1⟩ : ∃ x, Hid (x = ((((wr.setCell ⟨g, c * 4, none⟩ (.int .i64 (o0 : Int))).setCell ⟨g, c * 4 + 1, none⟩ (.int .i64 (o1 : Int))).setCell ⟨g, c * 4 + 2, none⟩ (.int .i64 (o2 : Int))).setCell ⟨g, c * 4 + 3, none⟩ (.int .i64 (o3 : Int)))) := ⟨_, rfl⟩
      have M1 := MkS.set M0 KS.out hlt (show 0 < 4 by omega) (.int .i64 (o0 : Int))
      rw [Nat.add_zero] at M1
      have M1 := MkS.set M1 KS.out hlt (show 1 < 4 by omega) (.int .i64 (o1 : Int))
      have M1 := MkS.set M1 KS.out hlt (show 2 < 4 by omega) (.int .i64 (o2 : Int))
      have M1 := MkS.set M1 KS.out hlt (show 3 < 4 by omega) (.int .i64 (o3 : Int))
      rw [← HW1.out] at M1
      have KMk1 : Hid (∃ D, MkS W1 B 56 4 g n cap G D) := ⟨_, M1⟩
      have KTr1 : Hid (Trn w W1 F) := by show Trn _ _ _; rw [HW1.out]; exact ((((KO.out.2.trans (Trn.set _ (c * 4) _ HG.out)).trans (Trn.set _ (c * 4 + 1) _ HG.out)).trans (Trn.set _ (c * 4 + 2) _ HG.out)).trans (Trn.set _ (c * 4 + 3) _ HG.out))
      clear M1 M0 KO ho
      go_wp2
      rw [← HW1.out]
      go_roundw
      case rel => exact ⟨c + 1, o4, by omega, HN4.out, rfl, by go_num, KMk1.out, KTr1.out⟩
      case measure => simp [intOf]; omega
    · clear ho
      go_wp2
      go_ret
      exact ⟨o0, rfl, KO.out.2⟩
end Go.Proofs.Ytggmcgcmpgofcaa
