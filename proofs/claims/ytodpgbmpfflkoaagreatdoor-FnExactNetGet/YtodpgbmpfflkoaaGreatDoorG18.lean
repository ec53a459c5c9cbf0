/- The program's small functions over matrices: a side, the unit's numbers, reading a matrix, filling one by a function. Conditions: at most 2^20 rows and numbers a row, where a matrix is read. -/
import Derived.Test.YtodpgbmpfflkoaaGreatDoorG8
namespace Go.Proofs.YtodpgbmpfflkoaaGreatDoor
set_option maxRecDepth 2000
open Go.ChangeShapes Go.WideShapes Go.ChangeAt Go.RowKit

theorem Tryz.infoElems : (Tryz.prog.info? 220).map (fun i => (i.zero, i.size, i.bytes)) = some (some (.slice none 0 0), 1, 24) := by kernel_rfl
/-- A matrix of byte numbers of ours, as the program has them. -/
abbrev MatU (w : World) (B E : Nat) (a : Option Addr) (n cap : Nat) (A : Nat → Option Addr) (L C : Nat → Nat) (Z : Nat → Nat → Int) : Prop := MatZ .u8 174 220 w B E a n cap A L C Z
theorem teNe : (174 : Nat) ≠ 220 := by decide
def side (n : Int) : Bool := decide (1 ≤ n ∧ n ≤ 16)
theorem side_nat (n : Nat) : side (n : Int) = decide (1 ≤ n ∧ n ≤ 16) := by
  unfold side
  congr 1
  simp only [eq_iff_iff]
  omega
set_option maxHeartbeats 400000 in
theorem isSide_any (n : Int) (w : World) : Calls Tryz.prog 152 #[.int .i64 n] w fun e w' => e = .returned (.bool (side n)) ∧ w' = w := by
  go_enter Tryz.func152, Tryz.ntmps152
  go_wp2
  · go_ret
    exact ⟨ret_bool (by simp [side, *]), rfl⟩
  · go_ret
    exact ⟨ret_bool (by simp [side]; omega), rfl⟩
set_option maxHeartbeats 400000 in
theorem unitAt_any (i j : Nat) (w : World) : Calls Tryz.prog 154 #[.int .i64 (i : Int), .int .i64 (j : Int)] w fun e w' => e = .returned (.int .u8 ((Gm.dl i j : Nat) : Int)) ∧ w' = w := by
  by_cases h : i = j
  · subst h
    rw [Gm.dl_self]
    go_enter Tryz.func154, Tryz.ntmps154
    go_wp2
    go_ret
    exact ⟨rfl, rfl⟩
  · have h' : ((i : Int) == (j : Int)) = false := by simp; omega
    rw [Gm.dl_ne h]
    go_enter Tryz.func154, Tryz.ntmps154
    go_wp2
    go_ret
    exact ⟨rfl, rfl⟩
/-- What is asked of a function by which a matrix is filled. -/
def FillBy (g : Nat) (lb : Array Value) (r c : Nat) (F : Nat → Nat → Nat) (w : World) : Prop :=
  ∀ (W : World) (i j : Nat), Below w.heap.size w W → i < r → j < c → Calls Tryz.prog g (#[.int .i64 (i : Int), .int .i64 (j : Int)] ++ lb) W fun e w' => e = .returned (.int .u8 ((F i j : Nat) : Int)) ∧ Below W.heap.size W w'
theorem FillBy.below {g : Nat} {lb : Array Value} {r c : Nat} {F : Nat → Nat → Nat} {w w' : World} (h : FillBy g lb r c F w) (hb : Below w.heap.size w w') : FillBy g lb r c F w' := fun W i j hW hi hj => h W i j (below2 hb hW) hi hj
set_option maxHeartbeats 2000000 in
theorem filled_any (g : Nat) (lb : Array Value) (eg : ∀ args w, (callFunc g args).run Tryz.prog w = .ok (.enter g args) w) (r c : Nat) (F : Nat → Nat → Nat) (w : World) (hp : FillBy g lb r c F w) (hF : ∀ i j, F i j < 256) (hr : r ≤ 1048576) (hc : c ≤ 1048576) :
    Calls Tryz.prog 148 #[.int .i64 (r : Int), .int .i64 (c : Int), .func (.func g) #[] lb] w fun e w' => e = .returned (.slice (some ⟨w.heap.size, 0, none⟩) r r) ∧ (∃ A, MatI w' w.heap.size w'.heap.size (some ⟨w.heap.size, 0, none⟩) r r A (fun _ => c) (fun _ => c) (fun i j => ((F i j : Nat) : Int))) ∧ Below w.heap.size w w' := by
  obtain ⟨i0, hi, hz0, hz1, hz2⟩ := info_parts Tryz.infoInts
  obtain ⟨j0, hj, hy0, hy1, hy2⟩ := info_parts Tryz.infoInt
  go_enter Tryz.func148, Tryz.ntmps148
  go_wp2_with (at_make; refine wpList_make_full _ rfl _ _ 126 rfl w.heap.size 23 i0 (.slice none 0 0) 1 Tryz.underlying126 hi hz0 hz1 .i64 .i64 _ _ r rfl rfl rfl rfl (by rw [hz2]; omega) (by unfold maxLen; omega) (Nat.le_refl _) ?_; intro w1 hown hgrow)
  have hb1 : Below w.heap.size w w1 := (Below.refl _ _).grown hgrow (Nat.le_refl _) (by simp)
  have hlt1 := (World.ownsRow.lt hown _ rfl).2
  have ho1 : MatI w1 w.heap.size w1.heap.size (some ⟨w.heap.size, 0, none⟩) r r (fun _ => none) (fun i => if i < 0 then c else 0) (fun i => if i < 0 then c else 0) (fun i j => ((F i j : Nat) : Int)) :=
    (MatZ.made (by simpa [Value.cells, toList_madeCells_one] using hown) hlt1 _).congr (fun i _ => ⟨rfl, by simp, by simp, fun j hj => rfl⟩)
  have KO : Hid _ := ho1
  have KB : Hid (Below w.heap.size w w1) := hb1
  clear hown hgrow hlt1 ho1 hb1 hi hz0 hz1 hz2
  go_loopw [14] (fun i wr => ∃ k A, k ≤ r ∧ i = .int .i64 ((k : Nat) : Int) ∧ MatI wr w.heap.size wr.heap.size (some ⟨w.heap.size, 0, none⟩) r r A (fun i => if i < k then c else 0) (fun i => if i < k then c else 0) (fun i j => ((F i j : Nat) : Int)) ∧ (∀ i, k ≤ i → A i = none) ∧ Below w.heap.size w wr) (fun i _ => r - (intOf i).toNat)
  case atStart => exact ⟨0, _, Nat.zero_le _, rfl, KO.out, fun _ _ => rfl, KB.out⟩
  case round =>
    obtain ⟨k, A, hk, rfl, hown, hAn, hbel⟩ := hrel
    clear KO KB
    by_cases hlt : k < r
    · have hlti : (k : Int) < (r : Int) := by omega
      have KA : Hid _ := hAn
      have KM : Hid (MatI wr w.heap.size wr.heap.size (some ⟨w.heap.size, 0, none⟩) r r A (fun i => if i < k then c else 0) (fun i => if i < k then c else 0) (fun i j => ((F i j : Nat) : Int))) := hown
      have KB : Hid (Below w.heap.size w wr) := hbel
      have hsz := hbel.size
      have hGlt := hown.olt.2
      have hold0 := hown.hdr hlt
      have hfr0 := hown.ofree k
      simp only [Nat.lt_irrefl, if_false] at hold0
      clear hAn hown hbel
      go_wp2_with (at_make; refine wpList_make_full _ rfl _ _ 23 rfl wr.heap.size 3 j0 (.int .i64 0) 1 Tryz.underlying23 hj hy0 hy1 .i64 .i64 _ _ c rfl rfl rfl rfl (by rw [hy2]; omega) (by unfold maxLen; omega) (Nat.le_refl _) ?_; intro w2 hown2 hgrow2; have hb2 : Below wr.heap.size wr w2 := (Below.refl _ _).grown hgrow2 (Nat.le_refl _) (by simp); have hold2 := (hb2.cell (p := ⟨w.heap.size, k, none⟩) hGlt).trans hold0; have hfr2 := (World.frozen?_of_block (a := ⟨w.heap.size, k, none⟩) (hb2.block _ hGlt)).trans hfr0)
      have ho2 : w2.ownsRow wr.heap.size 3 1 (.slice (some ⟨wr.heap.size, 0, none⟩) c c) c ((zI (fun _ => 0) c).map (Value.int .i64)) := by
        rw [zI_const c 0 (fun _ _ => rfl)]
        simpa [Value.cells, toList_madeCells_one] using hown2
      have hSR := ((KM.out.below hb2).wide hb2.size).setRow tiNe hlt (own_base ho2 hsz) (World.ownsRow.lt ho2 _ rfl).2 (fun j hj _ x ex => by have := KM.out.rE j hj x ex; exact Nat.ne_of_lt this)
      obtain ⟨A', KA'⟩ : ∃ A', Hid (A' = fun i => if i = k then some ⟨wr.heap.size, 0, none⟩ else A i) := ⟨_, rfl⟩
      obtain ⟨g1, hg1⟩ : ∃ g1, wr.heap.size = g1 := ⟨_, rfl⟩
      rw [hg1] at hSR KA' ⊢
      obtain ⟨w3, hw3⟩ : ∃ w3, w2.setCell ⟨w.heap.size, k, none⟩ (.slice (some ⟨g1, 0, none⟩) c c) = w3 := ⟨_, rfl⟩
      rw [hw3] at hSR ⊢
      have hA'k : A' k = some ⟨g1, 0, none⟩ := by rw [KA'.out]; simp
      have KS : Hid (MatI w3 w.heap.size w3.heap.size (some ⟨w.heap.size, 0, none⟩) r r A' (fun i => if i < k + 1 then c else 0) (fun i => if i < k + 1 then c else 0) (fun i j => if i = k ∧ 0 ≤ j then 0 else ((F i j : Nat) : Int))) :=
        (hSR.1.wide hSR.2.size).congr (fun i _ => by
          rw [KA'.out]
          by_cases e : i = k
          · subst e; simp
          · by_cases e2 : i < k
            · simp [e, e2, show i < k + 1 by omega]
            · simp [e, e2, show ¬ i < k + 1 by omega])
      have KB2 : Hid (Below w.heap.size w w3) := by
        rw [← hw3]
        exact (below2 KB.out hb2).setCell (Nat.le_refl _) _
      clear hSR hw3 ho2 hown2 hgrow2 hb2 hold2 hfr2 hold0 hfr0 KM KB hGlt
      go_loopw [27] (fun j wr => ∃ q : Nat, q ≤ c ∧ j = .int .i64 (q : Int) ∧ MatI wr w.heap.size wr.heap.size (some ⟨w.heap.size, 0, none⟩) r r A' (fun i => if i < k + 1 then c else 0) (fun i => if i < k + 1 then c else 0) (fun i j => if i = k ∧ q ≤ j then 0 else ((F i j : Nat) : Int)) ∧ Below w.heap.size w wr) (fun j _ => c - (intOf j).toNat)
      case atStart => exact ⟨0, Nat.zero_le _, rfl, KS.out, KB2.out⟩
      case round =>
        obtain ⟨q, hq, rfl, hM, hbel⟩ := hrel
        clear KS KB2
        by_cases hqc : q < c
        · have hqci : (q : Int) < (c : Int) := by omega
          have hhd := hM.hdr hlt
          rw [hA'k] at hhd
          simp only [Nat.lt_succ_self, if_true] at hhd
          have hel := hM.elt (j := q) hlt hA'k (by simp only [Nat.lt_succ_self, if_true]; exact hqc)
          simp only [Nat.le_refl, and_self, if_true] at hel
          have hcall := hp wr.drew k q ⟨hbel.os, hbel.tape, hbel.output, hbel.size, hbel.block⟩ hlt hqc
          have hFkq := hF k q
          have hGl := hM.olt.2
          have hgl := (hM.glt hlt hA'k).2
          have KM : Hid (MatI wr w.heap.size wr.heap.size (some ⟨w.heap.size, 0, none⟩) r r A' (fun i => if i < k + 1 then c else 0) (fun i => if i < k + 1 then c else 0) (fun i j => if i = k ∧ q ≤ j then 0 else ((F i j : Nat) : Int))) := hM
          have KP : Hid (FillBy g lb r c F w) := hp
          have KF : Hid (∀ i j, F i j < 256) := hF
          have KB : Hid (Below w.heap.size w wr) := hbel
          have hfr := hM.free hlt hA'k q
          clear hM hp hF hbel
          generalize hX : F k q = X at hcall hFkq
          have KX : Hid (F k q = X) := hX
          clear hX
          go_wp2_with fail
          go_region_with ((go_at_fn g; refine Calls.mono hcall ?_; rintro e w5 ⟨rfl, hb5'⟩; have hb5 := below_of_drew hb5'; clear hb5'; have hhd5 := (hb5.cell (p := ⟨w.heap.size, k, none⟩) hGl).trans hhd; have hel5 := (hb5.cell (p := ⟨g1, q, none⟩) hgl).trans hel; have hfr5 := (World.frozen?_of_block (a := ⟨g1, q, none⟩) (hb5.block _ hgl)).trans hfr))
          all_goals
            have hwx : IntKind.i64.wrap (X : Int) = (X : Int) := by rw [IntKind.wrap_i64]; omega
            rw [hwx]
            have hSE := ((KM.out.below hb5).wide hb5.size).setElt tiNe (j := q) hlt hA'k (by simp only [Nat.lt_succ_self, if_true]; exact hqc) (X : Int)
            have HS : Hid (MatI (w5.setCell ⟨g1, q, none⟩ (.int .i64 (X : Int))) w.heap.size (w5.setCell ⟨g1, q, none⟩ (.int .i64 (X : Int))).heap.size (some ⟨w.heap.size, 0, none⟩) r r A' (fun i => if i < k + 1 then c else 0) (fun i => if i < k + 1 then c else 0) (fun i j => if i = k ∧ q + 1 ≤ j then 0 else ((F i j : Nat) : Int))) :=
              (hSE.1.wide hSE.2.size).congr (fun i _ => ⟨rfl, rfl, rfl, fun j _ => by
                by_cases e : i = k
                · subst e
                  by_cases e2 : j = q
                  · subst e2
                    rw [if_pos ⟨rfl, rfl⟩, if_neg (by omega), KX.out]
                  · rw [if_neg (by omega)]
                    by_cases e3 : q ≤ j
                    · rw [if_pos ⟨rfl, e3⟩, if_pos ⟨rfl, by omega⟩]
                    · rw [if_neg (by omega), if_neg (by omega)]
                · rw [if_neg (by omega), if_neg (by omega), if_neg (by omega)]⟩)
            have HB : Hid (Below w.heap.size w (w5.setCell ⟨g1, q, none⟩ (.int .i64 (X : Int)))) := (below2 KB.out hb5).setCell (show w.heap.size ≤ g1 by omega) _
            clear hSE hcall
            go_wp2
            go_roundw
            case rel => exact ⟨q + 1, by omega, by go_num, HS.out, HB.out⟩
            case measure => simp [intOf] <;> omega
        · obtain rfl : q = c := by omega
          have KM : Hid (MatI wr w.heap.size wr.heap.size (some ⟨w.heap.size, 0, none⟩) r r A' (fun i => if i < k + 1 then q else 0) (fun i => if i < k + 1 then q else 0) (fun i j => if i = k ∧ q ≤ j then 0 else ((F i j : Nat) : Int))) := hM
          have KP : Hid (FillBy g lb r q F w) := hp
          clear hM hp
          go_wp2
          go_roundw
          case rel => exact ⟨k + 1, A', by omega, by go_num, KM.out.congr (fun i hi => ⟨rfl, rfl, rfl, fun j hj => by
            rw [if_neg]
            intro h
            by_cases e : i < k + 1
            · rw [if_pos e] at hj; omega
            · omega⟩), fun i hi => by rw [KA'.out]; simp [show i ≠ k by omega, KA.out i (by omega)], hbel⟩
          case measure => simp [intOf] <;> omega
    · obtain rfl : k = r := by omega
      have KM : Hid _ := hown
      clear hown hAn hp
      go_wp2
      go_ret
      exact ⟨rfl, ⟨A, KM.out.congr (fun i hi => ⟨rfl, if_pos hi, if_pos hi, fun j _ => rfl⟩)⟩, hbel⟩
end Go.Proofs.YtodpgbmpfflkoaaGreatDoor
/- The program reads a matrix: what it is when it is one, and that it is none. Conditions: at most 2^20 rows, at most 2^20 numbers a row. -/
namespace Go.Proofs.YtodpgbmpfflkoaaGreatDoor
set_option maxRecDepth 2000
open Go.ChangeShapes Go.WideShapes Go.ChangeAt Go.RowKit

/-- It is a matrix. -/
def OkM (n : Nat) (L : Nat → Nat) (Z : Nat → Nat → Int) : Prop := 1 ≤ n ∧ n ≤ 16 ∧ 1 ≤ L 0 ∧ L 0 ≤ 16 ∧ ∀ i, i < n → L i = L 0 ∧ ∀ j, j < L 0 → isB (Z i j) = true
/-- Its numbers. -/
def cZ (Z : Nat → Nat → Int) (i j : Nat) : Nat := (Z i j).toNat
theorem readE_z (z : Nat → Int) (n : Nat) {w : World} {B g : Nat} (h : OwnU w B g n n (coP (zI z n))) : w.ownsRow B 174 1 (.slice (some ⟨g, 0, none⟩) n n) n ((zI (fun j => (((z j).toNat : Nat) : Int)) n).map (Value.int .u8)) := by
  unfold OwnU at h
  rw [eI_zI, zI_congr (g := fun j => (((z j).toNat : Nat) : Int)) (fun j hj => by unfold coP; rw [zI_getD z n j hj])] at h
  exact h
set_option maxHeartbeats 2000000 in
theorem readM_yes (a : Option Addr) (n cap : Nat) (L : Nat → Nat) (Z : Nat → Nat → Int) (w : World) (h : MatAt w a n L Z) (ok : OkM n L Z) :
    Calls Tryz.prog 147 #[.slice a n cap] w fun e w' => e = .returned (.tuple #[.slice (some ⟨w.heap.size, 0, none⟩) n n, .bool true]) ∧ (∃ g : Nat → Nat, MatU w' w.heap.size w'.heap.size (some ⟨w.heap.size, 0, none⟩) n n (fun i => some ⟨g i, 0, none⟩) (fun _ => L 0) (fun _ => L 0) (fun i j => ((cZ Z i j : Nat) : Int))) ∧ Below w.heap.size w w' := by
  obtain ⟨i0, hi, hz0, hz1, hz2⟩ := info_parts Tryz.infoElems
  obtain ⟨hn1, hn2, hl1, hl2, hall⟩ := ok
  obtain ⟨b0, off0, ai0, ci0, e0, hc0, _⟩ := h 0 (by omega)
  subst e0
  rw [Nat.add_zero] at hc0
  obtain ⟨l, hl⟩ : ∃ l, L 0 = l := ⟨_, rfl⟩
  rw [hl] at hc0 hl1 hl2 hall ⊢
  have hs1 : side (n : Int) = true := by rw [side_nat]; simp; omega
  have hs2 : side (l : Int) = true := by rw [side_nat]; simp; omega
  have hn1' : (1 : Int) ≤ (n : Int) := by omega
  have hb0 := block_lt_of_cell hc0
  have KH : Hid (MatAt w (some ⟨b0, off0, none⟩) n L Z) := h
  have KA : Hid _ := hall
  clear h hall hl
  go_enter Tryz.func147, Tryz.ntmps147
  go_wp2_with (first | (go_at_call 152; refine (isSide_any _ _).mono ?_; rintro e w' ⟨rfl, hw⟩; obtain rfl := hw.symm) | (at_make; refine wpList_make_full _ rfl _ _ 217 rfl w.heap.size 220 i0 (.slice none 0 0) 1 Tryz.underlying217 hi hz0 hz1 .i64 .i64 _ _ n rfl rfl rfl rfl (by rw [hz2]; omega) (by unfold maxLen; omega) (Nat.le_refl _) ?_; intro w1 hown hgrow))
  have hb1 : Below w.heap.size w w1 := (Below.refl _ _).grown hgrow (Nat.le_refl _) (by simp)
  have hlt1 := (World.ownsRow.lt hown _ rfl).2
  have KO : Hid (MatU w1 w.heap.size w1.heap.size (some ⟨w.heap.size, 0, none⟩) n n (fun i => if i < 0 then some ⟨0, 0, none⟩ else none) (fun i => if i < 0 then l else 0) (fun i => if i < 0 then l else 0) (fun i j => ((cZ Z i j : Nat) : Int))) :=
    (MatZ.made (by simpa [Value.cells, toList_madeCells_one] using hown) hlt1 _).congr (fun i _ => ⟨by simp, by simp, by simp, fun j hj => rfl⟩)
  have KB : Hid (Below w.heap.size w w1) := hb1
  clear hown hgrow hlt1 hb1 hi hz0 hz1 hz2
  go_loopw [26] (fun i wr => ∃ (k : Nat) (g : Nat → Nat), k ≤ n ∧ i = .int .i64 ((k : Nat) : Int) ∧ MatU wr w.heap.size wr.heap.size (some ⟨w.heap.size, 0, none⟩) n n (fun i => if i < k then some ⟨g i, 0, none⟩ else none) (fun i => if i < k then l else 0) (fun i => if i < k then l else 0) (fun i j => ((cZ Z i j : Nat) : Int)) ∧ Below w.heap.size w wr) (fun i _ => n - (intOf i).toNat)
  case atStart => exact ⟨0, fun _ => 0, Nat.zero_le _, rfl, KO.out, KB.out⟩
  case round =>
    obtain ⟨k, g, hk, rfl, hown, hbel⟩ := hrel
    clear KO KB
    by_cases hlt : k < n
    · have hlti : (k : Int) < (n : Int) := by omega
      obtain ⟨b, off, ai, ci, eb, hc, hr⟩ := KH.out.below hbel k hlt
      cases eb
      have hLk := (KA.out k hlt).1
      have hBk := (KA.out k hlt).2
      rw [hLk] at hc hr
      have hc0' := (hbel.cell (p := ⟨b0, off0, none⟩) hb0).trans hc0
      have hrd := readE_yes ai l ci (zI (Z k) l) wr hr (by omega) (fun i hi => by rw [zI_getD _ _ _ hi]; exact hBk i hi)
      have KM : Hid (MatU wr w.heap.size wr.heap.size (some ⟨w.heap.size, 0, none⟩) n n (fun i => if i < k then some ⟨g i, 0, none⟩ else none) (fun i => if i < k then l else 0) (fun i => if i < k then l else 0) (fun i j => ((cZ Z i j : Nat) : Int))) := hown
      have KR : Hid _ := hrd
      have KB : Hid (Below w.heap.size w wr) := hbel
      clear hown hrd hBk hr hLk hc0
      go_wp2_with fail
      refine Calls.mono KR.out ?_
      rintro e w2 ⟨rfl, ho2, hb2⟩
      have hM := (KM.out.below hb2).wide hb2.size
      have hold := hM.hdr hlt
      have hfr := hM.ofree k
      simp only [Nat.lt_irrefl, if_false] at hold
      have hsz := hbel.size
      have hSR := hM.setRow teNe hlt (own_base (readE_z (Z k) l ho2) hsz) (OwnU.lt ho2).2 (fun j hj _ x ex => by have := KM.out.rE j hj x ex; exact Nat.ne_of_lt this)
      have HS : Hid (MatU (w2.setCell ⟨w.heap.size, k, none⟩ (.slice (some ⟨wr.heap.size, 0, none⟩) l l)) w.heap.size (w2.setCell ⟨w.heap.size, k, none⟩ (.slice (some ⟨wr.heap.size, 0, none⟩) l l)).heap.size (some ⟨w.heap.size, 0, none⟩) n n (fun i => if i < k + 1 then some ⟨(fun i => if i = k then wr.heap.size else g i) i, 0, none⟩ else none) (fun i => if i < k + 1 then l else 0) (fun i => if i < k + 1 then l else 0) (fun i j => ((cZ Z i j : Nat) : Int))) :=
        (hSR.1.wide hSR.2.size).congr (fun i _ => by
          by_cases e : i = k
          · subst e; simp [cZ]
          · by_cases e2 : i < k
            · simp [e, e2, show i < k + 1 by omega]
            · simp [e, e2, show ¬ i < k + 1 by omega])
      have HB : Hid (Below w.heap.size w (w2.setCell ⟨w.heap.size, k, none⟩ (.slice (some ⟨wr.heap.size, 0, none⟩) l l))) := (below2 KB.out hb2).setCell (Nat.le_refl _) _
      clear hM ho2 hb2 hbel hSR KM KR
      go_wp2
      go_roundw
      case rel => exact ⟨k + 1, _, by omega, by go_num, HS.out, HB.out⟩
      case measure => simp [intOf] <;> omega
    · obtain rfl : k = n := by omega
      have KM : Hid (MatU wr w.heap.size wr.heap.size (some ⟨w.heap.size, 0, none⟩) k k (fun i => if i < k then some ⟨g i, 0, none⟩ else none) (fun i => if i < k then l else 0) (fun i => if i < k then l else 0) (fun i j => ((cZ Z i j : Nat) : Int))) := hown
      clear hown
      go_wp2
      go_ret2
      exact ⟨rfl, ⟨g, KM.out.congr (fun i hi => ⟨if_pos hi, if_pos hi, if_pos hi, fun j _ => rfl⟩)⟩, hbel⟩
end Go.Proofs.YtodpgbmpfflkoaaGreatDoor
/- The program reads what is no matrix; whether it is one. Conditions: at most 2^20 rows, at most 2^20 numbers a row. -/
namespace Go.Proofs.YtodpgbmpfflkoaaGreatDoor
set_option maxRecDepth 2000
open Go.ChangeShapes Go.WideShapes Go.ChangeAt Go.RowKit

theorem OkM.not {n : Nat} {L : Nat → Nat} {Z : Nat → Nat → Int} (h : ¬ OkM n L Z) (h1 : 1 ≤ n) (h2 : n ≤ 16) (h3 : 1 ≤ L 0) (h4 : L 0 ≤ 16) : ∃ q, q < n ∧ ¬ (L q = L 0 ∧ ∀ j, j < L 0 → isB (Z q j) = true) := by
  refine Classical.byContradiction fun hno => h ⟨h1, h2, h3, h4, fun i hi => ?_⟩
  exact Classical.byContradiction fun hc => hno ⟨i, hi, hc⟩
set_option maxHeartbeats 2000000 in
theorem readM_no (a : Option Addr) (n cap : Nat) (L : Nat → Nat) (Z : Nat → Nat → Int) (w : World) (h : MatAt w a n L Z) (hL : ∀ i, i < n → L i ≤ 1048576) (ok : ¬ OkM n L Z) :
    Calls Tryz.prog 147 #[.slice a n cap] w fun e w' => e = .returned (.tuple #[.slice none 0 0, .bool false]) ∧ Below w.heap.size w w' := by
  obtain ⟨i0, hi, hz0, hz1, hz2⟩ := info_parts Tryz.infoElems
  by_cases hn : 1 ≤ n ∧ n ≤ 16
  · obtain ⟨hn1, hn2⟩ := hn
    obtain ⟨b0, off0, ai0, ci0, e0, hc0, _⟩ := h 0 (by omega)
    subst e0
    rw [Nat.add_zero] at hc0
    have hs1 : side (n : Int) = true := by rw [side_nat]; simp; omega
    have hn1' : (1 : Int) ≤ (n : Int) := by omega
    have hb0 := block_lt_of_cell hc0
    by_cases hl : 1 ≤ L 0 ∧ L 0 ≤ 16
    · obtain ⟨hl1, hl2⟩ := hl
      obtain ⟨q, hq, hbad⟩ := OkM.not ok hn1 hn2 hl1 hl2
      obtain ⟨l, hl⟩ : ∃ l, L 0 = l := ⟨_, rfl⟩
      rw [hl] at hc0 hl1 hl2 hbad
      have hs2 : side (l : Int) = true := by rw [side_nat]; simp; omega
      have KH : Hid (MatAt w (some ⟨b0, off0, none⟩) n L Z) := h
      have KL : Hid _ := hL
      have KB : Hid _ := hbad
      clear h hl hL hbad ok
      go_enter Tryz.func147, Tryz.ntmps147
      go_wp2_with (first | (go_at_call 152; refine (isSide_any _ _).mono ?_; rintro e w' ⟨rfl, hw⟩; obtain rfl := hw.symm) | (at_make; refine wpList_make_full _ rfl _ _ 217 rfl w.heap.size 220 i0 (.slice none 0 0) 1 Tryz.underlying217 hi hz0 hz1 .i64 .i64 _ _ n rfl rfl rfl rfl (by rw [hz2]; omega) (by unfold maxLen; omega) (Nat.le_refl _) ?_; intro w1 hown hgrow))
      have hb1 : Below w.heap.size w w1 := (Below.refl _ _).grown hgrow (Nat.le_refl _) (by simp)
      clear hgrow hi hz0 hz1 hz2
      go_loopw [26] (fun i wr => ∃ (k : Nat) (vs : List Value), k ≤ q ∧ i = .int .i64 ((k : Nat) : Int) ∧ wr.ownsRow w.heap.size 220 1 (.slice (some ⟨w.heap.size, 0, none⟩) n n) n vs ∧ Below w.heap.size w wr) (fun i _ => n - (intOf i).toNat)
      case atStart => exact ⟨0, _, Nat.zero_le _, rfl, hown, hb1⟩
      case round =>
        obtain ⟨k, vs, hk, rfl, hown', hbel⟩ := hrel
        clear hown hb1
        have hlt : k < n := by omega
        have hlti : (k : Int) < (n : Int) := by omega
        obtain ⟨b, off, ai, ci, eb, hc, hr⟩ := KH.out.below hbel k hlt
        cases eb
        have hc0' := (hbel.cell (p := ⟨b0, off0, none⟩) hb0).trans hc0
        have hLk := KL.out k hlt
        clear hc0
        by_cases hkl : L k = l
        · rw [hkl] at hc hr
          by_cases hB : ∀ j, j < l → isB (Z k j) = true
          · have hkq : k ≠ q := fun e => KB.out (by rw [← e]; exact ⟨hkl, hB⟩)
            have hrd := readE_yes ai l ci (zI (Z k) l) wr hr (by omega) (fun i hi => by rw [zI_getD _ _ _ hi]; exact hB i hi)
            obtain ⟨old, hold⟩ : ∃ v, wr.cell? ⟨w.heap.size, k, none⟩ = some v := by
              rw [hown'.cellAt k (by omega)]
              exact ⟨_, List.getElem?_eq_getElem (by rw [hown'.1]; omega)⟩
            have hfr := hown'.frozenAt k
            have hGlt := (hown'.lt _ rfl).2
            have KR : Hid _ := hrd
            have KW : Hid _ := hown'
            have KE : Hid (Below w.heap.size w wr) := hbel
            clear hrd hB hr hown' hbel
            go_wp2_with fail
            refine Calls.mono KR.out ?_
            rintro e w2 ⟨rfl, _, hb2⟩
            have hold2 := (hb2.cell (p := ⟨w.heap.size, k, none⟩) hGlt).trans hold
            have hfr2 := (World.frozen?_of_block (a := ⟨w.heap.size, k, none⟩) (hb2.block _ hGlt)).trans hfr
            have HS : Hid _ := ((ownsRow_below KW.out hb2).stored k (.slice (some ⟨wr.heap.size, 0, none⟩) l l)).1
            have HB : Hid (Below w.heap.size w (w2.setCell ⟨w.heap.size, k, none⟩ (.slice (some ⟨wr.heap.size, 0, none⟩) l l))) := (below2 KE.out hb2).setCell (Nat.le_refl _) _
            clear hb2 hold hfr KR KW
            go_wp2
            go_roundw
            case rel => exact ⟨k + 1, _, by omega, by go_num, HS.out, HB.out⟩
            case measure => simp [intOf] <;> omega
          · have hrd := readE_no ai l ci (zI (Z k) l) wr hr (by omega) (by
              refine Classical.byContradiction fun hno => hB fun j hj => ?_
              refine Classical.byContradiction fun hc => hno ⟨j, hj, ?_⟩
              rw [zI_getD _ _ _ hj]
              simpa using hc)
            have KR : Hid _ := hrd
            have KE : Hid (Below w.heap.size w wr) := hbel
            clear hrd hB hr hown' hbel
            go_wp2_with fail
            refine Calls.mono KR.out ?_
            rintro e w2 ⟨rfl, hb2⟩
            go_wp2
            go_ret2
            exact ⟨rfl, below2 KE.out hb2⟩
        · have hne : ((L k : Int) != (l : Int)) = true := by simp; omega
          generalize L k = lk at hc hne
          clear hown' hr
          go_wp2
          go_ret2
          exact ⟨rfl, hbel⟩
    · have hs2 : side (L 0 : Int) = false := by rw [side_nat]; simp; omega
      clear h hL ok hl
      generalize L 0 = l at hc0 hs2
      go_enter Tryz.func147, Tryz.ntmps147
      go_wp2_with (go_at_call 152; refine (isSide_any _ _).mono ?_; rintro e w' ⟨rfl, hw⟩; obtain rfl := hw.symm)
      go_ret2
      exact ⟨rfl, Below.refl _ _⟩
  · have hs1 : side (n : Int) = false := by rw [side_nat]; simp; omega
    clear h hL ok
    go_enter Tryz.func147, Tryz.ntmps147
    go_wp2_with (go_at_call 152; refine (isSide_any _ _).mono ?_; rintro e w' ⟨rfl, hw⟩; obtain rfl := hw.symm)
    go_ret2
    exact ⟨rfl, Below.refl _ _⟩
/-- Whether it is a matrix. -/
noncomputable def okM (n : Nat) (L : Nat → Nat) (Z : Nat → Nat → Int) : Bool := @decide (OkM n L Z) (Classical.propDecidable _)
theorem okM_yes {n : Nat} {L : Nat → Nat} {Z : Nat → Nat → Int} (h : OkM n L Z) : okM n L Z = true := by unfold okM; exact @decide_eq_true _ (Classical.propDecidable _) h
theorem okM_no {n : Nat} {L : Nat → Nat} {Z : Nat → Nat → Int} (h : ¬ OkM n L Z) : okM n L Z = false := by unfold okM; exact @decide_eq_false _ (Classical.propDecidable _) h
end Go.Proofs.YtodpgbmpfflkoaaGreatDoor
/- The program's functions that answer with a matrix made by a function of the place: the unit, a spread, a matrix turned. Conditions: at most 2^20 rows, at most 2^20 numbers a row, where a matrix is read. -/
namespace Go.Proofs.YtodpgbmpfflkoaaGreatDoor
set_option maxRecDepth 2000
open Go.ChangeShapes Go.WideShapes Go.ChangeAt Go.RowKit

/-- A matrix that was answered, in new memory. -/
def ResM (w w' : World) (v : Value) (r c : Nat) (F : Nat → Nat → Nat) : Prop := ∃ a cap A C, v = .slice a r cap ∧ MatI w' w.heap.size w'.heap.size a r cap A (fun _ => c) C (fun i j => ((F i j : Nat) : Int))
theorem ResM.none (w w' : World) (c : Nat) (F : Nat → Nat → Nat) : ResM w w' (.slice none 0 0) 0 c F := ⟨_, _, fun _ => .none, fun _ => 0, rfl, MatZ.nil _ _ _ _ _ _ _ _ _ _⟩
theorem ResM.mk {w w' : World} {a : Option Addr} {r cap c : Nat} {A : Nat → Option Addr} {C : Nat → Nat} {F : Nat → Nat → Nat} {B : Nat} (h : MatI w' B w'.heap.size a r cap A (fun _ => c) C (fun i j => ((F i j : Nat) : Int))) (hB : w.heap.size ≤ B) : ResM w w' (.slice a r cap) r c F :=
  ⟨a, cap, A, C, rfl, ⟨own_base h.out hB, h.oE, fun i hi => own_base (h.row i hi) hB, h.rE, h.apart⟩⟩

set_option maxHeartbeats 1000000 in
theorem spread1_any (kb k i j : Nat) (w : World) (hk : w.cell? ⟨kb, 0, none⟩ = some (.int .i64 (k : Int))) (hi : i < 256) (hj : j < 256) :
    Calls Tryz.prog 153 #[.int .i64 (i : Int), .int .i64 (j : Int), .pointer (some ⟨kb, 0, none⟩)] w fun e w' => e = .returned (.int .u8 ((Gm.sprd k i j : Nat) : Int)) ∧ Below w.heap.size w w' := by
  by_cases h : i < k
  · have h' : (i : Int) < (k : Int) := by omega
    have HS : Hid (Gm.sprd k i j = Gm.dl i j) := by show _ = _; unfold Gm.sprd; rw [if_pos h]
    go_enter Tryz.func153, Tryz.ntmps153
    go_wp2_with (go_at_call 154; refine (unitAt_any i j _).mono ?_; rintro e w' ⟨rfl, hw⟩; obtain rfl := hw.symm)
    go_ret
    exact ⟨by rw [HS.out] <;> rfl, Below.refl _ _⟩
  · have h' : ¬ (i : Int) < (k : Int) := by omega
    have HS : Hid (Gm.sprd k i j = Gf.inv (i ^^^ j)) := by show _ = _; unfold Gm.sprd; rw [if_neg h]
    have hx := Gf.xor_lt hi hj
    go_enter Tryz.func153, Tryz.ntmps153
    go_wp2_with (first | (go_at_call 110; refine (plus_any i j _ hi hj).mono ?_; rintro e w' ⟨rfl, hw⟩; obtain rfl := hw.symm) | (go_at_call 155; refine (inverse_any (i ^^^ j) _ hx).mono ?_; rintro e w2 ⟨rfl, hb2⟩))
    go_ret
    exact ⟨by rw [HS.out] <;> rfl, hb2⟩
theorem spreadEnter : ∀ args w, (callFunc 153 args).run Tryz.prog w = .ok (.enter 153 args) w := enters_of Tryz.func153 (by kernel_rfl) rfl
theorem spreadFill (kb k r c : Nat) (w : World) (hk : w.cell? ⟨kb, 0, none⟩ = some (.int .i64 (k : Int))) (hr : r ≤ 256) (hc : c ≤ 256) : FillBy 153 #[.pointer (some ⟨kb, 0, none⟩)] r c (Gm.sprd k) w := fun W i j hb hi hj =>
  spread1_any kb k i j W ((hb.cell (p := ⟨kb, 0, none⟩) (block_lt_of_cell hk)).trans hk) (by omega) (by omega)
theorem boxed (w : World) (v : Value) (t : TypeId) : (w.alloc (.cells #[v] t)).cell? ⟨w.heap.size, 0, none⟩ = some v := cell_of_one (heap_alloc_new w _)
def sprOk (k n : Int) : Bool := side n && decide (1 ≤ k ∧ k ≤ n)
def sprR (k n : Int) : Nat := if sprOk k n = true then n.toNat else 0
set_option maxHeartbeats 1000000 in
theorem spread_any (k n : Int) (w : World) : Calls Tryz.prog 106 #[.int .i64 k, .int .i64 n] w fun e w' => ∃ v, e = .returned (.tuple #[v, .bool (sprOk k n)]) ∧ ResM w w' v (sprR k n) k.toNat (Gm.sprd k.toNat) ∧ Below w.heap.size w w' := by
  have hbx := boxed w (.int .i64 k) 3
  have hb1 : Below w.heap.size w (w.alloc (.cells #[.int .i64 k] 3)) := (Below.refl _ _).alloc (Nat.le_refl _) _
  have hsz : (w.alloc (.cells #[.int .i64 k] 3)).heap.size = w.heap.size + 1 := by simp
  by_cases h1 : side n = true
  · by_cases h2 : 1 ≤ k
    · by_cases h3 : k ≤ n
      · have hr : 1 ≤ n ∧ n ≤ 16 := by simpa [side] using h1
        have hok : sprOk k n = true := by unfold sprOk; rw [h1]; simp; omega
        obtain ⟨N, rfl⟩ : ∃ N : Nat, n = (N : Int) := ⟨n.toNat, by omega⟩
        obtain ⟨K, rfl⟩ : ∃ K : Nat, k = (K : Int) := ⟨k.toNat, by omega⟩
        have hN : sprR (K : Int) (N : Int) = N := by unfold sprR; rw [if_pos hok]; simp
        rw [hN, hok, Int.toNat_natCast]
        have KF : Hid _ := filled_any 153 #[.pointer (some ⟨w.heap.size, 0, none⟩)] spreadEnter N K (Gm.sprd K) _ (spreadFill w.heap.size K N K _ hbx (by omega) (by omega)) (Gm.sprd_byt K) (by omega) (by omega)
        have h2' : ¬ (K : Int) < 1 := by omega
        have h3' : ¬ (K : Int) > (N : Int) := by omega
        obtain ⟨w1, hw1⟩ : ∃ w1, w.alloc (.cells #[.int .i64 (K : Int)] 3) = w1 := ⟨_, rfl⟩
        have KW : Hid (w.alloc (.cells #[.int .i64 (K : Int)] 3) = w1) := hw1
        rw [hw1] at KF hb1 hbx
        clear hw1 hN hok hsz
        go_enter Tryz.func106, Tryz.ntmps106
        go_wp2_with fail
        rw [KW.out]
        refine (isSide_any _ _).mono ?_
        rintro e w' ⟨rfl, hw⟩
        obtain rfl := hw.symm
        go_wp2_with fail
        refine Calls.mono KF.out ?_
        rintro e w2 ⟨rfl, ⟨A, hM⟩, hb2⟩
        have KM : Hid _ := hM
        clear hM
        go_wp2
        go_ret2
        exact ⟨_, rfl, ResM.mk KM.out hb1.size, below2 hb1 hb2⟩
      · have hok : sprOk k n = false := by unfold sprOk; simp [h3]
        have hN : sprR k n = 0 := by unfold sprR; rw [if_neg (by rw [hok]; simp)]
        rw [hN, hok]
        have h2' : ¬ k < 1 := by omega
        have h3' : k > n := by omega
        clear hok hN
        go_enter Tryz.func106, Tryz.ntmps106
        go_wp2_with fail
        refine (isSide_any _ _).mono ?_
        rintro e w' ⟨rfl, hw⟩
        obtain rfl := hw.symm
        go_wp2
        go_ret2
        exact ⟨_, rfl, ResM.none _ _ _ _, hb1⟩
    · have hok : sprOk k n = false := by unfold sprOk; simp [h2]
      have hN : sprR k n = 0 := by unfold sprR; rw [if_neg (by rw [hok]; simp)]
      rw [hN, hok]
      have h2' : k < 1 := by omega
      clear hok hN
      go_enter Tryz.func106, Tryz.ntmps106
      go_wp2_with fail
      refine (isSide_any _ _).mono ?_
      rintro e w' ⟨rfl, hw⟩
      obtain rfl := hw.symm
      go_wp2
      go_ret2
      exact ⟨_, rfl, ResM.none _ _ _ _, hb1⟩
  · have h1' : side n = false := by simpa using h1
    have hok : sprOk k n = false := by unfold sprOk; simp [h1']
    have hN : sprR k n = 0 := by unfold sprR; rw [if_neg (by rw [hok]; simp)]
    rw [hN, hok]
    clear hok hN
    go_enter Tryz.func106, Tryz.ntmps106
    go_wp2_with fail
    refine (isSide_any _ _).mono ?_
    rintro e w' ⟨rfl, hw⟩
    obtain rfl := hw.symm
    go_wp2
    go_ret2
    exact ⟨_, rfl, ResM.none _ _ _ _, hb1⟩
end Go.Proofs.YtodpgbmpfflkoaaGreatDoor
/- The program's functions that answer with a matrix made of others: turned, rows picked out, a product. Conditions: at most 2^20 rows, at most 2^20 numbers a row. -/
namespace Go.Proofs.YtodpgbmpfflkoaaGreatDoor
set_option maxRecDepth 2000
open Go.ChangeShapes Go.WideShapes Go.ChangeAt Go.RowKit

/-- A variable that holds a matrix of byte numbers. -/
def RdU (w : World) (pb r c : Nat) (F : Nat → Nat → Nat) : Prop :=
  ∃ G cap, w.cell? ⟨pb, 0, none⟩ = some (.slice (some ⟨G, 0, none⟩) r cap) ∧ ∀ i, i < r → ∃ g cc, w.cell? ⟨G, i, none⟩ = some (.slice (some ⟨g, 0, none⟩) c cc) ∧ ∀ j, j < c → w.cell? ⟨g, j, none⟩ = some (.int .u8 ((F i j : Nat) : Int))
theorem RdU.below {w w' : World} {pb r c : Nat} {F : Nat → Nat → Nat} (h : RdU w pb r c F) (hb : Below w.heap.size w w') : RdU w' pb r c F := by
  obtain ⟨G, cap, hp, hr⟩ := h
  refine ⟨G, cap, (hb.cell (p := ⟨pb, 0, none⟩) (block_lt_of_cell hp)).trans hp, fun i hi => ?_⟩
  obtain ⟨g, cc, hc, he⟩ := hr i hi
  exact ⟨g, cc, (hb.cell (p := ⟨G, i, none⟩) (block_lt_of_cell hc)).trans hc, fun j hj => (hb.cell (p := ⟨g, j, none⟩) (block_lt_of_cell (he j hj))).trans (he j hj)⟩
theorem MatU.rd {w w' : World} {B E G r cap c pb : Nat} {g : Nat → Nat} {C : Nat → Nat} {F : Nat → Nat → Nat} (h : MatU w B E (some ⟨G, 0, none⟩) r cap (fun i => some ⟨g i, 0, none⟩) (fun _ => c) C (fun i j => ((F i j : Nat) : Int))) (hb : Below w.heap.size w w') (hp : w'.cell? ⟨pb, 0, none⟩ = some (.slice (some ⟨G, 0, none⟩) r cap)) : RdU w' pb r c F := by
  have h' := h.below hb
  exact ⟨G, cap, hp, fun i hi => ⟨g i, C i, h'.hdr hi, fun j hj => h'.elt hi rfl hj⟩⟩
theorem cZ_byt {n : Nat} {L : Nat → Nat} {Z : Nat → Nat → Int} (ok : OkM n L Z) : ∀ i j, i < n → j < L 0 → cZ Z i j < 256 := fun i j hi hj => by
  obtain ⟨X, hX, e⟩ := isB_nat ((ok.2.2.2.2 i hi).2 j hj)
  unfold cZ
  rw [e]
  simpa using hX
/-- The numbers of a matrix, 0 beyond it. -/
def bZ (n : Nat) (L : Nat → Nat) (Z : Nat → Nat → Int) (i j : Nat) : Nat := if i < n ∧ j < L 0 then cZ Z i j % 256 else 0
theorem bZ_byt (n : Nat) (L : Nat → Nat) (Z : Nat → Nat → Int) : Gm.Byt (bZ n L Z) := fun i j => by unfold bZ; split <;> omega
theorem bZ_eq {n : Nat} {L : Nat → Nat} {Z : Nat → Nat → Int} (ok : OkM n L Z) {i j : Nat} (hi : i < n) (hj : j < L 0) : bZ n L Z i j = cZ Z i j := by
  unfold bZ
  rw [if_pos ⟨hi, hj⟩, Nat.mod_eq_of_lt (cZ_byt ok i j hi hj)]
/-- Reading, with its numbers as byte numbers. -/
theorem readM_b (a : Option Addr) (n cap : Nat) (L : Nat → Nat) (Z : Nat → Nat → Int) (w : World) (h : MatAt w a n L Z) (ok : OkM n L Z) :
    Calls Tryz.prog 147 #[.slice a n cap] w fun e w' => e = .returned (.tuple #[.slice (some ⟨w.heap.size, 0, none⟩) n n, .bool true]) ∧ (∃ g : Nat → Nat, MatU w' w.heap.size w'.heap.size (some ⟨w.heap.size, 0, none⟩) n n (fun i => some ⟨g i, 0, none⟩) (fun _ => L 0) (fun _ => L 0) (fun i j => ((bZ n L Z i j : Nat) : Int))) ∧ Below w.heap.size w w' := by
  refine Calls.mono (readM_yes a n cap L Z w h ok) ?_
  rintro e w' ⟨rfl, ⟨g, hM⟩, hb⟩
  exact ⟨rfl, ⟨g, hM.congr (fun i hi => ⟨rfl, rfl, rfl, fun j hj => by rw [bZ_eq ok hi hj]⟩)⟩, hb⟩
end Go.Proofs.YtodpgbmpfflkoaaGreatDoor
/- The program's product of matrices. Conditions: at most 2^20 rows, at most 2^20 numbers a row. -/
namespace Go.Proofs.YtodpgbmpfflkoaaGreatDoor
set_option maxRecDepth 2000
open Go.ChangeShapes Go.WideShapes Go.ChangeAt Go.RowKit

set_option maxHeartbeats 2000000 in
theorem mul1_any (pa pb r n c i j : Nat) (F H : Nat → Nat → Nat) (w : World) (ha : RdU w pa r n F) (hb : RdU w pb n c H) (hF : Gm.Byt F) (hH : Gm.Byt H) (hi : i < r) (hj : j < c) (hn : n ≤ 1048576) :
    Calls Tryz.prog 149 #[.int .i64 (i : Int), .int .i64 (j : Int), .pointer (some ⟨pa, 0, none⟩), .pointer (some ⟨pb, 0, none⟩)] w fun e w' => e = .returned (.int .u8 ((Gm.mp n F H i j : Nat) : Int)) ∧ Below w.heap.size w w' := by
  obtain ⟨Ga, ca, hpa, hra⟩ := ha
  obtain ⟨ga, cca, hca, hea⟩ := hra i hi
  have hi' : (i : Int) < (r : Int) := by omega
  have hj' : (j : Int) < (c : Int) := by omega
  have KB : Hid (RdU w pb n c H) := hb
  have KE : Hid _ := hea
  clear hra hea hb
  go_enter Tryz.func149, Tryz.ntmps149
  go_wp2
  go_loopw [7, 15] (fun s p wr => ∃ k V : Nat, k ≤ n ∧ V < 256 ∧ s = .int .u8 (V : Int) ∧ p = .int .i64 (k : Int) ∧ Hid (V = Gm.sm (fun t => Gp.m (F i t) (H t j)) k) ∧ Below w.heap.size w wr) (fun _ p _ => n - (intOf p).toNat)
  case atStart => exact ⟨0, 0, Nat.zero_le _, by omega, rfl, rfl, rfl, Below.refl _ _⟩
  case round =>
    obtain ⟨k, V, hk, hV, rfl, rfl, HV, hbel⟩ := hrel
    by_cases hlt : k < n
    · have hki : (k : Int) < (n : Int) := by omega
      have hx0 := KE.out k hlt
      have hx := (hbel.cell (p := ⟨ga, k, none⟩) (block_lt_of_cell hx0)).trans hx0
      obtain ⟨Gb, cb, hpb, hrb⟩ := KB.out.below hbel
      obtain ⟨gb, ccb, hcb, heb⟩ := hrb k hlt
      have hy := heb j hj
      clear hx0 heb hrb hca hpa
      have hf := hF i k
      have hh := hH k j
      have HV2 : Hid (V ^^^ Gf.mul (F i k) (H k j) = Gm.sm (fun t => Gp.m (F i t) (H t j)) (k + 1)) := by
        show _ = _
        rw [Gm.sm_s, HV.out, Gp.m_nat hf hh]
      have hml := Gf.mul_lt hf hh
      have hxl : Hid (V ^^^ Gf.mul (F i k) (H k j) < 256) := Gf.xor_lt hV hml
      generalize F i k = x at hx hf HV2 hml hxl
      generalize H k j = y at hy hh HV2 hml hxl
      go_wp2_with (first | (go_at_call 111; refine (times_any x y _ hf hh).mono ?_; rintro e w5 ⟨rfl, hb5⟩) | (go_at_call 110; refine (plus_any V (Gf.mul x y) _ hV hml).mono ?_; rintro e w6 ⟨rfl, hw6⟩; obtain rfl := hw6.symm))
      go_roundw
      case rel => exact ⟨k + 1, _, by omega, hxl.out, rfl, by go_num, HV2.out, below2 hbel hb5⟩
      case measure => simp [intOf] <;> omega
    · obtain rfl : k = n := by omega
      go_wp2
      go_ret
      exact ⟨by rw [HV.out] <;> rfl, hbel⟩
theorem mulEnter : ∀ args w, (callFunc 149 args).run Tryz.prog w = .ok (.enter 149 args) w := enters_of Tryz.func149 (by kernel_rfl) rfl
theorem mulFill {pa pb r n c : Nat} {F H : Nat → Nat → Nat} {w : World} (ha : RdU w pa r n F) (hb : RdU w pb n c H) (hF : Gm.Byt F) (hH : Gm.Byt H) (hn : n ≤ 1048576) :
    FillBy 149 #[.pointer (some ⟨pa, 0, none⟩), .pointer (some ⟨pb, 0, none⟩)] r c (Gm.mp n F H) w := fun W i j hW hi hj => mul1_any pa pb r n c i j F H W (ha.below hW) (hb.below hW) hF hH hi hj hn
/-- The two go together. -/
def MulOk (n : Nat) (L : Nat → Nat) (Z : Nat → Nat → Int) (n' : Nat) (L' : Nat → Nat) (Z' : Nat → Nat → Int) : Prop := OkM n L Z ∧ OkM n' L' Z' ∧ L 0 = n'
noncomputable def muOk (n : Nat) (L : Nat → Nat) (Z : Nat → Nat → Int) (n' : Nat) (L' : Nat → Nat) (Z' : Nat → Nat → Int) : Bool := @decide (MulOk n L Z n' L' Z') (Classical.propDecidable _)
theorem muOk_yes {n : Nat} {L : Nat → Nat} {Z : Nat → Nat → Int} {n' : Nat} {L' : Nat → Nat} {Z' : Nat → Nat → Int} (h : MulOk n L Z n' L' Z') : muOk n L Z n' L' Z' = true := by unfold muOk; exact @decide_eq_true _ (Classical.propDecidable _) h
theorem muOk_no {n : Nat} {L : Nat → Nat} {Z : Nat → Nat → Int} {n' : Nat} {L' : Nat → Nat} {Z' : Nat → Nat → Int} (h : ¬ MulOk n L Z n' L' Z') : muOk n L Z n' L' Z' = false := by unfold muOk; exact @decide_eq_false _ (Classical.propDecidable _) h
noncomputable def muR (n : Nat) (L : Nat → Nat) (Z : Nat → Nat → Int) (n' : Nat) (L' : Nat → Nat) (Z' : Nat → Nat → Int) : Nat := if muOk n L Z n' L' Z' = true then n else 0
set_option maxHeartbeats 2000000 in
theorem mulM_any (a : Option Addr) (n cap : Nat) (L : Nat → Nat) (Z : Nat → Nat → Int) (a' : Option Addr) (n' cap' : Nat) (L' : Nat → Nat) (Z' : Nat → Nat → Int) (w : World) (h : MatAt w a n L Z) (h' : MatAt w a' n' L' Z') (hL : ∀ i, i < n → L i ≤ 1048576) (hL' : ∀ i, i < n' → L' i ≤ 1048576) :
    Calls Tryz.prog 103 #[.slice a n cap, .slice a' n' cap'] w fun e w' => ∃ v, e = .returned (.tuple #[v, .bool (muOk n L Z n' L' Z')]) ∧ ResM w w' v (muR n L Z n' L' Z') (L' 0) (Gm.mp n' (bZ n L Z) (bZ n' L' Z')) ∧ Below w.heap.size w w' := by
  by_cases ok : OkM n L Z
  · have KR : Hid _ := readM_b a n cap L Z w h ok
    have hn : 1 ≤ n ∧ n ≤ 16 ∧ 1 ≤ L 0 ∧ L 0 ≤ 16 := ⟨ok.1, ok.2.1, ok.2.2.1, ok.2.2.2.1⟩
    have hn0' : 0 < n := by omega
    by_cases ok' : OkM n' L' Z'
    · have hn' : 1 ≤ n' ∧ n' ≤ 16 ∧ 1 ≤ L' 0 ∧ L' 0 ≤ 16 := ⟨ok'.1, ok'.2.1, ok'.2.2.1, ok'.2.2.2.1⟩
      have hn1' : 0 < n' := by omega
      have KR' : Hid (∀ W, Below w.heap.size w W → _) := fun W hW => readM_b a' n' cap' L' Z' W (h'.below hW) ok'
      have hbt := bZ_byt n L Z
      have hbt' := bZ_byt n' L' Z'
      have hmo : MulOk n L Z n' L' Z' ↔ L 0 = n' := ⟨fun hh => hh.2.2, fun hh => ⟨ok, ok', hh⟩⟩
      have hR1 : L 0 = n' → muR n L Z n' L' Z' = n := fun e => by unfold muR; rw [if_pos (muOk_yes (hmo.2 e))]
      have hR2 : L 0 ≠ n' → muR n L Z n' L' Z' = 0 := fun e => by unfold muR; rw [if_neg (by rw [muOk_no (fun hh => e (hmo.1 hh))]; simp)]
      have hO1 : L 0 = n' → muOk n L Z n' L' Z' = true := fun e => muOk_yes (hmo.2 e)
      have hO2 : L 0 ≠ n' → muOk n L Z n' L' Z' = false := fun e => muOk_no (fun hh => e (hmo.1 hh))
      generalize muOk n L Z n' L' Z' = okf at hO1 hO2
      generalize muR n L Z n' L' Z' = R at hR1 hR2
      generalize bZ n L Z = F at KR hbt
      generalize bZ n' L' Z' = H at KR' hbt'
      clear hmo ok ok' h h' hL hL'
      generalize L 0 = l at hn KR hR1 hR2 hO1 hO2
      generalize L' 0 = l' at hn' KR'
      have KT : Hid (Gm.Byt F) := hbt
      have KT' : Hid (Gm.Byt H) := hbt'
      clear hbt hbt'
      by_cases e : l = n'
      · obtain rfl := hO1 e
        have hRn := (hR1 e).symm
        subst hRn
        subst e
        clear hO1 hO2 hR1 hR2
        go_enter Tryz.func103, Tryz.ntmps103
        go_wp2_with fail
        refine Calls.mono KR.out ?_
        rintro e w2 ⟨rfl, ⟨g, hM⟩, hb2⟩
        have hp := boxed w2 (.slice (some ⟨w.heap.size, 0, none⟩) n n) 217
        have hb3 : Below w2.heap.size w2 (w2.alloc (.cells #[.slice (some ⟨w.heap.size, 0, none⟩) n n] 217)) := (Below.refl _ _).alloc (Nat.le_refl _) _
        have hRd := MatU.rd hM hb3 hp
        have hd0 := (hM.below hb3).hdr (i := 0) (by omega)
        obtain ⟨W, hW⟩ : ∃ W, w2.alloc (.cells #[.slice (some ⟨w.heap.size, 0, none⟩) n n] 217) = W := ⟨_, rfl⟩
        have KW2 : Hid (w2.alloc (.cells #[.slice (some ⟨w.heap.size, 0, none⟩) n n] 217) = W) := hW
        rw [hW] at hp hb3 hRd hd0
        generalize g 0 = g0 at hd0
        have KRd : Hid (RdU W w2.heap.size n l F) := hRd
        have KB : Hid (Below w.heap.size w W) := below2 hb2 hb3
        have hpl := block_lt_of_cell hp
        have hdl := block_lt_of_cell hd0
        have hKR' := KR'.out W KB.out
        clear hM hRd hW hb2 hb3 KR KR'
        go_wp2_with fail
        rw [KW2.out]
        refine Calls.mono hKR' ?_
        rintro e w4 ⟨rfl, ⟨g', hM'⟩, hb4⟩
        have hp' := boxed w4 (.slice (some ⟨W.heap.size, 0, none⟩) l l) 217
        have hb5 : Below w4.heap.size w4 (w4.alloc (.cells #[.slice (some ⟨W.heap.size, 0, none⟩) l l] 217)) := (Below.refl _ _).alloc (Nat.le_refl _) _
        have hRd' := MatU.rd hM' hb5 hp'
        have hd0' := (hM'.below hb5).hdr (i := 0) (by omega)
        have hp2 := ((below2 hb4 hb5).cell (p := ⟨w2.heap.size, 0, none⟩) hpl).trans hp
        have hd2 := ((below2 hb4 hb5).cell (p := ⟨w.heap.size, 0, none⟩) hdl).trans hd0
        generalize g' 0 = g0' at hd0'
        have KRa := KRd.out.below (below2 hb4 hb5)
        have KB5 := below2 KB.out (below2 hb4 hb5)
        clear hM' hb4 hb5 hp hd0 hpl hdl KRd KB KW2 hKR'
        go_wp2_with fail
        generalize w4.alloc (.cells #[.slice (some ⟨W.heap.size, 0, none⟩) l l] 217) = X at *
        go_quiet (fail)
        go_wp2_with fail
        generalize hX2 : X.drewN _ = X2
        have hbX : Below X.heap.size X X2 := by rw [← hX2]; exact below_drewN (Below.refl _ _) _
        have hp3 := (hbX.cell (p := ⟨w2.heap.size, 0, none⟩) (block_lt_of_cell hp2)).trans hp2
        have hd3 := (hbX.cell (p := ⟨w.heap.size, 0, none⟩) (block_lt_of_cell hd2)).trans hd2
        have hp3' := (hbX.cell (p := ⟨w4.heap.size, 0, none⟩) (block_lt_of_cell hp')).trans hp'
        have hd3' := (hbX.cell (p := ⟨W.heap.size, 0, none⟩) (block_lt_of_cell hd0')).trans hd0'
        have KB6 := below2 KB5 hbX
        have hsz6 := KB6.size
        have KF : Hid _ := filled_any 149 #[.pointer (some ⟨w2.heap.size, 0, none⟩), .pointer (some ⟨w4.heap.size, 0, none⟩)] mulEnter n l' (Gm.mp l F H) X2.drew (mulFill ((KRa.below hbX).below ⟨rfl, rfl, rfl, Nat.le_refl _, fun _ _ => rfl⟩) ((hRd'.below hbX).below ⟨rfl, rfl, rfl, Nat.le_refl _, fun _ _ => rfl⟩) KT.out KT'.out (by omega)) (Gm.mp_byt _ _ _) (by omega) (by omega)
        have hq1 := block_lt_of_cell hp3
        have hq2 := block_lt_of_cell hp3'
        have hq3 := block_lt_of_cell hd3'
        clear hX2 hp2 hd2 hp' hd0' KRa hRd' KB5
        go_region_held3 (fun w' => w'.cell? ⟨w2.heap.size, 0, none⟩ = some (.slice (some ⟨w.heap.size, 0, none⟩) n n) ∧ w'.cell? ⟨w4.heap.size, 0, none⟩ = some (.slice (some ⟨W.heap.size, 0, none⟩) l l) ∧ w'.cell? ⟨W.heap.size, 0, none⟩ = some (.slice (some ⟨g0', 0, none⟩) l' l')) (go_keep) ((go_at_call 148; refine Calls.mono KF.out ?_; rintro e w5 ⟨rfl, ⟨A5, hM5⟩, hb5'⟩; have hb5 := below_of_drew hb5'; have KM : Hid _ := hM5; clear hb5' hM5; have hp5 := (hb5.cell (p := ⟨w2.heap.size, 0, none⟩) hq1).trans hp3; have hd5 := (hb5.cell (p := ⟨w4.heap.size, 0, none⟩) hq2).trans hp3'; have hr5 := (hb5.cell (p := ⟨W.heap.size, 0, none⟩) hq3).trans hd3'))
        all_goals
          go_wp2
          go_ret2
          exact ⟨_, rfl, ResM.mk KM.out hsz6, below2 KB6 hb5⟩
      · obtain rfl := hO2 e
        obtain rfl := hR2 e
        have hne : ((l : Int) != (n' : Int)) = true := by simp; omega
        clear hO1 hO2 hR1 hR2
        go_enter Tryz.func103, Tryz.ntmps103
        go_wp2_with fail
        refine Calls.mono KR.out ?_
        rintro e w2 ⟨rfl, ⟨g, hM⟩, hb2⟩
        have hp := boxed w2 (.slice (some ⟨w.heap.size, 0, none⟩) n n) 217
        have hb3 : Below w2.heap.size w2 (w2.alloc (.cells #[.slice (some ⟨w.heap.size, 0, none⟩) n n] 217)) := (Below.refl _ _).alloc (Nat.le_refl _) _
        have hRd := MatU.rd hM hb3 hp
        have hd0 := (hM.below hb3).hdr (i := 0) (by omega)
        obtain ⟨W, hW⟩ : ∃ W, w2.alloc (.cells #[.slice (some ⟨w.heap.size, 0, none⟩) n n] 217) = W := ⟨_, rfl⟩
        have KW2 : Hid (w2.alloc (.cells #[.slice (some ⟨w.heap.size, 0, none⟩) n n] 217) = W) := hW
        rw [hW] at hp hb3 hRd hd0
        generalize g 0 = g0 at hd0
        have KRd : Hid (RdU W w2.heap.size n l F) := hRd
        have KB : Hid (Below w.heap.size w W) := below2 hb2 hb3
        have hpl := block_lt_of_cell hp
        have hdl := block_lt_of_cell hd0
        have hKR' := KR'.out W KB.out
        clear hM hRd hW hb2 hb3 KR KR'
        go_wp2_with fail
        rw [KW2.out]
        refine Calls.mono hKR' ?_
        rintro e w4 ⟨rfl, ⟨g', hM'⟩, hb4⟩
        have hp' := boxed w4 (.slice (some ⟨W.heap.size, 0, none⟩) n' n') 217
        have hb5 : Below w4.heap.size w4 (w4.alloc (.cells #[.slice (some ⟨W.heap.size, 0, none⟩) n' n'] 217)) := (Below.refl _ _).alloc (Nat.le_refl _) _
        have hRd' := MatU.rd hM' hb5 hp'
        have hd0' := (hM'.below hb5).hdr (i := 0) (by omega)
        have hp2 := ((below2 hb4 hb5).cell (p := ⟨w2.heap.size, 0, none⟩) hpl).trans hp
        have hd2 := ((below2 hb4 hb5).cell (p := ⟨w.heap.size, 0, none⟩) hdl).trans hd0
        generalize g' 0 = g0' at hd0'
        have KRa := KRd.out.below (below2 hb4 hb5)
        have KB5 := below2 KB.out (below2 hb4 hb5)
        clear hM' hb4 hb5 hp hd0 hpl hdl KRd KB KW2 hKR'
        go_wp2_with fail
        generalize w4.alloc (.cells #[.slice (some ⟨W.heap.size, 0, none⟩) n' n'] 217) = X at *
        go_quiet (fail)
        go_wp2
        go_ret2
        exact ⟨_, rfl, ResM.none _ _ _ _, below_drewN KB5 _⟩
    · have KR' : Hid (∀ W, Below w.heap.size w W → _) := fun W hW => readM_no a' n' cap' L' Z' W (h'.below hW) hL' ok'
      have hO : muOk n L Z n' L' Z' = false := muOk_no (fun hh => ok' hh.2.1)
      have hR : muR n L Z n' L' Z' = 0 := by unfold muR; rw [if_neg (by rw [hO]; simp)]
      rw [hO, hR]
      generalize bZ n L Z = F at KR
      generalize bZ n' L' Z' = H
      clear hO hR ok ok' h h' hL hL'
      generalize L 0 = l at hn KR
      generalize L' 0 = l'
      go_enter Tryz.func103, Tryz.ntmps103
      go_wp2_with fail
      refine Calls.mono KR.out ?_
      rintro e w2 ⟨rfl, _, hb2⟩
      have hb3 : Below w2.heap.size w2 (w2.alloc (.cells #[.slice (some ⟨w.heap.size, 0, none⟩) n n] 217)) := (Below.refl _ _).alloc (Nat.le_refl _) _
      have hKR' := KR'.out _ (below2 hb2 hb3)
      go_wp2_with fail
      refine Calls.mono hKR' ?_
      rintro e w4 ⟨rfl, hb4⟩
      have KB := below2 (below2 (below2 hb2 hb3) hb4) ((Below.refl w4.heap.size w4).alloc (Nat.le_refl _) (.cells #[.slice none 0 0] 217))
      clear hKR' KR KR' hb2 hb3 hb4
      go_wp2_with fail
      generalize w4.alloc (.cells #[.slice none 0 0] 217) = X at *
      go_quiet (fail)
      go_wp2
      go_ret2
      exact ⟨_, rfl, ResM.none _ _ _ _, below_drewN KB _⟩
  · have KR : Hid _ := readM_no a n cap L Z w h hL ok
    have hO : muOk n L Z n' L' Z' = false := muOk_no (fun hh => ok hh.1)
    have hR : muR n L Z n' L' Z' = 0 := by unfold muR; rw [if_neg (by rw [hO]; simp)]
    rw [hO, hR]
    have KR' : Hid (∀ W, Below w.heap.size w W → Calls Tryz.prog 147 #[.slice a' n' cap'] W fun e w' => ∃ v b, e = .returned (.tuple #[.slice v n' n', .bool b]) ∧ Below W.heap.size W w' ∨ e = .returned (.tuple #[.slice none 0 0, .bool false]) ∧ Below W.heap.size W w') := fun W hW => by
      by_cases ok' : OkM n' L' Z'
      · refine Calls.mono (readM_b a' n' cap' L' Z' W (h'.below hW) ok') ?_
        rintro e w' ⟨rfl, _, hb⟩
        exact ⟨_, _, .inl ⟨rfl, hb⟩⟩
      · refine Calls.mono (readM_no a' n' cap' L' Z' W (h'.below hW) hL' ok') ?_
        rintro e w' ⟨rfl, hb⟩
        exact ⟨none, true, .inr ⟨rfl, hb⟩⟩
    clear hO hR ok h h' hL hL'
    generalize bZ n L Z = F
    generalize bZ n' L' Z' = H
    generalize L' 0 = l'
    go_enter Tryz.func103, Tryz.ntmps103
    go_wp2_with fail
    refine Calls.mono KR.out ?_
    rintro e w2 ⟨rfl, hb2⟩
    have hb3 : Below w2.heap.size w2 (w2.alloc (.cells #[.slice none 0 0] 217)) := (Below.refl _ _).alloc (Nat.le_refl _) _
    have hKR' := KR'.out _ (below2 hb2 hb3)
    go_wp2_with fail
    refine Calls.mono hKR' ?_
    rintro e w4 ⟨v, b, ⟨rfl, hb4⟩ | ⟨rfl, hb4⟩⟩
    · have KB := below2 (below2 (below2 hb2 hb3) hb4) ((Below.refl w4.heap.size w4).alloc (Nat.le_refl _) (.cells #[.slice v n' n'] 217))
      clear hKR' KR KR' hb2 hb3 hb4
      go_wp2_with fail
      generalize w4.alloc (.cells #[.slice v n' n'] 217) = X at *
      go_quiet (fail)
      go_wp2
      go_ret2
      exact ⟨_, rfl, ResM.none _ _ _ _, below_drewN KB _⟩
    · have KB := below2 (below2 (below2 hb2 hb3) hb4) ((Below.refl w4.heap.size w4).alloc (Nat.le_refl _) (.cells #[.slice none 0 0] 217))
      clear hKR' KR KR' hb2 hb3 hb4
      go_wp2_with fail
      generalize w4.alloc (.cells #[.slice none 0 0] 217) = X at *
      go_quiet (fail)
      go_wp2
      go_ret2
      exact ⟨_, rfl, ResM.none _ _ _ _, below_drewN KB _⟩
end Go.Proofs.YtodpgbmpfflkoaaGreatDoor
/- The model's functions over matrices: whether it is one, the unit, a spread. Conditions: at most 2^20 rows, at most 2^20 numbers a row. -/
namespace Go.Proofs.YtodpgbmpfflkoaaGreatDoor
set_option maxRecDepth 2000
open Go.ChangeShapes Go.WideShapes Go.ChangeAt Go.RowKit

theorem all_zI (z : Nat → Int) (n : Nat) : (zI z n).all isB = true ↔ ∀ j, j < n → isB (z j) = true := by
  simp [zI, List.all_eq_true]
theorem MatI.pushed {wr w2 : World} {B b0 G k cap g2 cap3 gr W capr : Nat} {A : Nat → Option Addr} {C : Nat → Nat} {F : Nat → Nat → Nat} (o : Obj) (hM : MatI wr B b0 (some ⟨G, 0, none⟩) k cap A (fun _ => W) C (fun i j => ((F i j : Nat) : Int)))
    (hb : B ≤ b0) (hr : OwnR wr b0 gr W capr (F k)) (hgrow : (wr.alloc o).grownBy w2 (some G))
    (hout : w2.ownsRow B 23 1 (.slice (some ⟨g2, 0, none⟩) (k + 1) cap3) (k + 1) (hds A (fun _ => W) C k ++ [.slice (some ⟨gr, 0, none⟩) W capr])) :
    ∃ A' C', MatI w2 B w2.heap.size (some ⟨g2, 0, none⟩) (k + 1) cap3 A' (fun _ => W) C' (fun i j => ((F i j : Nat) : Int)) := by
  have hbo : Below wr.heap.size wr (wr.alloc o) := (Below.refl _ _).alloc (Nat.le_refl _) _
  have hM1 := hM.below hbo
  have hr1 : (wr.alloc o).ownsRow B 3 1 (.slice (some ⟨gr, 0, none⟩) W capr) W ((zI (fun j => ((F k j : Nat) : Int)) W).map (Value.int .i64)) := own_base (ownsRow_below hr hbo) hb
  have hgr := hr.lt.1
  refine ⟨_, _, (MatZ.push tiNe hM1 hgrow hout (Nat.le_refl _) ?_ hr1 (fun j hj y u ey eu => ?_)).congr (fun i _ => ⟨rfl, by split <;> rfl, rfl, fun j _ => by by_cases e : i = k; subst e; simp; simp [e]⟩)⟩
  · by_cases h0 : G < b0
    · exact Nat.le_trans (Nat.le_of_lt (Nat.lt_of_le_of_lt hgr hr.lt.2)) (Nat.le_trans hbo.size hgrow.size)
    · exact Nat.le_trans (Nat.le_of_lt (Nat.lt_of_le_of_lt hgr hr.lt.2)) (Nat.le_trans hbo.size hgrow.size)
  · cases eu
    have := hM.rE j hj y ey
    exact Nat.ne_of_lt (Nat.lt_of_lt_of_le this hgr)
theorem MatI.rowed {wr w2 : World} {B b0 gr : Nat} {a : Option Addr} {k cap W : Nat} {A : Nat → Option Addr} {C : Nat → Nat} {F : Nat → Nat → Nat} (o : Obj) (hM : MatI wr B b0 a k cap A (fun _ => W) C (fun i j => ((F i j : Nat) : Int))) (hgr : b0 ≤ gr) (hgrow : (wr.alloc o).grownBy w2 (some gr)) :
    MatI w2 B b0 a k cap A (fun _ => W) C (fun i j => ((F i j : Nat) : Int)) := (hM.below ((Below.refl _ _).alloc (Nat.le_refl _) o)).keptE hgrow hgr
theorem litM (w : World) (A : Nat → Option Addr) (L C : Nat → Nat) (Z : Nat → Nat → Int) : MatI (w.alloc (.cells #[] 23)) w.heap.size (w.alloc (.cells #[] 23)).heap.size (some ⟨w.heap.size, 0, none⟩) 0 0 A L C Z :=
  MatZ.zero _ _ _ _ _ _ _ _ _ _ (World.ownsRow_lit w #[] 0 (Nat.le_refl _) (by unfold maxLen; omega) rfl) (by simp)
theorem resLit0 (w w1 : World) (h : w.heap.size ≤ w1.heap.size) (c : Nat) (F : Nat → Nat → Nat) : ResM w (w1.alloc (.cells #[] 23)) (.slice (some ⟨w1.heap.size, 0, none⟩) 0 0) 0 c F :=
  ResM.mk (litM w1 (fun _ => none) (fun _ => c) (fun _ => 0) _) h

set_option maxHeartbeats 2000000 in
theorem sMatOk_any (a : Option Addr) (n cap : Nat) (L : Nat → Nat) (Z : Nat → Nat → Int) (w : World) (h : MatAt w a n L Z) (hL : ∀ i, i < n → L i ≤ 1048576) :
    Calls Tryz.prog 129 #[.slice a n cap] w fun e w' => e = .returned (.bool (okM n L Z)) ∧ Below w.heap.size w w' := by
  by_cases hn : 1 ≤ n ∧ n ≤ 16
  · have hs1 : inB (n : Int) 1 16 = true := by unfold inB; simp; omega
    have hn0' : 0 < n := by omega
    have hn0i : (0 : Int) < (n : Int) := by omega
    obtain ⟨b0, off0, ai0, ci0, e0, hc0, _⟩ := h 0 (by omega)
    subst e0
    rw [Nat.add_zero] at hc0
    by_cases hl : 1 ≤ L 0 ∧ L 0 ≤ 16
    · have hs2 : inB (L 0 : Int) 1 16 = true := by unfold inB; simp; omega
      have KO : Hid (∀ q, q ≤ n → (∀ i, i < q → L i = L 0 ∧ ∀ j, j < L 0 → isB (Z i j) = true) → q < n → ¬ (L q = L 0 ∧ ∀ j, j < L 0 → isB (Z q j) = true) → okM n L Z = false) := fun q _ _ h2 h3 => okM_no (fun hh => h3 (hh.2.2.2.2 q h2))
      have KY : Hid ((∀ i, i < n → L i = L 0 ∧ ∀ j, j < L 0 → isB (Z i j) = true) → okM n L Z = true) := fun h1 => okM_yes ⟨hn.1, hn.2, hl.1, hl.2, h1⟩
      generalize okM n L Z = okf at KO KY
      have KH : Hid (MatAt w (some ⟨b0, off0, none⟩) n L Z) := h
      obtain ⟨l, hl0⟩ : ∃ l, L 0 = l := ⟨_, rfl⟩
      rw [hl0] at hc0 hl hs2 KO KY
      have KL : Hid _ := hL
      clear h hL hl0
      go_enter Tryz.func129, Tryz.ntmps129
      go_wp2_with (go_at_call 83; refine (sIn_any _ _ _ _).mono ?_; rintro e w' ⟨rfl, hw⟩; obtain rfl := hw.symm)
      go_loopw [3] (fun p wr => ∃ k : Nat, k ≤ n ∧ p = .int .i64 (k : Int) ∧ Hid (∀ i, i < k → L i = l ∧ ∀ j, j < l → isB (Z i j) = true) ∧ Below w.heap.size w wr) (fun p _ => n - (intOf p).toNat)
      case atStart => exact ⟨0, Nat.zero_le _, rfl, fun i hi => by omega, Below.refl _ _⟩
      case round =>
        obtain ⟨k, hk, rfl, HB, hbel⟩ := hrel
        by_cases hlt : k < n
        · have hki : (k : Int) < (n : Int) := by omega
          obtain ⟨b, off, ai, ci, eb, hc, hr⟩ := KH.out.below hbel k hlt
          cases eb
          have hc0' := (hbel.cell (p := ⟨b0, off0, none⟩) (block_lt_of_cell hc0)).trans hc0
          have hLk := KL.out k hlt
          clear hc0
          by_cases hkl : L k = l
          · rw [hkl] at hc hr
            have hS := fun w h => sBytes_any ai l ci (zI (Z k) l) w h (by omega)
            have hall := all_zI (Z k) l
            obtain ⟨ba, hba⟩ : ∃ ba, (zI (Z k) l).all isB = ba := ⟨_, rfl⟩
            rw [hba] at hS hall
            clear hba
            cases ba with
            | true =>
              have HB2 : Hid (∀ i, i < k + 1 → L i = l ∧ ∀ j, j < l → isB (Z i j) = true) := fun i hi => by
                by_cases e : i = k
                · subst e; exact ⟨hkl, hall.1 rfl⟩
                · exact HB.out i (by omega)
              clear hall
              generalize zI (Z k) l = zs at hr hS
              go_wp2_with fail
              go_quiet ((go_at_call 167; exact Calls.quiet_of_same (hS _ (hr.below ⟨rfl, rfl, rfl, Nat.le_refl _, fun _ _ => rfl⟩))))
              go_wp2
              go_roundw
              case rel => exact ⟨k + 1, by omega, by go_num, HB2, below_drewN hbel _⟩
              case measure => simp [intOf] <;> omega
            | false =>
              have HN : Hid (okf = false) := KO.out k (by omega) HB.out hlt (fun hh => by have := hall.2 hh.2; cases this)
              clear hall
              generalize zI (Z k) l = zs at hr hS
              go_wp2_with fail
              go_quiet ((go_at_call 167; exact Calls.quiet_of_same (hS _ (hr.below ⟨rfl, rfl, rfl, Nat.le_refl _, fun _ _ => rfl⟩))))
              go_wp2
              go_ret
              exact ⟨ret_bool HN.out.symm, below_drewN hbel _⟩
          · have HN : Hid (okf = false) := KO.out k (by omega) HB.out hlt (fun hh => hkl hh.1)
            have hne : ((L k : Int) != (l : Int)) = true := by simp; omega
            clear hr
            generalize L k = lk at hc hne
            go_wp2_with fail
            go_quiet (fail)
            go_wp2
            go_ret
            exact ⟨ret_bool HN.out.symm, below_drewN hbel _⟩
        · obtain rfl : k = n := by omega
          have HN : Hid (okf = true) := KY.out HB.out
          go_wp2
          go_ret
          exact ⟨ret_bool HN.out.symm, hbel⟩
    · have hs2 : inB (L 0 : Int) 1 16 = false := by unfold inB; simp; omega
      have HN : Hid (okM n L Z = false) := okM_no (fun hh => hl ⟨hh.2.2.1, hh.2.2.2.1⟩)
      generalize okM n L Z = okf at HN
      clear h hL hl
      generalize L 0 = l at hc0 hs2
      go_enter Tryz.func129, Tryz.ntmps129
      go_wp2_with (go_at_call 83; refine (sIn_any _ _ _ _).mono ?_; rintro e w' ⟨rfl, hw⟩; obtain rfl := hw.symm)
      go_ret
      exact ⟨ret_bool HN.out.symm, Below.refl _ _⟩
  · have hs1 : inB (n : Int) 1 16 = false := by unfold inB; simp; omega
    have HN : Hid (okM n L Z = false) := okM_no (fun hh => hn ⟨hh.1, hh.2.1⟩)
    generalize okM n L Z = okf at HN
    clear h hL
    go_enter Tryz.func129, Tryz.ntmps129
    go_wp2_with (go_at_call 83; refine (sIn_any _ _ _ _).mono ?_; rintro e w' ⟨rfl, hw⟩; obtain rfl := hw.symm)
    go_ret
    exact ⟨ret_bool HN.out.symm, Below.refl _ _⟩
end Go.Proofs.YtodpgbmpfflkoaaGreatDoor
