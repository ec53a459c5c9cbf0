/- The program's small functions over matrices: a side, the unit's numbers, reading a matrix, filling one by a function. Conditions: at most 2^20 rows and numbers a row, where a matrix is read. -/
import Derived.Test.YthnjhjgffkilcaaGreatDoorG12
namespace Go.Proofs.YthnjhjgffkilcaaGreatDoor
set_option maxRecDepth 2000
open Go.ChangeShapes Go.WideShapes Go.ChangeAt Go.RowKit

theorem Tryz.infoElems : (Tryz.prog.info? 259).map (fun i => (i.zero, i.size, i.bytes)) = some (some (.slice none 0 0), 1, 24) := by kernel_rfl
/-- A matrix of byte numbers of ours, as the program has them. -/
abbrev MatU (w : World) (B E : Nat) (a : Option Addr) (n cap : Nat) (A : Nat → Option Addr) (L C : Nat → Nat) (Z : Nat → Nat → Int) : Prop := MatZ .u8 155 259 w B E a n cap A L C Z
theorem teNe : (155 : Nat) ≠ 259 := by decide
def side (n : Int) : Bool := decide (1 ≤ n ∧ n ≤ 16)
theorem side_nat (n : Nat) : side (n : Int) = decide (1 ≤ n ∧ n ≤ 16) := by
  unfold side
  congr 1
  simp only [eq_iff_iff]
  omega
set_option maxHeartbeats 400000 in
theorem isSide_any (n : Int) (w : World) : Calls Tryz.prog 140 #[.int .i64 n] w fun e w' => e = .returned (.bool (side n)) ∧ w' = w := by
  go_enter Tryz.func140, Tryz.ntmps140
  go_wp2
  · go_ret
    exact ⟨ret_bool (by simp [side, *]), rfl⟩
  · go_ret
    exact ⟨ret_bool (by simp [side]; omega), rfl⟩
set_option maxHeartbeats 400000 in
theorem unitAt_any (i j : Nat) (w : World) : Calls Tryz.prog 143 #[.int .i64 (i : Int), .int .i64 (j : Int)] w fun e w' => e = .returned (.int .u8 ((Gm.dl i j : Nat) : Int)) ∧ w' = w := by
  by_cases h : i = j
  · subst h
    rw [Gm.dl_self]
    go_enter Tryz.func143, Tryz.ntmps143
    go_wp2
    go_ret
    exact ⟨rfl, rfl⟩
  · have h' : ((i : Int) == (j : Int)) = false := by simp; omega
    rw [Gm.dl_ne h]
    go_enter Tryz.func143, Tryz.ntmps143
    go_wp2
    go_ret
    exact ⟨rfl, rfl⟩
/-- What is asked of a function by which a matrix is filled. -/
def FillBy (g : Nat) (lb : Array Value) (r c : Nat) (F : Nat → Nat → Nat) (w : World) : Prop :=
  ∀ (W : World) (i j : Nat), Below w.heap.size w W → i < r → j < c → Calls Tryz.prog g (#[.int .i64 (i : Int), .int .i64 (j : Int)] ++ lb) W fun e w' => e = .returned (.int .u8 ((F i j : Nat) : Int)) ∧ Below W.heap.size W w'
theorem FillBy.below {g : Nat} {lb : Array Value} {r c : Nat} {F : Nat → Nat → Nat} {w w' : World} (h : FillBy g lb r c F w) (hb : Below w.heap.size w w') : FillBy g lb r c F w' := fun W i j hW hi hj => h W i j (below2 hb hW) hi hj
set_option maxHeartbeats 2000000 in
theorem filled_any (g : Nat) (lb : Array Value) (eg : ∀ args w, (callFunc g args).run Tryz.prog w = .ok (.enter g args) w) (r c : Nat) (F : Nat → Nat → Nat) (w : World) (hp : FillBy g lb r c F w) (hF : ∀ i j, F i j < 256) (hr : r ≤ 1048576) (hc : c ≤ 1048576) :
    Calls Tryz.prog 141 #[.int .i64 (r : Int), .int .i64 (c : Int), .func (.func g) #[] lb] w fun e w' => e = .returned (.slice (some ⟨w.heap.size, 0, none⟩) r r) ∧ (∃ A, MatI w' w.heap.size w'.heap.size (some ⟨w.heap.size, 0, none⟩) r r A (fun _ => c) (fun _ => c) (fun i j => ((F i j : Nat) : Int))) ∧ Below w.heap.size w w' := by
  obtain ⟨i0, hi, hz0, hz1, hz2⟩ := info_parts Tryz.infoInts
  obtain ⟨j0, hj, hy0, hy1, hy2⟩ := info_parts Tryz.infoInt
  go_enter Tryz.func141, Tryz.ntmps141
  go_wp2_with (at_make; refine wpList_make_full _ rfl _ _ 107 rfl w.heap.size 43 i0 (.slice none 0 0) 1 Tryz.underlying107 hi hz0 hz1 .i64 .i64 _ _ r rfl rfl rfl rfl (by rw [hz2]; omega) (by unfold maxLen; omega) (Nat.le_refl _) ?_; intro w1 hown hgrow)
  have hb1 : Below w.heap.size w w1 := (Below.refl _ _).grown hgrow (Nat.le_refl _) (by simp)
  have hlt1 := (World.ownsRow.lt hown _ rfl).2
  have ho1 : MatI w1 w.heap.size w1.heap.size (some ⟨w.heap.size, 0, none⟩) r r (fun _ => none) (fun i => if i < 0 then c else 0) (fun i => if i < 0 then c else 0) (fun i j => ((F i j : Nat) : Int)) :=
    (MatZ.made (by simpa [Value.cells, toList_madeCells_one] using hown) hlt1 _).congr (fun i _ => ⟨rfl, by simp, by simp, fun j hj => rfl⟩)
  have KO : Hid _ := ho1
  have KB : Hid (Below w.heap.size w w1) := hb1
  clear hown hgrow hlt1 ho1 hb1 hi hz0 hz1 hz2
  go_loopw [14] (fun i wr => ∃ k A, k ≤ r ∧ i = .int .i64 ((k : Nat) : Int) ∧ MatI wr w.heap.size wr.heap.size (some ⟨w.heap.size, 0, none⟩) r r A (fun i => if i < k then c else 0) (fun i => if i < k then c else 0) (fun i j => ((F i j : Nat) : Int)) ∧ (∀ i, k ≤ i → A i = none) ∧ Below w.heap.size w wr) (fun i _ => r - (intOf i).toNat)
  case atStart => exact ⟨0, _, Nat.zero_le _, rfl, KO.out, fun _ _ => rfl, KB.out⟩
  case round =>
    obtain ⟨k, A, hk, rfl, hown, hAn, hbel⟩ := hrel
    clear KO KB
    by_cases hlt : k < r
    · have hlti : (k : Int) < (r : Int) := by omega
      have KA : Hid _ := hAn
      have KM : Hid (MatI wr w.heap.size wr.heap.size (some ⟨w.heap.size, 0, none⟩) r r A (fun i => if i < k then c else 0) (fun i => if i < k then c else 0) (fun i j => ((F i j : Nat) : Int))) := hown
      have KB : Hid (Below w.heap.size w wr) := hbel
      have hsz := hbel.size
      have hGlt := hown.olt.2
      have hold0 := hown.hdr hlt
      have hfr0 := hown.ofree k
      simp only [Nat.lt_irrefl, if_false] at hold0
      clear hAn hown hbel
      go_wp2_with (at_make; refine wpList_make_full _ rfl _ _ 43 rfl wr.heap.size 3 j0 (.int .i64 0) 1 Tryz.underlying43 hj hy0 hy1 .i64 .i64 _ _ c rfl rfl rfl rfl (by rw [hy2]; omega) (by unfold maxLen; omega) (Nat.le_refl _) ?_; intro w2 hown2 hgrow2; have hb2 : Below wr.heap.size wr w2 := (Below.refl _ _).grown hgrow2 (Nat.le_refl _) (by simp); have hold2 := (hb2.cell (p := ⟨w.heap.size, k, none⟩) hGlt).trans hold0; have hfr2 := (World.frozen?_of_block (a := ⟨w.heap.size, k, none⟩) (hb2.block _ hGlt)).trans hfr0)
      have ho2 : w2.ownsRow wr.heap.size 3 1 (.slice (some ⟨wr.heap.size, 0, none⟩) c c) c ((zI (fun _ => 0) c).map (Value.int .i64)) := by
        rw [zI_const c 0 (fun _ _ => rfl)]
        simpa [Value.cells, toList_madeCells_one] using hown2
      have hSR := ((KM.out.below hb2).wide hb2.size).setRow tiNe hlt (own_base ho2 hsz) (World.ownsRow.lt ho2 _ rfl).2 (fun j hj _ x ex => by have := KM.out.rE j hj x ex; exact Nat.ne_of_lt this)
      obtain ⟨A', KA'⟩ : ∃ A', Hid (A' = fun i => if i = k then some ⟨wr.heap.size, 0, none⟩ else A i) := ⟨_, rfl⟩
      obtain ⟨g1, hg1⟩ : ∃ g1, wr.heap.size = g1 := ⟨_, rfl⟩
      rw [hg1] at hSR KA' ⊢
      obtain ⟨w3, hw3⟩ : ∃ w3, w2.setCell ⟨w.heap.size, k, none⟩ (.slice (some ⟨g1, 0, none⟩) c c) = w3 := ⟨_, rfl⟩
      rw [hw3] at hSR ⊢
      have hA'k : A' k = some ⟨g1, 0, none⟩ := by rw [KA'.out]; simp
      have KS : Hid (MatI w3 w.heap.size w3.heap.size (some ⟨w.heap.size, 0, none⟩) r r A' (fun i => if i < k + 1 then c else 0) (fun i => if i < k + 1 then c else 0) (fun i j => if i = k ∧ 0 ≤ j then 0 else ((F i j : Nat) : Int))) :=
        (hSR.1.wide hSR.2.size).congr (fun i _ => by
          rw [KA'.out]
          by_cases e : i = k
          · subst e; simp
          · by_cases e2 : i < k
            · simp [e, e2, show i < k + 1 by omega]
            · simp [e, e2, show ¬ i < k + 1 by omega])
      have KB2 : Hid (Below w.heap.size w w3) := by
        rw [← hw3]
        exact (below2 KB.out hb2).setCell (Nat.le_refl _) _
      clear hSR hw3 ho2 hown2 hgrow2 hb2 hold2 hfr2 hold0 hfr0 KM KB hGlt
      go_loopw [27] (fun j wr => ∃ q : Nat, q ≤ c ∧ j = .int .i64 (q : Int) ∧ MatI wr w.heap.size wr.heap.size (some ⟨w.heap.size, 0, none⟩) r r A' (fun i => if i < k + 1 then c else 0) (fun i => if i < k + 1 then c else 0) (fun i j => if i = k ∧ q ≤ j then 0 else ((F i j : Nat) : Int)) ∧ Below w.heap.size w wr) (fun j _ => c - (intOf j).toNat)
      case atStart => exact ⟨0, Nat.zero_le _, rfl, KS.out, KB2.out⟩
      case round =>
        obtain ⟨q, hq, rfl, hM, hbel⟩ := hrel
        clear KS KB2
        by_cases hqc : q < c
        · have hqci : (q : Int) < (c : Int) := by omega
          have hhd := hM.hdr hlt
          rw [hA'k] at hhd
          simp only [Nat.lt_succ_self, if_true] at hhd
          have hel := hM.elt (j := q) hlt hA'k (by simp only [Nat.lt_succ_self, if_true]; exact hqc)
          simp only [Nat.le_refl, and_self, if_true] at hel
          have hcall := hp wr.drew k q ⟨hbel.os, hbel.tape, hbel.output, hbel.size, hbel.block⟩ hlt hqc
          have hFkq := hF k q
          have hGl := hM.olt.2
          have hgl := (hM.glt hlt hA'k).2
          have KM : Hid (MatI wr w.heap.size wr.heap.size (some ⟨w.heap.size, 0, none⟩) r r A' (fun i => if i < k + 1 then c else 0) (fun i => if i < k + 1 then c else 0) (fun i j => if i = k ∧ q ≤ j then 0 else ((F i j : Nat) : Int))) := hM
          have KP : Hid (FillBy g lb r c F w) := hp
          have KF : Hid (∀ i j, F i j < 256) := hF
          have KB : Hid (Below w.heap.size w wr) := hbel
          have hfr := hM.free hlt hA'k q
          clear hM hp hF hbel
          generalize hX : F k q = X at hcall hFkq
          have KX : Hid (F k q = X) := hX
          clear hX
          go_wp2_with fail
          go_region_with ((go_at_fn g; refine Calls.mono hcall ?_; rintro e w5 ⟨rfl, hb5'⟩; have hb5 := below_of_drew hb5'; clear hb5'; have hhd5 := (hb5.cell (p := ⟨w.heap.size, k, none⟩) hGl).trans hhd; have hel5 := (hb5.cell (p := ⟨g1, q, none⟩) hgl).trans hel; have hfr5 := (World.frozen?_of_block (a := ⟨g1, q, none⟩) (hb5.block _ hgl)).trans hfr))
          all_goals
            have hwx : IntKind.i64.wrap (X : Int) = (X : Int) := by rw [IntKind.wrap_i64]; omega
            rw [hwx]
            have hSE := ((KM.out.below hb5).wide hb5.size).setElt tiNe (j := q) hlt hA'k (by simp only [Nat.lt_succ_self, if_true]; exact hqc) (X : Int)
            have HS : Hid (MatI (w5.setCell ⟨g1, q, none⟩ (.int .i64 (X : Int))) w.heap.size (w5.setCell ⟨g1, q, none⟩ (.int .i64 (X : Int))).heap.size (some ⟨w.heap.size, 0, none⟩) r r A' (fun i => if i < k + 1 then c else 0) (fun i => if i < k + 1 then c else 0) (fun i j => if i = k ∧ q + 1 ≤ j then 0 else ((F i j : Nat) : Int))) :=
              (hSE.1.wide hSE.2.size).congr (fun i _ => ⟨rfl, rfl, rfl, fun j _ => by
                by_cases e : i = k
                · subst e
                  by_cases e2 : j = q
                  · subst e2
                    rw [if_pos ⟨rfl, rfl⟩, if_neg (by omega), KX.out]
                  · rw [if_neg (by omega)]
                    by_cases e3 : q ≤ j
                    · rw [if_pos ⟨rfl, e3⟩, if_pos ⟨rfl, by omega⟩]
                    · rw [if_neg (by omega), if_neg (by omega)]
                · rw [if_neg (by omega), if_neg (by omega), if_neg (by omega)]⟩)
            have HB : Hid (Below w.heap.size w (w5.setCell ⟨g1, q, none⟩ (.int .i64 (X : Int)))) := (below2 KB.out hb5).setCell (show w.heap.size ≤ g1 by omega) _
            clear hSE hcall
            go_wp2
            go_roundw
            case rel => exact ⟨q + 1, by omega, by go_num, HS.out, HB.out⟩
            case measure => simp [intOf] <;> omega
        · obtain rfl : q = c := by omega
          have KM : Hid (MatI wr w.heap.size wr.heap.size (some ⟨w.heap.size, 0, none⟩) r r A' (fun i => if i < k + 1 then q else 0) (fun i => if i < k + 1 then q else 0) (fun i j => if i = k ∧ q ≤ j then 0 else ((F i j : Nat) : Int))) := hM
          have KP : Hid (FillBy g lb r q F w) := hp
          clear hM hp
          go_wp2
          go_roundw
          case rel => exact ⟨k + 1, A', by omega, by go_num, KM.out.congr (fun i hi => ⟨rfl, rfl, rfl, fun j hj => by
            rw [if_neg]
            intro h
            by_cases e : i < k + 1
            · rw [if_pos e] at hj; omega
            · omega⟩), fun i hi => by rw [KA'.out]; simp [show i ≠ k by omega, KA.out i (by omega)], hbel⟩
          case measure => simp [intOf] <;> omega
    · obtain rfl : k = r := by omega
      have KM : Hid _ := hown
      clear hown hAn hp
      go_wp2
      go_ret
      exact ⟨rfl, ⟨A, KM.out.congr (fun i hi => ⟨rfl, if_pos hi, if_pos hi, fun j _ => rfl⟩)⟩, hbel⟩
end Go.Proofs.YthnjhjgffkilcaaGreatDoor
/- The program reads a matrix: what it is when it is one, and that it is none. Conditions: at most 2^20 rows, at most 2^20 numbers a row. -/
namespace Go.Proofs.YthnjhjgffkilcaaGreatDoor
set_option maxRecDepth 2000
open Go.ChangeShapes Go.WideShapes Go.ChangeAt Go.RowKit

/-- It is a matrix. -/
def OkM (n : Nat) (L : Nat → Nat) (Z : Nat → Nat → Int) : Prop := 1 ≤ n ∧ n ≤ 16 ∧ 1 ≤ L 0 ∧ L 0 ≤ 16 ∧ ∀ i, i < n → L i = L 0 ∧ ∀ j, j < L 0 → isB (Z i j) = true
/-- Its numbers. -/
def cZ (Z : Nat → Nat → Int) (i j : Nat) : Nat := (Z i j).toNat
theorem readE_z (z : Nat → Int) (n : Nat) {w : World} {B g : Nat} (h : OwnU w B g n n (coP (zI z n))) : w.ownsRow B 155 1 (.slice (some ⟨g, 0, none⟩) n n) n ((zI (fun j => (((z j).toNat : Nat) : Int)) n).map (Value.int .u8)) := by
  unfold OwnU at h
  rw [eI_zI, zI_congr (g := fun j => (((z j).toNat : Nat) : Int)) (fun j hj => by unfold coP; rw [zI_getD z n j hj])] at h
  exact h
set_option maxHeartbeats 2000000 in
theorem readM_yes (a : Option Addr) (n cap : Nat) (L : Nat → Nat) (Z : Nat → Nat → Int) (w : World) (h : MatAt w a n L Z) (ok : OkM n L Z) :
    Calls Tryz.prog 231 #[.slice a n cap] w fun e w' => e = .returned (.tuple #[.slice (some ⟨w.heap.size, 0, none⟩) n n, .bool true]) ∧ (∃ g : Nat → Nat, MatU w' w.heap.size w'.heap.size (some ⟨w.heap.size, 0, none⟩) n n (fun i => some ⟨g i, 0, none⟩) (fun _ => L 0) (fun _ => L 0) (fun i j => ((cZ Z i j : Nat) : Int))) ∧ Below w.heap.size w w' := by
  obtain ⟨i0, hi, hz0, hz1, hz2⟩ := info_parts Tryz.infoElems
  obtain ⟨hn1, hn2, hl1, hl2, hall⟩ := ok
  obtain ⟨b0, off0, ai0, ci0, e0, hc0, _⟩ := h 0 (by omega)
  subst e0
  rw [Nat.add_zero] at hc0
  obtain ⟨l, hl⟩ : ∃ l, L 0 = l := ⟨_, rfl⟩
  rw [hl] at hc0 hl1 hl2 hall ⊢
  have hs1 : side (n : Int) = true := by rw [side_nat]; simp; omega
  have hs2 : side (l : Int) = true := by rw [side_nat]; simp; omega
  have hn1' : (1 : Int) ≤ (n : Int) := by omega
  have hb0 := block_lt_of_cell hc0
  have KH : Hid (MatAt w (some ⟨b0, off0, none⟩) n L Z) := h
  have KA : Hid _ := hall
  clear h hall hl
  go_enter Tryz.func231, Tryz.ntmps231
  go_wp2_with (first | (go_at_call 140; refine (isSide_any _ _).mono ?_; rintro e w' ⟨rfl, hw⟩; obtain rfl := hw.symm) | (at_make; refine wpList_make_full _ rfl _ _ 256 rfl w.heap.size 259 i0 (.slice none 0 0) 1 Tryz.underlying256 hi hz0 hz1 .i64 .i64 _ _ n rfl rfl rfl rfl (by rw [hz2]; omega) (by unfold maxLen; omega) (Nat.le_refl _) ?_; intro w1 hown hgrow))
  have hb1 : Below w.heap.size w w1 := (Below.refl _ _).grown hgrow (Nat.le_refl _) (by simp)
  have hlt1 := (World.ownsRow.lt hown _ rfl).2
  have KO : Hid (MatU w1 w.heap.size w1.heap.size (some ⟨w.heap.size, 0, none⟩) n n (fun i => if i < 0 then some ⟨0, 0, none⟩ else none) (fun i => if i < 0 then l else 0) (fun i => if i < 0 then l else 0) (fun i j => ((cZ Z i j : Nat) : Int))) :=
    (MatZ.made (by simpa [Value.cells, toList_madeCells_one] using hown) hlt1 _).congr (fun i _ => ⟨by simp, by simp, by simp, fun j hj => rfl⟩)
  have KB : Hid (Below w.heap.size w w1) := hb1
  clear hown hgrow hlt1 hb1 hi hz0 hz1 hz2
  go_loopw [26] (fun i wr => ∃ (k : Nat) (g : Nat → Nat), k ≤ n ∧ i = .int .i64 ((k : Nat) : Int) ∧ MatU wr w.heap.size wr.heap.size (some ⟨w.heap.size, 0, none⟩) n n (fun i => if i < k then some ⟨g i, 0, none⟩ else none) (fun i => if i < k then l else 0) (fun i => if i < k then l else 0) (fun i j => ((cZ Z i j : Nat) : Int)) ∧ Below w.heap.size w wr) (fun i _ => n - (intOf i).toNat)
  case atStart => exact ⟨0, fun _ => 0, Nat.zero_le _, rfl, KO.out, KB.out⟩
  case round =>
    obtain ⟨k, g, hk, rfl, hown, hbel⟩ := hrel
    clear KO KB
    by_cases hlt : k < n
    · have hlti : (k : Int) < (n : Int) := by omega
      obtain ⟨b, off, ai, ci, eb, hc, hr⟩ := KH.out.below hbel k hlt
      cases eb
      have hLk := (KA.out k hlt).1
      have hBk := (KA.out k hlt).2
      rw [hLk] at hc hr
      have hc0' := (hbel.cell (p := ⟨b0, off0, none⟩) hb0).trans hc0
      have hrd := readE_yes ai l ci (zI (Z k) l) wr hr (by omega) (fun i hi => by rw [zI_getD _ _ _ hi]; exact hBk i hi)
      have KM : Hid (MatU wr w.heap.size wr.heap.size (some ⟨w.heap.size, 0, none⟩) n n (fun i => if i < k then some ⟨g i, 0, none⟩ else none) (fun i => if i < k then l else 0) (fun i => if i < k then l else 0) (fun i j => ((cZ Z i j : Nat) : Int))) := hown
      have KR : Hid _ := hrd
      have KB : Hid (Below w.heap.size w wr) := hbel
      clear hown hrd hBk hr hLk hc0
      go_wp2_with fail
      refine Calls.mono KR.out ?_
      rintro e w2 ⟨rfl, ho2, hb2⟩
      have hM := (KM.out.below hb2).wide hb2.size
      have hold := hM.hdr hlt
      have hfr := hM.ofree k
      simp only [Nat.lt_irrefl, if_false] at hold
      have hsz := hbel.size
      have hSR := hM.setRow teNe hlt (own_base (readE_z (Z k) l ho2) hsz) (OwnU.lt ho2).2 (fun j hj _ x ex => by have := KM.out.rE j hj x ex; exact Nat.ne_of_lt this)
      have HS : Hid (MatU (w2.setCell ⟨w.heap.size, k, none⟩ (.slice (some ⟨wr.heap.size, 0, none⟩) l l)) w.heap.size (w2.setCell ⟨w.heap.size, k, none⟩ (.slice (some ⟨wr.heap.size, 0, none⟩) l l)).heap.size (some ⟨w.heap.size, 0, none⟩) n n (fun i => if i < k + 1 then some ⟨(fun i => if i = k then wr.heap.size else g i) i, 0, none⟩ else none) (fun i => if i < k + 1 then l else 0) (fun i => if i < k + 1 then l else 0) (fun i j => ((cZ Z i j : Nat) : Int))) :=
        (hSR.1.wide hSR.2.size).congr (fun i _ => by
          by_cases e : i = k
          · subst e; simp [cZ]
          · by_cases e2 : i < k
            · simp [e, e2, show i < k + 1 by omega]
            · simp [e, e2, show ¬ i < k + 1 by omega])
      have HB : Hid (Below w.heap.size w (w2.setCell ⟨w.heap.size, k, none⟩ (.slice (some ⟨wr.heap.size, 0, none⟩) l l))) := (below2 KB.out hb2).setCell (Nat.le_refl _) _
      clear hM ho2 hb2 hbel hSR KM KR
      go_wp2
      go_roundw
      case rel => exact ⟨k + 1, _, by omega, by go_num, HS.out, HB.out⟩
      case measure => simp [intOf] <;> omega
    · obtain rfl : k = n := by omega
      have KM : Hid (MatU wr w.heap.size wr.heap.size (some ⟨w.heap.size, 0, none⟩) k k (fun i => if i < k then some ⟨g i, 0, none⟩ else none) (fun i => if i < k then l else 0) (fun i => if i < k then l else 0) (fun i j => ((cZ Z i j : Nat) : Int))) := hown
      clear hown
      go_wp2
      go_ret2
      exact ⟨rfl, ⟨g, KM.out.congr (fun i hi => ⟨if_pos hi, if_pos hi, if_pos hi, fun j _ => rfl⟩)⟩, hbel⟩
end Go.Proofs.YthnjhjgffkilcaaGreatDoor
/- The program reads what is no matrix; whether it is one. Conditions: at most 2^20 rows, at most 2^20 numbers a row. -/
namespace Go.Proofs.YthnjhjgffkilcaaGreatDoor
set_option maxRecDepth 2000
open Go.ChangeShapes Go.WideShapes Go.ChangeAt Go.RowKit

theorem OkM.not {n : Nat} {L : Nat → Nat} {Z : Nat → Nat → Int} (h : ¬ OkM n L Z) (h1 : 1 ≤ n) (h2 : n ≤ 16) (h3 : 1 ≤ L 0) (h4 : L 0 ≤ 16) : ∃ q, q < n ∧ ¬ (L q = L 0 ∧ ∀ j, j < L 0 → isB (Z q j) = true) := by
  refine Classical.byContradiction fun hno => h ⟨h1, h2, h3, h4, fun i hi => ?_⟩
  exact Classical.byContradiction fun hc => hno ⟨i, hi, hc⟩
set_option maxHeartbeats 2000000 in
theorem readM_no (a : Option Addr) (n cap : Nat) (L : Nat → Nat) (Z : Nat → Nat → Int) (w : World) (h : MatAt w a n L Z) (hL : ∀ i, i < n → L i ≤ 1048576) (ok : ¬ OkM n L Z) :
    Calls Tryz.prog 231 #[.slice a n cap] w fun e w' => e = .returned (.tuple #[.slice none 0 0, .bool false]) ∧ Below w.heap.size w w' := by
  obtain ⟨i0, hi, hz0, hz1, hz2⟩ := info_parts Tryz.infoElems
  by_cases hn : 1 ≤ n ∧ n ≤ 16
  · obtain ⟨hn1, hn2⟩ := hn
    obtain ⟨b0, off0, ai0, ci0, e0, hc0, _⟩ := h 0 (by omega)
    subst e0
    rw [Nat.add_zero] at hc0
    have hs1 : side (n : Int) = true := by rw [side_nat]; simp; omega
    have hn1' : (1 : Int) ≤ (n : Int) := by omega
    have hb0 := block_lt_of_cell hc0
    by_cases hl : 1 ≤ L 0 ∧ L 0 ≤ 16
    · obtain ⟨hl1, hl2⟩ := hl
      obtain ⟨q, hq, hbad⟩ := OkM.not ok hn1 hn2 hl1 hl2
      obtain ⟨l, hl⟩ : ∃ l, L 0 = l := ⟨_, rfl⟩
      rw [hl] at hc0 hl1 hl2 hbad
      have hs2 : side (l : Int) = true := by rw [side_nat]; simp; omega
      have KH : Hid (MatAt w (some ⟨b0, off0, none⟩) n L Z) := h
      have KL : Hid _ := hL
      have KB : Hid _ := hbad
      clear h hl hL hbad ok
      go_enter Tryz.func231, Tryz.ntmps231
      go_wp2_with (first | (go_at_call 140; refine (isSide_any _ _).mono ?_; rintro e w' ⟨rfl, hw⟩; obtain rfl := hw.symm) | (at_make; refine wpList_make_full _ rfl _ _ 256 rfl w.heap.size 259 i0 (.slice none 0 0) 1 Tryz.underlying256 hi hz0 hz1 .i64 .i64 _ _ n rfl rfl rfl rfl (by rw [hz2]; omega) (by unfold maxLen; omega) (Nat.le_refl _) ?_; intro w1 hown hgrow))
      have hb1 : Below w.heap.size w w1 := (Below.refl _ _).grown hgrow (Nat.le_refl _) (by simp)
      clear hgrow hi hz0 hz1 hz2
      go_loopw [26] (fun i wr => ∃ (k : Nat) (vs : List Value), k ≤ q ∧ i = .int .i64 ((k : Nat) : Int) ∧ wr.ownsRow w.heap.size 259 1 (.slice (some ⟨w.heap.size, 0, none⟩) n n) n vs ∧ Below w.heap.size w wr) (fun i _ => n - (intOf i).toNat)
      case atStart => exact ⟨0, _, Nat.zero_le _, rfl, hown, hb1⟩
      case round =>
        obtain ⟨k, vs, hk, rfl, hown', hbel⟩ := hrel
        clear hown hb1
        have hlt : k < n := by omega
        have hlti : (k : Int) < (n : Int) := by omega
        obtain ⟨b, off, ai, ci, eb, hc, hr⟩ := KH.out.below hbel k hlt
        cases eb
        have hc0' := (hbel.cell (p := ⟨b0, off0, none⟩) hb0).trans hc0
        have hLk := KL.out k hlt
        clear hc0
        by_cases hkl : L k = l
        · rw [hkl] at hc hr
          by_cases hB : ∀ j, j < l → isB (Z k j) = true
          · have hkq : k ≠ q := fun e => KB.out (by rw [← e]; exact ⟨hkl, hB⟩)
            have hrd := readE_yes ai l ci (zI (Z k) l) wr hr (by omega) (fun i hi => by rw [zI_getD _ _ _ hi]; exact hB i hi)
            obtain ⟨old, hold⟩ : ∃ v, wr.cell? ⟨w.heap.size, k, none⟩ = some v := by
              rw [hown'.cellAt k (by omega)]
              exact ⟨_, List.getElem?_eq_getElem (by rw [hown'.1]; omega)⟩
            have hfr := hown'.frozenAt k
            have hGlt := (hown'.lt _ rfl).2
            have KR : Hid _ := hrd
            have KW : Hid _ := hown'
            have KE : Hid (Below w.heap.size w wr) := hbel
            clear hrd hB hr hown' hbel
            go_wp2_with fail
            refine Calls.mono KR.out ?_
            rintro e w2 ⟨rfl, _, hb2⟩
            have hold2 := (hb2.cell (p := ⟨w.heap.size, k, none⟩) hGlt).trans hold
            have hfr2 := (World.frozen?_of_block (a := ⟨w.heap.size, k, none⟩) (hb2.block _ hGlt)).trans hfr
            have HS : Hid _ := ((ownsRow_below KW.out hb2).stored k (.slice (some ⟨wr.heap.size, 0, none⟩) l l)).1
            have HB : Hid (Below w.heap.size w (w2.setCell ⟨w.heap.size, k, none⟩ (.slice (some ⟨wr.heap.size, 0, none⟩) l l))) := (below2 KE.out hb2).setCell (Nat.le_refl _) _
            clear hb2 hold hfr KR KW
            go_wp2
            go_roundw
            case rel => exact ⟨k + 1, _, by omega, by go_num, HS.out, HB.out⟩
            case measure => simp [intOf] <;> omega
          · have hrd := readE_no ai l ci (zI (Z k) l) wr hr (by omega) (by
              refine Classical.byContradiction fun hno => hB fun j hj => ?_
              refine Classical.byContradiction fun hc => hno ⟨j, hj, ?_⟩
              rw [zI_getD _ _ _ hj]
              simpa using hc)
            have KR : Hid _ := hrd
            have KE : Hid (Below w.heap.size w wr) := hbel
            clear hrd hB hr hown' hbel
            go_wp2_with fail
            refine Calls.mono KR.out ?_
            rintro e w2 ⟨rfl, hb2⟩
            go_wp2
            go_ret2
            exact ⟨rfl, below2 KE.out hb2⟩
        · have hne : ((L k : Int) != (l : Int)) = true := by simp; omega
          generalize L k = lk at hc hne
          clear hown' hr
          go_wp2
          go_ret2
          exact ⟨rfl, hbel⟩
    · have hs2 : side (L 0 : Int) = false := by rw [side_nat]; simp; omega
      clear h hL ok hl
      generalize L 0 = l at hc0 hs2
      go_enter Tryz.func231, Tryz.ntmps231
      go_wp2_with (go_at_call 140; refine (isSide_any _ _).mono ?_; rintro e w' ⟨rfl, hw⟩; obtain rfl := hw.symm)
      go_ret2
      exact ⟨rfl, Below.refl _ _⟩
  · have hs1 : side (n : Int) = false := by rw [side_nat]; simp; omega
    clear h hL ok
    go_enter Tryz.func231, Tryz.ntmps231
    go_wp2_with (go_at_call 140; refine (isSide_any _ _).mono ?_; rintro e w' ⟨rfl, hw⟩; obtain rfl := hw.symm)
    go_ret2
    exact ⟨rfl, Below.refl _ _⟩
/-- Whether it is a matrix. -/
noncomputable def okM (n : Nat) (L : Nat → Nat) (Z : Nat → Nat → Int) : Bool := @decide (OkM n L Z) (Classical.propDecidable _)
theorem okM_yes {n : Nat} {L : Nat → Nat} {Z : Nat → Nat → Int} (h : OkM n L Z) : okM n L Z = true := by unfold okM; exact @decide_eq_true _ (Classical.propDecidable _) h
theorem okM_no {n : Nat} {L : Nat → Nat} {Z : Nat → Nat → Int} (h : ¬ OkM n L Z) : okM n L Z = false := by unfold okM; exact @decide_eq_false _ (Classical.propDecidable _) h
end Go.Proofs.YthnjhjgffkilcaaGreatDoor
/- The program's functions that answer with a matrix made by a function of the place: the unit, a spread, a matrix turned. Conditions: at most 2^20 rows, at most 2^20 numbers a row, where a matrix is read. -/
namespace Go.Proofs.YthnjhjgffkilcaaGreatDoor
set_option maxRecDepth 2000
open Go.ChangeShapes Go.WideShapes Go.ChangeAt Go.RowKit

/-- A matrix that was answered, in new memory. -/
def ResM (w w' : World) (v : Value) (r c : Nat) (F : Nat → Nat → Nat) : Prop := ∃ a cap A C, v = .slice a r cap ∧ MatI w' w.heap.size w'.heap.size a r cap A (fun _ => c) C (fun i j => ((F i j : Nat) : Int))
theorem ResM.none (w w' : World) (c : Nat) (F : Nat → Nat → Nat) : ResM w w' (.slice none 0 0) 0 c F := ⟨_, _, fun _ => .none, fun _ => 0, rfl, MatZ.nil _ _ _ _ _ _ _ _ _ _⟩
theorem ResM.mk {w w' : World} {a : Option Addr} {r cap c : Nat} {A : Nat → Option Addr} {C : Nat → Nat} {F : Nat → Nat → Nat} {B : Nat} (h : MatI w' B w'.heap.size a r cap A (fun _ => c) C (fun i j => ((F i j : Nat) : Int))) (hB : w.heap.size ≤ B) : ResM w w' (.slice a r cap) r c F :=
  ⟨a, cap, A, C, rfl, ⟨own_base h.out hB, h.oE, fun i hi => own_base (h.row i hi) hB, h.rE, h.apart⟩⟩

set_option maxHeartbeats 1000000 in
theorem spread1_any (kb k i j : Nat) (w : World) (hk : w.cell? ⟨kb, 0, none⟩ = some (.int .i64 (k : Int))) (hi : i < 256) (hj : j < 256) :
    Calls Tryz.prog 142 #[.int .i64 (i : Int), .int .i64 (j : Int), .pointer (some ⟨kb, 0, none⟩)] w fun e w' => e = .returned (.int .u8 ((Gm.sprd k i j : Nat) : Int)) ∧ Below w.heap.size w w' := by
  by_cases h : i < k
  · have h' : (i : Int) < (k : Int) := by omega
    have HS : Hid (Gm.sprd k i j = Gm.dl i j) := by show _ = _; unfold Gm.sprd; rw [if_pos h]
    go_enter Tryz.func142, Tryz.ntmps142
    go_wp2_with (go_at_call 143; refine (unitAt_any i j _).mono ?_; rintro e w' ⟨rfl, hw⟩; obtain rfl := hw.symm)
    go_ret
    exact ⟨by rw [HS.out] <;> rfl, Below.refl _ _⟩
  · have h' : ¬ (i : Int) < (k : Int) := by omega
    have HS : Hid (Gm.sprd k i j = Gf.inv (i ^^^ j)) := by show _ = _; unfold Gm.sprd; rw [if_neg h]
    have hx := Gf.xor_lt hi hj
    go_enter Tryz.func142, Tryz.ntmps142
    go_wp2_with (first | (go_at_call 144; refine (plus_any i j _ hi hj).mono ?_; rintro e w' ⟨rfl, hw⟩; obtain rfl := hw.symm) | (go_at_call 145; refine (inverse_any (i ^^^ j) _ hx).mono ?_; rintro e w2 ⟨rfl, hb2⟩))
    go_ret
    exact ⟨by rw [HS.out] <;> rfl, hb2⟩
theorem spreadEnter : ∀ args w, (callFunc 142 args).run Tryz.prog w = .ok (.enter 142 args) w := enters_of Tryz.func142 (by kernel_rfl) rfl
theorem spreadFill (kb k r c : Nat) (w : World) (hk : w.cell? ⟨kb, 0, none⟩ = some (.int .i64 (k : Int))) (hr : r ≤ 256) (hc : c ≤ 256) : FillBy 142 #[.pointer (some ⟨kb, 0, none⟩)] r c (Gm.sprd k) w := fun W i j hb hi hj =>
  spread1_any kb k i j W ((hb.cell (p := ⟨kb, 0, none⟩) (block_lt_of_cell hk)).trans hk) (by omega) (by omega)
theorem boxed (w : World) (v : Value) (t : TypeId) : (w.alloc (.cells #[v] t)).cell? ⟨w.heap.size, 0, none⟩ = some v := cell_of_one (heap_alloc_new w _)
def sprOk (k n : Int) : Bool := side n && decide (1 ≤ k ∧ k ≤ n)
def sprR (k n : Int) : Nat := if sprOk k n = true then n.toNat else 0
set_option maxHeartbeats 1000000 in
theorem spread_any (k n : Int) (w : World) : Calls Tryz.prog 91 #[.int .i64 k, .int .i64 n] w fun e w' => ∃ v, e = .returned (.tuple #[v, .bool (sprOk k n)]) ∧ ResM w w' v (sprR k n) k.toNat (Gm.sprd k.toNat) ∧ Below w.heap.size w w' := by
  have hbx := boxed w (.int .i64 k) 3
  have hb1 : Below w.heap.size w (w.alloc (.cells #[.int .i64 k] 3)) := (Below.refl _ _).alloc (Nat.le_refl _) _
  have hsz : (w.alloc (.cells #[.int .i64 k] 3)).heap.size = w.heap.size + 1 := by simp
  by_cases h1 : side n = true
  · by_cases h2 : 1 ≤ k
    · by_cases h3 : k ≤ n
      · have hr : 1 ≤ n ∧ n ≤ 16 := by simpa [side] using h1
        have hok : sprOk k n = true := by unfold sprOk; rw [h1]; simp; omega
        obtain ⟨N, rfl⟩ : ∃ N : Nat, n = (N : Int) := ⟨n.toNat, by omega⟩
        obtain ⟨K, rfl⟩ : ∃ K : Nat, k = (K : Int) := ⟨k.toNat, by omega⟩
        have hN : sprR (K : Int) (N : Int) = N := by unfold sprR; rw [if_pos hok]; simp
        rw [hN, hok, Int.toNat_natCast]
        have KF : Hid _ := filled_any 142 #[.pointer (some ⟨w.heap.size, 0, none⟩)] spreadEnter N K (Gm.sprd K) _ (spreadFill w.heap.size K N K _ hbx (by omega) (by omega)) (Gm.sprd_byt K) (by omega) (by omega)
        have h2' : ¬ (K : Int) < 1 := by omega
        have h3' : ¬ (K : Int) > (N : Int) := by omega
        obtain ⟨w1, hw1⟩ : ∃ w1, w.alloc (.cells #[.int .i64 (K : Int)] 3) = w1 := ⟨_, rfl⟩
        have KW : Hid (w.alloc (.cells #[.int .i64 (K : Int)] 3) = w1) := hw1
        rw [hw1] at KF hb1 hbx
        clear hw1 hN hok hsz
        go_enter Tryz.func91, Tryz.ntmps91
        go_wp2_with fail
        rw [KW.out]
        refine (isSide_any _ _).mono ?_
        rintro e w' ⟨rfl, hw⟩
        obtain rfl := hw.symm
        go_wp2_with fail
        refine Calls.mono KF.out ?_
        rintro e w2 ⟨rfl, ⟨A, hM⟩, hb2⟩
        have KM : Hid _ := hM
        clear hM
        go_wp2
        go_ret2
        exact ⟨_, rfl, ResM.mk KM.out hb1.size, below2 hb1 hb2⟩
      · have hok : sprOk k n = false := by unfold sprOk; simp [h3]
        have hN : sprR k n = 0 := by unfold sprR; rw [if_neg (by rw [hok]; simp)]
        rw [hN, hok]
        have h2' : ¬ k < 1 := by omega
        have h3' : k > n := by omega
        clear hok hN
        go_enter Tryz.func91, Tryz.ntmps91
        go_wp2_with fail
        refine (isSide_any _ _).mono ?_
        rintro e w' ⟨rfl, hw⟩
        obtain rfl := hw.symm
        go_wp2
        go_ret2
        exact ⟨_, rfl, ResM.none _ _ _ _, hb1⟩
    · have hok : sprOk k n = false := by unfold sprOk; simp [h2]
      have hN : sprR k n = 0 := by unfold sprR; rw [if_neg (by rw [hok]; simp)]
      rw [hN, hok]
      have h2' : k < 1 := by omega
      clear hok hN
      go_enter Tryz.func91, Tryz.ntmps91
      go_wp2_with fail
      refine (isSide_any _ _).mono ?_
      rintro e w' ⟨rfl, hw⟩
      obtain rfl := hw.symm
      go_wp2
      go_ret2
      exact ⟨_, rfl, ResM.none _ _ _ _, hb1⟩
  · have h1' : side n = false := by simpa using h1
    have hok : sprOk k n = false := by unfold sprOk; simp [h1']
    have hN : sprR k n = 0 := by unfold sprR; rw [if_neg (by rw [hok]; simp)]
    rw [hN, hok]
    clear hok hN
    go_enter Tryz.func91, Tryz.ntmps91
    go_wp2_with fail
    refine (isSide_any _ _).mono ?_
    rintro e w' ⟨rfl, hw⟩
    obtain rfl := hw.symm
    go_wp2
    go_ret2
    exact ⟨_, rfl, ResM.none _ _ _ _, hb1⟩
end Go.Proofs.YthnjhjgffkilcaaGreatDoor
/- The program's functions that answer with a matrix made of others: turned, rows picked out, a product. Conditions: at most 2^20 rows, at most 2^20 numbers a row. -/
namespace Go.Proofs.YthnjhjgffkilcaaGreatDoor
set_option maxRecDepth 2000
open Go.ChangeShapes Go.WideShapes Go.ChangeAt Go.RowKit

/-- A variable that holds a matrix of byte numbers. -/
def RdU (w : World) (pb r c : Nat) (F : Nat → Nat → Nat) : Prop :=
  ∃ G cap, w.cell? ⟨pb, 0, none⟩ = some (.slice (some ⟨G, 0, none⟩) r cap) ∧ ∀ i, i < r → ∃ g cc, w.cell? ⟨G, i, none⟩ = some (.slice (some ⟨g, 0, none⟩) c cc) ∧ ∀ j, j < c → w.cell? ⟨g, j, none⟩ = some (.int .u8 ((F i j : Nat) : Int))
theorem RdU.below {w w' : World} {pb r c : Nat} {F : Nat → Nat → Nat} (h : RdU w pb r c F) (hb : Below w.heap.size w w') : RdU w' pb r c F := by
  obtain ⟨G, cap, hp, hr⟩ := h
  refine ⟨G, cap, (hb.cell (p := ⟨pb, 0, none⟩) (block_lt_of_cell hp)).trans hp, fun i hi => ?_⟩
  obtain ⟨g, cc, hc, he⟩ := hr i hi
  exact ⟨g, cc, (hb.cell (p := ⟨G, i, none⟩) (block_lt_of_cell hc)).trans hc, fun j hj => (hb.cell (p := ⟨g, j, none⟩) (block_lt_of_cell (he j hj))).trans (he j hj)⟩
theorem MatU.rd {w w' : World} {B E G r cap c pb : Nat} {g : Nat → Nat} {C : Nat → Nat} {F : Nat → Nat → Nat} (h : MatU w B E (some ⟨G, 0, none⟩) r cap (fun i => some ⟨g i, 0, none⟩) (fun _ => c) C (fun i j => ((F i j : Nat) : Int))) (hb : Below w.heap.size w w') (hp : w'.cell? ⟨pb, 0, none⟩ = some (.slice (some ⟨G, 0, none⟩) r cap)) : RdU w' pb r c F := by
  have h' := h.below hb
  exact ⟨G, cap, hp, fun i hi => ⟨g i, C i, h'.hdr hi, fun j hj => h'.elt hi rfl hj⟩⟩
theorem cZ_byt {n : Nat} {L : Nat → Nat} {Z : Nat → Nat → Int} (ok : OkM n L Z) : ∀ i j, i < n → j < L 0 → cZ Z i j < 256 := fun i j hi hj => by
  obtain ⟨X, hX, e⟩ := isB_nat ((ok.2.2.2.2 i hi).2 j hj)
  unfold cZ
  rw [e]
  simpa using hX
/-- The numbers of a matrix, 0 beyond it. -/
def bZ (n : Nat) (L : Nat → Nat) (Z : Nat → Nat → Int) (i j : Nat) : Nat := if i < n ∧ j < L 0 then cZ Z i j % 256 else 0
theorem bZ_byt (n : Nat) (L : Nat → Nat) (Z : Nat → Nat → Int) : Gm.Byt (bZ n L Z) := fun i j => by unfold bZ; split <;> omega
theorem bZ_eq {n : Nat} {L : Nat → Nat} {Z : Nat → Nat → Int} (ok : OkM n L Z) {i j : Nat} (hi : i < n) (hj : j < L 0) : bZ n L Z i j = cZ Z i j := by
  unfold bZ
  rw [if_pos ⟨hi, hj⟩, Nat.mod_eq_of_lt (cZ_byt ok i j hi hj)]
/-- Reading, with its numbers as byte numbers. -/
theorem readM_b (a : Option Addr) (n cap : Nat) (L : Nat → Nat) (Z : Nat → Nat → Int) (w : World) (h : MatAt w a n L Z) (ok : OkM n L Z) :
    Calls Tryz.prog 231 #[.slice a n cap] w fun e w' => e = .returned (.tuple #[.slice (some ⟨w.heap.size, 0, none⟩) n n, .bool true]) ∧ (∃ g : Nat → Nat, MatU w' w.heap.size w'.heap.size (some ⟨w.heap.size, 0, none⟩) n n (fun i => some ⟨g i, 0, none⟩) (fun _ => L 0) (fun _ => L 0) (fun i j => ((bZ n L Z i j : Nat) : Int))) ∧ Below w.heap.size w w' := by
  refine Calls.mono (readM_yes a n cap L Z w h ok) ?_
  rintro e w' ⟨rfl, ⟨g, hM⟩, hb⟩
  exact ⟨rfl, ⟨g, hM.congr (fun i hi => ⟨rfl, rfl, rfl, fun j hj => by rw [bZ_eq ok hi hj]⟩)⟩, hb⟩
end Go.Proofs.YthnjhjgffkilcaaGreatDoor
/- The program's steps on a matrix of its own: a row scaled, a row scaled on top of another, a place cleared. Conditions: byte numbers, at most 2^20 places a row. -/
namespace Go.Proofs.YthnjhjgffkilcaaGreatDoor
set_option maxRecDepth 2000
open Go.ChangeShapes Go.WideShapes Go.ChangeAt Go.RowKit

/-- A matrix of byte numbers of ours, by the blocks of its rows. -/
abbrev MatF (w : World) (B E G r cap : Nat) (g C : Nat → Nat) (W : Nat) (F : Nat → Nat → Nat) : Prop := MatU w B E (some ⟨G, 0, none⟩) r cap (fun i => some ⟨g i, 0, none⟩) (fun _ => W) C (fun i j => ((F i j : Nat) : Int))
theorem MatF.set {w : World} {B E G r cap : Nat} {g C : Nat → Nat} {W : Nat} {F F' : Nat → Nat → Nat} {i j v : Nat} (h : MatF w B E G r cap g C W F) (hi : i < r) (hj : j < W) (e : ∀ p q, p < r → q < W → (if p = i ∧ q = j then v else F p q) = F' p q) :
    MatF (w.setCell ⟨g i, j, none⟩ (.int .u8 (v : Int))) B E G r cap g C W F' :=
  (h.setElt teNe hi rfl hj (v : Int)).1.congr (fun p hp => ⟨rfl, rfl, rfl, fun q hq => by
    rw [← e p q hp hq]
    split <;> rfl⟩)
theorem grown_belowM {w w1 w2 : World} {g : Nat} (h0 : w.grownBy w1 (some g)) (hb : Below w1.heap.size w1 w2) : w.grownBy w2 (some g) :=
  ⟨hb.os.trans h0.os, hb.tape.trans h0.tape, hb.output.trans h0.output, Nat.le_trans h0.size hb.size, fun j hj hn => (hb.block j (Nat.lt_of_lt_of_le hj h0.size)).trans (h0.block j hj hn)⟩
/-- Row 'a' scaled in its first 'k' places. -/
def sclK (a x k : Nat) (F : Nat → Nat → Nat) (i j : Nat) : Nat := if i = a ∧ j < k then Gp.m (F i j) x else F i j
set_option maxHeartbeats 2000000 in
theorem scaleRow_any (B E G r cap : Nat) (g C : Nat → Nat) (W : Nat) (F : Nat → Nat → Nat) (a x : Nat) (w : World) (h : MatF w B E G r cap g C W F) (hF : Gm.Byt F) (ha : a < r) (hx : x < 256) (hW : W ≤ 1048576) :
    Calls Tryz.prog 275 #[.slice (some ⟨G, 0, none⟩) r cap, .int .i64 (a : Int), .int .u8 (x : Int)] w fun e w' => e = .returned (.tuple #[]) ∧ MatF w' B E G r cap g C W (Gm.scl a x F) ∧ w.grownBy w' (some (g a)) := by
  have hai : (a : Int) < (r : Int) := by omega
  have hh0 := h.hdr ha
  have K0 : Hid (MatF w B E G r cap g C W F) := h
  have KF : Hid (Gm.Byt F) := hF
  clear h hF
  obtain ⟨ga, hga⟩ : ∃ ga, g a = ga := ⟨_, rfl⟩
  obtain ⟨Ca, hCa⟩ : ∃ Ca, C a = Ca := ⟨_, rfl⟩
  have KG : Hid (g a = ga) := hga
  have KC : Hid (C a = Ca) := hCa
  rw [hga, hCa] at hh0
  rw [hga]
  clear hga hCa
  go_enter Tryz.func275, Tryz.ntmps275
  go_wp2
  go_loopw [13] (fun i wr => ∃ k : Nat, k ≤ W ∧ i = .int .i64 k ∧ MatF wr B E G r cap g C W (sclK a x k F) ∧ w.grownBy wr (some ga)) (fun i _ => W - (intOf i).toNat)
  case atStart => exact ⟨0, Nat.zero_le _, rfl, K0.out.congr (fun i _ => ⟨rfl, rfl, rfl, fun j _ => by unfold sclK; rw [if_neg (by omega)]⟩), World.grownBy.refl _ _⟩
  case round =>
    obtain ⟨k, hk, rfl, hM, hgr⟩ := hrel
    clear K0
    by_cases hlt : k < W
    · have hki : (k : Int) < (W : Int) := by omega
      have hh := hM.hdr ha
      have he := hM.elt (j := k) ha rfl hlt
      have hval : sclK a x k F a k = F a k := by unfold sclK; rw [if_neg (by omega)]
      rw [hval] at he
      have hf := KF.out a k
      have hfr := hM.free ha rfl k
      have hG := hM.olt.2
      have hg := (hM.glt ha rfl).2
      have hml := Gf.mul_lt hf hx
      have KE : Hid (∀ p q, (if p = a ∧ q = k then Gf.mul (F a k) x else sclK a x k F p q) = sclK a x (k + 1) F p q) := fun p q => by
        unfold sclK
        by_cases e : p = a ∧ q = k
        · obtain ⟨rfl, rfl⟩ := e
          rw [if_pos ⟨rfl, rfl⟩, if_pos ⟨rfl, by omega⟩, Gp.m_nat hf hx]
        · rw [if_neg e]
          by_cases e2 : p = a ∧ q < k
          · rw [if_pos e2, if_pos (by omega)]
          · rw [if_neg e2, if_neg (by omega)]
      have KM : Hid (MatF wr B E G r cap g C W (sclK a x k F)) := hM
      have hGg : G ≠ ga := by
        have := MatZ.off teNe hM ha rfl
        rw [KG.out] at this
        exact this.symm
      have hk2 : ∀ (u : World) (v : Value), u.cell? ⟨G, a, none⟩ = some (.slice (some ⟨ga, 0, none⟩) W Ca) → (u.setCell ⟨ga, k, none⟩ v).cell? ⟨G, a, none⟩ = some (.slice (some ⟨ga, 0, none⟩) W Ca) := fun u v hu => (grown_set u ga k v).cell hu (by simp; exact hGg)
      clear hM hval hh0
      obtain ⟨X, hX⟩ : ∃ X, F a k = X := ⟨_, rfl⟩
      rw [hX] at he hf hml KE
      clear hX
      rw [KG.out] at hh he hfr hg
      rw [KC.out] at hh
      go_wp2_with fail
      go_region_held3 (fun w' => w'.cell? ⟨G, a, none⟩ = some (.slice (some ⟨ga, 0, none⟩) W Ca)) (first | go_keep | exact hk2 _ _ (by assumption)) ((go_at_call 146; refine (times_any X x _ hf hx).mono ?_; rintro e w1 ⟨rfl, hb1'⟩; have hb1 := below_of_drew hb1'; clear hb1'; have hh1 := (hb1.cell (p := ⟨G, a, none⟩) hG).trans hh; have he1 := (hb1.cell (p := ⟨ga, k, none⟩) hg).trans he; have hfr1 := (World.frozen?_of_block (a := ⟨ga, k, none⟩) (hb1.block _ hg)).trans hfr))
      all_goals
        have HS : Hid (MatF (w1.setCell ⟨ga, k, none⟩ (.int .u8 ((Gf.mul X x : Nat) : Int))) B E G r cap g C W (sclK a x (k + 1) F)) := by
          have := MatF.set (KM.out.below hb1) (i := a) (j := k) (v := Gf.mul X x) ha hlt (fun p q _ _ => KE.out p q)
          rw [KG.out] at this
          exact this
        have HG : Hid (w.grownBy (w1.setCell ⟨ga, k, none⟩ (.int .u8 ((Gf.mul X x : Nat) : Int))) (some ga)) := grownBy_trans (grown_belowM hgr hb1) (grown_set _ _ _ _)
        clear KM
        go_wp2
        go_roundw
        case rel => exact ⟨k + 1, by omega, by go_num, HS.out, HG.out⟩
        case measure => simp [intOf] <;> omega
    · obtain rfl : k = W := by omega
      have KM : Hid (MatF wr B E G r cap g C k (sclK a x k F)) := hM
      clear hM
      go_wp2
      go_end0
      exact ⟨rfl, KM.out.congr (fun i _ => ⟨rfl, rfl, rfl, fun j hj => by unfold sclK Gm.scl; by_cases e : i = a; rw [if_pos ⟨e, hj⟩, if_pos e]; rw [if_neg (by omega), if_neg e]⟩), hgr⟩
/-- Row 'b' times 'y' on top of row 'a' in its first 'k' places. -/
def addK (a b y k : Nat) (F : Nat → Nat → Nat) (i j : Nat) : Nat := if i = a ∧ j < k then F i j ^^^ Gp.m (F b j) y else F i j
end Go.Proofs.YthnjhjgffkilcaaGreatDoor
