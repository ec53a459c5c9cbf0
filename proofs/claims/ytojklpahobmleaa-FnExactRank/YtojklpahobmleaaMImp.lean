/- The program's small functions over matrices: a side, the unit's numbers, reading a matrix, filling one by a function. Conditions: at most 2^20 rows and numbers a row, where a matrix is read. -/
import Derived.Test.YtojklpahobmleaaMLaw
namespace Go.Proofs.Ytojklpahobmleaa
open Go.ChangeShapes Go.WideShapes Go.ChangeAt Go.RowKit

theorem Try.infoElems : (Try.prog.info? 58).map (fun i => (i.zero, i.size, i.bytes)) = some (some (.slice none 0 0), 1, 24) := by kernel_rfl
/-- A matrix of byte numbers of ours, as the program has them. -/
abbrev MatU (w : World) (B E : Nat) (a : Option Addr) (n cap : Nat) (A : Nat → Option Addr) (L C : Nat → Nat) (Z : Nat → Nat → Int) : Prop := MatZ .u8 59 58 w B E a n cap A L C Z
theorem teNe : (59 : Nat) ≠ 58 := by decide
def side (n : Int) : Bool := decide (1 ≤ n ∧ n ≤ 16)
theorem side_nat (n : Nat) : side (n : Int) = decide (1 ≤ n ∧ n ≤ 16) := by
  unfold side
  congr 1
  simp only [eq_iff_iff]
  omega
set_option maxHeartbeats 400000 in
theorem isSide_any (n : Int) (w : World) : Calls Try.prog 59 #[.int .i64 n] w fun e w' => e = .returned (.bool (side n)) ∧ w' = w := by
  go_enter Try.func59, Try.ntmps59
  go_wp2
  · go_ret
    exact ⟨ret_bool (by simp [side, *]), rfl⟩
  · go_ret
    exact ⟨ret_bool (by simp [side]; omega), rfl⟩
set_option maxHeartbeats 400000 in
theorem unitAt_any (i j : Nat) (w : World) : Calls Try.prog 49 #[.int .i64 (i : Int), .int .i64 (j : Int)] w fun e w' => e = .returned (.int .u8 ((Gm.dl i j : Nat) : Int)) ∧ w' = w := by
  by_cases h : i = j
  · subst h
    rw [Gm.dl_self]
    go_enter Try.func49, Try.ntmps49
    go_wp2
    go_ret
    exact ⟨rfl, rfl⟩
  · have h' : ((i : Int) == (j : Int)) = false := by simp; omega
    rw [Gm.dl_ne h]
    go_enter Try.func49, Try.ntmps49
    go_wp2
    go_ret
    exact ⟨rfl, rfl⟩
/-- What is asked of a function by which a matrix is filled. -/
def FillBy (g : Nat) (lb : Array Value) (r c : Nat) (F : Nat → Nat → Nat) (w : World) : Prop :=
  ∀ (W : World) (i j : Nat), Below w.heap.size w W → i < r → j < c → Calls Try.prog g (#[.int .i64 (i : Int), .int .i64 (j : Int)] ++ lb) W fun e w' => e = .returned (.int .u8 ((F i j : Nat) : Int)) ∧ Below W.heap.size W w'
theorem FillBy.below {g : Nat} {lb : Array Value} {r c : Nat} {F : Nat → Nat → Nat} {w w' : World} (h : FillBy g lb r c F w) (hb : Below w.heap.size w w') : FillBy g lb r c F w' := fun W i j hW hi hj => h W i j (below2 hb hW) hi hj
set_option maxHeartbeats 2000000 in
theorem filled_any (g : Nat) (lb : Array Value) (eg : ∀ args w, (callFunc g args).run Try.prog w = .ok (.enter g args) w) (r c : Nat) (F : Nat → Nat → Nat) (w : World) (hp : FillBy g lb r c F w) (hF : ∀ i j, F i j < 256) (hr : r ≤ 1048576) (hc : c ≤ 1048576) :
    Calls Try.prog 51 #[.int .i64 (r : Int), .int .i64 (c : Int), .func (.func g) #[] lb] w fun e w' => e = .returned (.slice (some ⟨w.heap.size, 0, none⟩) r r) ∧ (∃ A, MatI w' w.heap.size w'.heap.size (some ⟨w.heap.size, 0, none⟩) r r A (fun _ => c) (fun _ => c) (fun i j => ((F i j : Nat) : Int))) ∧ Below w.heap.size w w' := by
  obtain ⟨i0, hi, hz0, hz1, hz2⟩ := info_parts Try.infoInts
  obtain ⟨j0, hj, hy0, hy1, hy2⟩ := info_parts Try.infoInt
  go_enter Try.func51, Try.ntmps51
  go_wp2_with (at_make; refine wpList_make_full _ rfl _ _ 24 rfl w.heap.size 31 i0 (.slice none 0 0) 1 Try.underlying24 hi hz0 hz1 .i64 .i64 _ _ r rfl rfl rfl rfl (by rw [hz2]; omega) (by unfold maxLen; omega) (Nat.le_refl _) ?_; intro w1 hown hgrow)
  have hb1 : Below w.heap.size w w1 := (Below.refl _ _).grown hgrow (Nat.le_refl _) (by simp)
  have hlt1 := (World.ownsRow.lt hown _ rfl).2
  have ho1 : MatI w1 w.heap.size w1.heap.size (some ⟨w.heap.size, 0, none⟩) r r (fun _ => none) (fun i => if i < 0 then c else 0) (fun i => if i < 0 then c else 0) (fun i j => ((F i j : Nat) : Int)) :=
    (MatZ.made (by simpa [Value.cells, toList_madeCells_one] using hown) hlt1 _).congr (fun i _ => ⟨rfl, by simp, by simp, fun j hj => rfl⟩)
  have KO : Hid _ := ho1
  have KB : Hid (Below w.heap.size w w1) := hb1
  clear hown hgrow hlt1 ho1 hb1 hi hz0 hz1 hz2
  go_loopw [14] (fun i wr => ∃ k A, k ≤ r ∧ i = .int .i64 ((k : Nat) : Int) ∧ MatI wr w.heap.size wr.heap.size (some ⟨w.heap.size, 0, none⟩) r r A (fun i => if i < k then c else 0) (fun i => if i < k then c else 0) (fun i j => ((F i j : Nat) : Int)) ∧ (∀ i, k ≤ i → A i = none) ∧ Below w.heap.size w wr) (fun i _ => r - (intOf i).toNat)
  case atStart => exact ⟨0, _, Nat.zero_le _, rfl, KO.out, fun _ _ => rfl, KB.out⟩
  case round =>
    obtain ⟨k, A, hk, rfl, hown, hAn, hbel⟩ := hrel
    clear KO KB
    by_cases hlt : k < r
    · have hlti : (k : Int) < (r : Int) := by omega
      have KA : Hid _ := hAn
      have KM : Hid (MatI wr w.heap.size wr.heap.size (some ⟨w.heap.size, 0, none⟩) r r A (fun i => if i < k then c else 0) (fun i => if i < k then c else 0) (fun i j => ((F i j : Nat) : Int))) := hown
      have KB : Hid (Below w.heap.size w wr) := hbel
      have hsz := hbel.size
      have hGlt := hown.olt.2
      have hold0 := hown.hdr hlt
      have hfr0 := hown.ofree k
      simp only [Nat.lt_irrefl, if_false] at hold0
      clear hAn hown hbel
      go_wp2_with (at_make; refine wpList_make_full _ rfl _ _ 31 rfl wr.heap.size 3 j0 (.int .i64 0) 1 Try.underlying31 hj hy0 hy1 .i64 .i64 _ _ c rfl rfl rfl rfl (by rw [hy2]; omega) (by unfold maxLen; omega) (Nat.le_refl _) ?_; intro w2 hown2 hgrow2; have hb2 : Below wr.heap.size wr w2 := (Below.refl _ _).grown hgrow2 (Nat.le_refl _) (by simp); have hold2 := (hb2.cell (p := ⟨w.heap.size, k, none⟩) hGlt).trans hold0; have hfr2 := (World.frozen?_of_block (a := ⟨w.heap.size, k, none⟩) (hb2.block _ hGlt)).trans hfr0)
      have ho2 : w2.ownsRow wr.heap.size 3 1 (.slice (some ⟨wr.heap.size, 0, none⟩) c c) c ((zI (fun _ => 0) c).map (Value.int .i64)) := by
        rw [zI_const c 0 (fun _ _ => rfl)]
        simpa [Value.cells, toList_madeCells_one] using hown2
      have hSR := ((KM.out.below hb2).wide hb2.size).setRow tiNe hlt (own_base ho2 hsz) (World.ownsRow.lt ho2 _ rfl).2 (fun j hj _ x ex => by have := KM.out.rE j hj x ex; exact Nat.ne_of_lt this)
      obtain ⟨A', KA'⟩ : ∃ A', Hid (A' = fun i => if i = k then some ⟨wr.heap.size, 0, none⟩ else A i) := ⟨_, rfl⟩
      obtain ⟨g1, hg1⟩ : ∃ g1, wr.heap.size = g1 := ⟨_, rfl⟩
      rw [hg1] at hSR KA' ⊢
      obtain ⟨w3, hw3⟩ : ∃ w3, w2.setCell ⟨w.heap.size, k, none⟩ (.slice (some ⟨g1, 0, none⟩) c c) = w3 := ⟨_, rfl⟩
      rw [hw3] at hSR ⊢
      have hA'k : A' k = some ⟨g1, 0, none⟩ := by rw [KA'.out]; simp
      have KS : Hid (MatI w3 w.heap.size w3.heap.size (some ⟨w.heap.size, 0, none⟩) r r A' (fun i => if i < k + 1 then c else 0) (fun i => if i < k + 1 then c else 0) (fun i j => if i = k ∧ 0 ≤ j then 0 else ((F i j : Nat) : Int))) :=
        (hSR.1.wide hSR.2.size).congr (fun i _ => by
          rw [KA'.out]
          by_cases e : i = k
          · subst e; simp
          · by_cases e2 : i < k
            · simp [e, e2, show i < k + 1 by omega]
            · simp [e, e2, show ¬ i < k + 1 by omega])
      have KB2 : Hid (Below w.heap.size w w3) := by
        rw [← hw3]
        exact (below2 KB.out hb2).setCell (Nat.le_refl _) _
      clear hSR hw3 ho2 hown2 hgrow2 hb2 hold2 hfr2 hold0 hfr0 KM KB hGlt
      go_loopw [27] (fun j wr => ∃ q : Nat, q ≤ c ∧ j = .int .i64 (q : Int) ∧ MatI wr w.heap.size wr.heap.size (some ⟨w.heap.size, 0, none⟩) r r A' (fun i => if i < k + 1 then c else 0) (fun i => if i < k + 1 then c else 0) (fun i j => if i = k ∧ q ≤ j then 0 else ((F i j : Nat) : Int)) ∧ Below w.heap.size w wr) (fun j _ => c - (intOf j).toNat)
      case atStart => exact ⟨0, Nat.zero_le _, rfl, KS.out, KB2.out⟩
      case round =>
        obtain ⟨q, hq, rfl, hM, hbel⟩ := hrel
        clear KS KB2
        by_cases hqc : q < c
        · have hqci : (q : Int) < (c : Int) := by omega
          have hhd := hM.hdr hlt
          rw [hA'k] at hhd
          simp only [Nat.lt_succ_self, if_true] at hhd
          have hel := hM.elt (j := q) hlt hA'k (by simp only [Nat.lt_succ_self, if_true]; exact hqc)
          simp only [Nat.le_refl, and_self, if_true] at hel
          have hcall := hp wr.drew k q ⟨hbel.os, hbel.tape, hbel.output, hbel.size, hbel.block⟩ hlt hqc
          have hFkq := hF k q
          have hGl := hM.olt.2
          have hgl := (hM.glt hlt hA'k).2
          have KM : Hid (MatI wr w.heap.size wr.heap.size (some ⟨w.heap.size, 0, none⟩) r r A' (fun i => if i < k + 1 then c else 0) (fun i => if i < k + 1 then c else 0) (fun i j => if i = k ∧ q ≤ j then 0 else ((F i j : Nat) : Int))) := hM
          have KP : Hid (FillBy g lb r c F w) := hp
          have KF : Hid (∀ i j, F i j < 256) := hF
          have KB : Hid (Below w.heap.size w wr) := hbel
          have hfr := hM.free hlt hA'k q
          clear hM hp hF hbel
          generalize hX : F k q = X at hcall hFkq
          have KX : Hid (F k q = X) := hX
          clear hX
          go_wp2_with fail
          go_region_with ((go_at_fn g; refine Calls.mono hcall ?_; rintro e w5 ⟨rfl, hb5'⟩; have hb5 := below_of_drew hb5'; clear hb5'; have hhd5 := (hb5.cell (p := ⟨w.heap.size, k, none⟩) hGl).trans hhd; have hel5 := (hb5.cell (p := ⟨g1, q, none⟩) hgl).trans hel; have hfr5 := (World.frozen?_of_block (a := ⟨g1, q, none⟩) (hb5.block _ hgl)).trans hfr))
          all_goals
            have hwx : IntKind.i64.wrap (X : Int) = (X : Int) := by rw [IntKind.wrap_i64]; omega
            rw [hwx]
            have hSE := ((KM.out.below hb5).wide hb5.size).setElt tiNe (j := q) hlt hA'k (by simp only [Nat.lt_succ_self, if_true]; exact hqc) (X : Int)
            have HS : Hid (MatI (w5.setCell ⟨g1, q, none⟩ (.int .i64 (X : Int))) w.heap.size (w5.setCell ⟨g1, q, none⟩ (.int .i64 (X : Int))).heap.size (some ⟨w.heap.size, 0, none⟩) r r A' (fun i => if i < k + 1 then c else 0) (fun i => if i < k + 1 then c else 0) (fun i j => if i = k ∧ q + 1 ≤ j then 0 else ((F i j : Nat) : Int))) :=
              (hSE.1.wide hSE.2.size).congr (fun i _ => ⟨rfl, rfl, rfl, fun j _ => by
                by_cases e : i = k
                · subst e
                  by_cases e2 : j = q
                  · subst e2
                    rw [if_pos ⟨rfl, rfl⟩, if_neg (by omega), KX.out]
                  · rw [if_neg (by omega)]
                    by_cases e3 : q ≤ j
                    · rw [if_pos ⟨rfl, e3⟩, if_pos ⟨rfl, by omega⟩]
                    · rw [if_neg (by omega), if_neg (by omega)]
                · rw [if_neg (by omega), if_neg (by omega), if_neg (by omega)]⟩)
            have HB : Hid (Below w.heap.size w (w5.setCell ⟨g1, q, none⟩ (.int .i64 (X : Int)))) := (below2 KB.out hb5).setCell (show w.heap.size ≤ g1 by omega) _
            clear hSE hcall
            go_wp2
            go_roundw
            case rel => exact ⟨q + 1, by omega, by go_num, HS.out, HB.out⟩
            case measure => simp [intOf] <;> omega
        · obtain rfl : q = c := by omega
          have KM : Hid (MatI wr w.heap.size wr.heap.size (some ⟨w.heap.size, 0, none⟩) r r A' (fun i => if i < k + 1 then q else 0) (fun i => if i < k + 1 then q else 0) (fun i j => if i = k ∧ q ≤ j then 0 else ((F i j : Nat) : Int))) := hM
          have KP : Hid (FillBy g lb r q F w) := hp
          clear hM hp
          go_wp2
          go_roundw
          case rel => exact ⟨k + 1, A', by omega, by go_num, KM.out.congr (fun i hi => ⟨rfl, rfl, rfl, fun j hj => by
            rw [if_neg]
            intro h
            by_cases e : i < k + 1
            · rw [if_pos e] at hj; omega
            · omega⟩), fun i hi => by rw [KA'.out]; simp [show i ≠ k by omega, KA.out i (by omega)], hbel⟩
          case measure => simp [intOf] <;> omega
    · obtain rfl : k = r := by omega
      have KM : Hid _ := hown
      clear hown hAn hp
      go_wp2
      go_ret
      exact ⟨rfl, ⟨A, KM.out.congr (fun i hi => ⟨rfl, if_pos hi, if_pos hi, fun j _ => rfl⟩)⟩, hbel⟩
end Go.Proofs.Ytojklpahobmleaa
