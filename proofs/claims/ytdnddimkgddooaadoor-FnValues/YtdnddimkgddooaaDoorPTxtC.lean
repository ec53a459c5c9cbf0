/- The program's text of a polynomial, at any list of at most 2^20 numbers. Condition: the library's table of powers of ten stands as its text lays it. -/
import Derived.Test.YtdnddimkgddooaaDoorPTxtB
import Derived.Test.YtdnddimkgddooaaDoorShelf
import Derived.Test.YtdnddimkgddooaaDoorDraw
namespace Go.Proofs.YtdnddimkgddooaaDoor
open Go.ChangeShapes Go.WideShapes Go.ChangeAt Go.RowKit

theorem Tryd.infoStr : (Tryd.prog.info? 9).map (fun i => (i.zero, i.size, i.bytes)) = some (some (.string ByteArray.empty), 1, 16) := by kernel_rfl
theorem inter_snoc (sep : UInt8) (xs : List (List UInt8)) (y : List UInt8) : [sep].intercalate (xs ++ [y]) = if xs = [] then y else [sep].intercalate xs ++ sep :: y := by
  induction xs with
  | nil => simp [List.intercalate]
  | cons x xs ih =>
    cases xs with
    | nil => simp [List.intercalate, List.intersperse]
    | cons z zs =>
      rw [if_neg (by simp)] at ih ⊢
      have e1 : [sep].intercalate (x :: z :: zs ++ [y]) = x ++ [sep] ++ [sep].intercalate (z :: zs ++ [y]) := by simp [List.intercalate, List.intersperse]
      have e2 : [sep].intercalate (x :: z :: zs) = x ++ [sep] ++ [sep].intercalate (z :: zs) := by simp [List.intercalate, List.intersperse]
      rw [e1, e2, ih]
      simp
theorem join_jk (f : Nat → Nat) (n : Nat) : [32].intercalate ((List.range n).map fun i => dgt (f i)) = jk f n := by
  induction n with
  | zero => rfl
  | succ n ih =>
    rw [List.range_succ, List.map_append, List.map_cons, List.map_nil, inter_snoc, jk_s, ih]
    by_cases h : n = 0
    · subst h
      rw [if_pos (rfl : (0 : Nat) = 0)]
      exact if_pos rfl
    · rw [if_neg h, if_neg (by simp; omega)]
def TabOk (w : World) : Prop := Lib.TabIs Tryd.prog w "internal/strconv.uint64pow10" .u64 Lib.pow10Tab
theorem TabOk.below {w w' : World} (h : TabOk w) (hb : Below w.heap.size w w') : TabOk w' := by
  unfold TabOk Lib.TabIs World.var? at h ⊢
  cases hg : Tryd.prog.globalNamed "internal/strconv.uint64pow10" with
  | none => rw [hg] at h; cases h
  | some g =>
    rw [hg] at h
    simp only [Option.bind_some] at h ⊢
    have hlt : g < w.heap.size := by
      rcases Nat.lt_or_ge g w.heap.size with h' | h'
      · exact h'
      · rw [Array.getElem?_eq_none h'] at h; cases h
    rw [hb.block g hlt]
    exact h
theorem below_growD (w : World) (k : Nat) (os : Array Obj) : Below w.heap.size w (Sort.grow (w.drewN k) os) :=
  ⟨rfl, rfl, rfl, by show w.heap.size ≤ (w.heap ++ os).size; simp, fun j hj => by show (w.heap ++ os)[j]? = w.heap[j]?; rw [Array.getElem?_append_left hj]⟩
theorem itoa_dec {n : Nat} (h : n < 256) : (⟨(Lib.itoa (n : Int)).toArray⟩ : ByteArray) = decS n := by
  unfold Lib.itoa decS
  rw [if_neg (by omega), Int.toNat_natCast, decDigits_dgt h]
def sRow (f : Nat → Nat) (n k : Nat) : List Value := (List.range n).map fun i => if i < k then .string (decS (f i)) else .string ByteArray.empty
theorem sRow_len (f : Nat → Nat) (n k : Nat) : (sRow f n k).length = n := by simp [sRow]
theorem sRow_zero (f : Nat → Nat) (n : Nat) : sRow f n 0 = List.replicate n (.string ByteArray.empty) := by
  apply List.ext_getElem?
  intro i
  by_cases hi : i < n
  · simp [sRow, hi]
  · rw [List.getElem?_eq_none (by rw [sRow_len]; omega), List.getElem?_eq_none (by simp; omega)]
theorem sRow_set (f : Nat → Nat) (n k : Nat) (h : k < n) : (sRow f n k).set k (.string (decS (f k))) = sRow f n (k + 1) := by
  apply List.ext_getElem?
  intro i
  rw [List.getElem?_set]
  by_cases hi : i < n
  · by_cases e : k = i
    · subst e
      simp [sRow, h]
    · by_cases h2 : i < k
      · simp [sRow, hi, e, h2, show i < k + 1 by omega]
      · simp [sRow, hi, e, h2, show ¬ i < k + 1 by omega]
  · by_cases e : k = i
    · omega
    · rw [if_neg e, List.getElem?_eq_none (by rw [sRow_len]; omega), List.getElem?_eq_none (by rw [sRow_len]; omega)]

set_option maxRecDepth 100000 in
set_option maxHeartbeats 2000000 in
theorem text_any (a : Option Addr) (n cap : Nat) (xs : List Int) (w : World) (ha : IntsAt w a n xs) (hn : n ≤ 1048576) (htab : TabOk w) :
    Calls Tryd.prog 11 #[.slice a n cap] w fun e w' => e = .returned (.string (textP xs)) ∧ Below w.heap.size w w' := by
  obtain ⟨i0, hi, hz0, hz1, hz2⟩ := info_parts Tryd.infoStr
  have hX := ok_any a n cap xs w ha hn
  by_cases hx : okB xs = true
  · rw [hx] at hX
    have hl := ha.1
    have h40 := (okB_parts hx).1
    have px := (okB_parts hx).2.2.1
    have hA : IntsAt w a n (eI (coP xs) n) := by
      have e := (okB_parts hx).2.2.2.1
      rw [hl] at e
      rw [← e]
      exact ha
    have HT : Hid (textP xs = if n = 0 then ⟨#[45]⟩ else ⟨(jk (coP xs) n).toArray⟩) := by show _ = _; unfold textP; rw [if_pos hx, hl]
    rw [hl] at h40
    have pxl := px.1
    clear ha hl px hx
    generalize coP xs = f at *
    generalize textP xs = res at *
    by_cases hn0 : n = 0
    · subst hn0
      have HR : Hid (res = ⟨#[45]⟩) := by show _ = _; rw [HT.out, if_pos rfl]
      clear hA pxl HT htab
      go_enter Tryd.func11, Tryd.ntmps11
      go_wp2_with fail
      refine hX.mono ?_
      rintro e w1 ⟨rfl, b1⟩
      clear hX
      go_wp2
      go_ret
      exact ⟨by rw [HR.out] <;> rfl, b1⟩
    · have hn0' : ((n : Int) == 0) = false := by simp; omega
      have HR : Hid (res = ⟨(jk f n).toArray⟩) := by show _ = _; rw [HT.out, if_neg hn0]
      have KT : Hid (TabOk w) := htab
      clear HT htab
      go_enter Tryd.func11, Tryd.ntmps11
      go_wp2_with fail
      refine hX.mono ?_
      rintro e w1 ⟨rfl, b1⟩
      have hsz := b1.size
      clear hX
      go_wp2_with (at_make; refine wpList_make_full _ rfl _ _ 50 rfl w.heap.size 9 i0 (.string ByteArray.empty) 1 Tryd.underlying50 hi hz0 hz1 .i64 .i64 _ _ n rfl rfl rfl rfl (by rw [hz2]; omega) (by unfold maxLen; omega) hsz ?_; intro w2 hown hgrow)
      have hb2 : Below w1.heap.size w1 w2 := (Below.refl _ _).grown hgrow (Nat.le_refl _) (by simp)
      have o2 : w2.ownsRow w.heap.size 9 1 (.slice (some ⟨w1.heap.size, 0, none⟩) n n) n (sRow f n 0) := by
        rw [sRow_zero]
        simpa [Value.cells, toList_madeCells_one] using hown
      have H0 : Hid _ := And.intro o2 (below2 b1 hb2)
      clear hown hgrow o2 b1 hb2
      generalize w1.heap.size = g at *
      go_loopw [17] (fun i wr => ∃ k : Nat, k ≤ n ∧ i = .int .i64 k ∧ wr.ownsRow w.heap.size 9 1 (.slice (some ⟨g, 0, none⟩) n n) n (sRow f n k) ∧ Below w.heap.size w wr) (fun i _ => n - (intOf i).toNat)
      case atStart => exact ⟨0, Nat.zero_le _, rfl, H0.out.1, H0.out.2⟩
      case round =>
        obtain ⟨k, hk, rfl, hown, hbel⟩ := hrel
        clear H0
        by_cases hlt : k < n
        · have hltI : (k : Int) < (n : Int) := by omega
          obtain ⟨b, off, rfl, hc⟩ := intsE (hA.below hbel) hlt
          have hfk := pxl k
          have HTb : Hid (TabOk wr) := KT.out.below hbel
          have HIt : Hid _ := itoa_dec hfk
          go_wp2_with fail
          refine (Tryd.strconv_Itoa ((f k : Nat) : Int) (by omega) (by omega) _ HTb.out).mono ?_
          rintro e w3 ⟨rfl, q, os, hw3⟩
          have b3 : Below wr.heap.size wr w3 := by rw [hw3]; exact below_growD _ _ _
          clear hw3
          have hown3 := ownsRow_below hown b3
          have hbel3 := below2 hbel b3
          obtain ⟨old, hold⟩ : ∃ v, w3.cell? ⟨g, k, none⟩ = some v := by
            rw [hown3.cellAt k (by omega)]
            exact ⟨_, List.getElem?_eq_getElem (by rw [hown3.1]; omega)⟩
          have hfr := hown3.frozenAt k
          have hgw := (hown3.lt g rfl).1
          have hst := hown3.stored k (.string (decS (f k)))
          rw [sRow_set f n k hlt] at hst
          have hne : Below w.heap.size w (w3.setCell ⟨g, k, none⟩ (.string (decS (f k)))) := hbel3.setCell hgw _
          have HO : Hid _ := And.intro hst.1 hne
          rw [HIt.out]
          clear hst hown hown3 hA hbel hbel3 b3 hc HTb hne pxl
          generalize decS (f k) = D at *
          go_wp2
          go_roundw
          case rel => exact ⟨k + 1, by omega, by go_num, HO.out.1, HO.out.2⟩
          case measure => simp [intOf] <;> omega
        · obtain rfl : k = n := by omega
          have hcells : ∀ (j : Nat) x, ((List.range k).map fun i => decS (f i))[j]? = some x → wr.cell? ⟨g, 0 + j, none⟩ = some (.string x) := by
            intro j x hx
            by_cases hj : j < k
            · rw [Nat.zero_add, hown.cellAt j (by omega)]
              simp [hj] at hx
              simp [sRow, hj, hx]
            · rw [List.getElem?_eq_none (by simp; omega)] at hx
              cases hx
          have hgl := (hown.lt g rfl).2
          have hln : ((List.range k).map fun i => decS (f i)).length = k := by simp
          have hjn : Lib.join (((List.range k).map fun i => decS (f i)).map (·.data.toList)) (⟨#[32]⟩ : ByteArray).data.toList = jk f k := by
            rw [List.map_map]
            exact join_jk f k
          have hJ := Tryd.strings_Join g 0 k ((List.range k).map fun i => decS (f i)) ⟨#[32]⟩ wr hcells hgl (by rw [hln]; omega) (by rw [hln]; exact Nat.le_refl _) (by rw [hjn]; have := jk_len f k; omega)
          rw [hln, hjn] at hJ
          have KJ : Hid _ := hJ
          clear hJ hcells hln hjn hown hA pxl KT
          go_wp2_with fail
          refine Calls.mono KJ.out ?_
          rintro e w3 ⟨rfl, b3⟩
          have HB : Hid _ := below2 hbel b3
          clear b3 hbel KJ
          go_wp2
          go_ret
          exact ⟨by rw [HR.out] <;> rfl, HB.out⟩
  · have hx' : okB xs = false := by simpa using hx
    rw [hx'] at hX
    have HT : Hid (textP xs = ByteArray.empty) := by show _ = _; unfold textP; rw [if_neg hx]
    clear ha htab
    generalize textP xs = res at *
    go_enter Tryd.func11, Tryd.ntmps11
    go_wp2_with fail
    refine hX.mono ?_
    rintro e w1 ⟨rfl, b1⟩
    clear hX
    go_wp2
    go_ret
    exact ⟨by rw [HT.out] <;> rfl, b1⟩
end Go.Proofs.YtdnddimkgddooaaDoor
