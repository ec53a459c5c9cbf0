/- Marks over lists of numbers and texts, with wide bounds. Conditions: lists of at most 2^20. -/
import Derived.Test.YtkcnpkkihbpnmaaDoorD17
import Derived.Test.YtkcnpkkihbpnmaaDoorD23
import Derived.Test.YtkcnpkkihbpnmaaDoorD11
import Derived.Test.YtkcnpkkihbpnmaaDoorD22
import Derived.Test.YtkcnpkkihbpnmaaDoorD19
namespace Go.Proofs.YtkcnpkkihbpnmaaDoor
set_option maxRecDepth 2000
open Go.ChangeShapes Go.WideShapes Go.ChangeAt Go.RowKit

end Go.Proofs.YtkcnpkkihbpnmaaDoor
/- Marks of nodes: by plain values, read, counted, copied, compared and marked; lists of them that are handed in. Conditions: lists of at most 2^20. -/
namespace Go.Proofs.YtkcnpkkihbpnmaaDoor
set_option maxRecDepth 2000
open Go.ChangeShapes Go.WideShapes Go.ChangeAt Go.RowKit

/-- A mark by plain values. -/
structure Ma where
  nd : Int
  gd : Int
  bd : Int
  ro : Int
def maD (d : Ma) : Nat → Dt
  | 0 => .val (.int .i64 d.nd)
  | 1 => .val (.int .i64 d.gd)
  | 2 => .val (.int .i64 d.bd)
  | _ => .val (.int .i64 d.ro)
def masD (n : Nat) (M : Nat → Ma) : Dt := .lst 76 4 n fun i => maD (M i)
def maZ : Ma := ⟨0, 0, 0, 0⟩
theorem mark_at {w : World} {m : Nat} {M : Nat → Ma} {a : Option Addr} {cap : Nat} (h : Rd w (masD m M) (.slice a m cap)) {c : Nat} (hc : c < m) :
    ∃ (b off : Nat), a = some ⟨b, off, none⟩ ∧ (w.cell? ⟨b, off + c * 4, none⟩ = some (.int .i64 (M c).nd) ∧ w.cell? ⟨b, off + c * 4 + 1, none⟩ = some (.int .i64 (M c).gd) ∧ w.cell? ⟨b, off + c * 4 + 2, none⟩ = some (.int .i64 (M c).bd) ∧ w.cell? ⟨b, off + c * 4 + 3, none⟩ = some (.int .i64 (M c).ro)) ∧ w.rangeAt b (off + c * 4) [.int .i64 (M c).nd, .int .i64 (M c).gd, .int .i64 (M c).bd, .int .i64 (M c).ro] := by
  obtain ⟨b, off, y, ea, hy, hr⟩ := h.row hc
  have g0 := hr 0 (by omega)
  have g1 := hr 1 (by omega)
  have g2 := hr 2 (by omega)
  have g3 := hr 3 (by omega)
  simp only [Rd, maD] at g0 g1 g2 g3
  have c0 := hy 0 (by omega)
  have c1 := hy 1 (by omega)
  have c2 := hy 2 (by omega)
  have c3 := hy 3 (by omega)
  rw [g0, ← Nat.add_assoc] at c0
  rw [g1, ← Nat.add_assoc] at c1
  rw [g2, ← Nat.add_assoc] at c2
  rw [g3, ← Nat.add_assoc] at c3
  refine ⟨b, off, ea, ⟨c0, c1, c2, c3⟩, fun j v hv => ?_⟩
  have hj : j < 4 := (List.getElem?_eq_some_iff.1 hv).1
  match j, hj with
  | 0, _ => rw [← hv]; exact c0
  | 1, _ => rw [← hv]; exact c1
  | 2, _ => rw [← hv]; exact c2
  | 3, _ => rw [← hv]; exact c3
theorem list4m {α : Type} (l : List α) (h : l.length = 4) : ∃ c0 c1 c2 c3, l = [c0, c1, c2, c3] := by
  match l, h with
  | [c0, c1, c2, c3], _ => exact ⟨c0, c1, c2, c3, rfl⟩
theorem open_mark {H : Type} {enc : TypeId × Value → H} {w : World} {base : Nat} {spare : Nat → Bool} {held : Bool} {fuel : Nat} {cs : List Value} {x : DataW H × List MemPlace} (h : DataW.trod enc Tryd.prog w base spare held fuel 78 cs = some x) :
    ∃ s : Ma, cs.length = 4 ∧ (∀ q, q < 4 → Rd w (maD s q) (cs.getD q undef)) ∧ True := by
  have c4 : Tryd.prog.cellsOf 78 = 4 := by kernel_rfl
  have ci1 : Tryd.prog.cellsOf 3 = 1 := by kernel_rfl
  obtain ⟨xs, f, _, _, hl, hlen, hf⟩ := DataW.trod_struct Tryd.underlying78 h
  rw [c4] at hl
  obtain ⟨c0, c1, c2, c3, rfl⟩ := list4m cs hl
  obtain ⟨y0, y1, y2, y3, rfl⟩ := list4m xs hlen
  have g0 := hf 0 _ rfl
  have g1 := hf 1 _ rfl
  have g2 := hf 2 _ rfl
  have g3 := hf 3 _ rfl
  simp [ci1] at g0 g1 g2 g3
  obtain ⟨x0, e0, _, _⟩ := DataW.trod_int Tryd.underlying3 g0
  obtain ⟨x1, e1, _, _⟩ := DataW.trod_int Tryd.underlying3 g1
  obtain ⟨x2, e2, _, _⟩ := DataW.trod_int Tryd.underlying3 g2
  obtain ⟨x3, e3, _, _⟩ := DataW.trod_int Tryd.underlying3 g3
  simp at e0 e1 e2 e3
  subst e0 e1 e2 e3
  refine ⟨⟨x0, x1, x2, x3⟩, rfl, fun q hq => ?_, trivial⟩
  match q, hq with
  | 0, _ | 1, _ | 2, _ | 3, _ => rfl
theorem open_marks {H : Type} {enc : TypeId × Value → H} {w : World} {base : Nat} {spare : Nat → Bool} {held : Bool} {fuel : Nat} {a : Option Addr} {n c : Nat} {x : DataW H × List MemPlace} (h : DataW.trod enc Tryd.prog w base spare held fuel 28 [.slice a n c] = some x) :
    ∃ M : Nat → Ma, Rd w (masD n M) (.slice a n c) ∧ n ≤ maxLen := by
  obtain ⟨M, h1, h2, _⟩ := open_list maZ 76 maD (fun _ => True) Tryd.underlying28 (by kernel_rfl) (by omega) open_mark h
  exact ⟨M, h1, h2⟩
theorem Tryd.infoMaL : (Tryd.prog.info? 78).map (·.size) = some 4 := by kernel_rfl
theorem Tryd.infoMa : (Tryd.prog.info? 76).map (·.size) = some 4 := by kernel_rfl
set_option maxHeartbeats 1000000 in
theorem szMas_any (a : Option Addr) (n cap l : Nat) (w : World) (hl : l ≤ 1048576) (hn : n ≤ maxLen) :
    Calls Tryd.prog 11 #[.slice a n cap, .int .i64 (l : Int)] w fun e w' => e = .returned (.int .i64 (szN l n)) ∧ w' = w := by
  unfold maxLen at hn
  by_cases h1 : n ≤ l
  · obtain ⟨d, hd⟩ : ∃ d, l - n = d := ⟨_, rfl⟩
    have hw : IntKind.i64.wrap ((l : Int) - (n : Int)) = (d : Int) := by rw [IntKind.wrap_i64]; omega
    have h0 : ¬ ((d : Int) < 0) := by omega
    rw [szN_yes h1, hd]
    go_enter Tryd.func11, Tryd.ntmps11
    go_wp2
    go_ret
    exact ⟨rfl, rfl⟩
  · have h0 : (l : Int) - (n : Int) < 0 := by omega
    have hw : IntKind.i64.wrap ((l : Int) - (n : Int)) = (l : Int) - (n : Int) := by rw [IntKind.wrap_i64]; omega
    rw [szN_no h1]
    go_enter Tryd.func11, Tryd.ntmps11
    go_wp2
    go_ret
    exact ⟨rfl, rfl⟩
set_option maxHeartbeats 1000000 in
theorem toMa_any (x0 x1 x2 x3 : Int) (w : World) :
    Calls Tryd.prog 32 #[.agg #[.int .i64 x0, .int .i64 x1, .int .i64 x2, .int .i64 x3]] w fun e w' => e = .returned (.agg #[.int .i64 x0, .int .i64 x1, .int .i64 x2, .int .i64 x3]) ∧ Below w.heap.size w w' := by
  go_enter Tryd.func32, Tryd.ntmps32
  go_wp2
  refine bodyPost_ret (v := .agg #[.int .i64 x0, .int .i64 x1, .int .i64 x2, .int .i64 x3]) (by simp [results, Tryd.results32, go_sem]) rfl ?_
  exact ⟨rfl, by repeat (first | exact Below.refl _ _ | refine Below.alloc ?_ (by simp <;> omega) _ | refine Below.setCell ?_ (by simp <;> omega) _)⟩
set_option maxHeartbeats 1000000 in
theorem eqMa_same (x0 x1 x2 x3 : Int) (w : World) :
    Calls Tryd.prog 39 #[.agg #[.int .i64 x0, .int .i64 x1, .int .i64 x2, .int .i64 x3], .agg #[.int .i64 x0, .int .i64 x1, .int .i64 x2, .int .i64 x3]] w fun e w' => e = .returned (.bool true) ∧ Below w.heap.size w w' := by
  have k0 : (x0 != x0) = false := by simp
  have k1 : (x1 != x1) = false := by simp
  have k2 : (x2 != x2) = false := by simp
  have k3 : (x3 != x3) = false := by simp
  go_enter Tryd.func39, Tryd.ntmps39
  go_wp2
  go_ret
  exact ⟨rfl, by repeat (first | exact Below.refl _ _ | refine Below.alloc ?_ (by simp <;> omega) _ | refine Below.setCell ?_ (by simp <;> omega) _)⟩
end Go.Proofs.YtkcnpkkihbpnmaaDoor
/- Marks laid into lists of sayings, and asked for, with wide bounds. Written by mkmarkn.py. -/
namespace Go.Proofs.YtkcnpkkihbpnmaaDoor
set_option maxRecDepth 2000
open Go.ChangeShapes Go.WideShapes Go.ChangeAt Go.RowKit

end Go.Proofs.YtkcnpkkihbpnmaaDoor
/- Lists of marks: copied, compared and marked. Conditions: lists of at most 2^20. -/
namespace Go.Proofs.YtkcnpkkihbpnmaaDoor
set_option maxRecDepth 2000
open Go.ChangeShapes Go.WideShapes Go.ChangeAt Go.RowKit

set_option maxHeartbeats 4000000 in
theorem eqMas_same (a b : Option Addr) (n ca cb : Nat) (M : Nat → Ma) (w : World) (ha : Rd w (masD n M) (.slice a n ca)) (hb : Rd w (masD n M) (.slice b n cb)) (hn : n ≤ 1048576) :
    Calls Tryd.prog 23 #[.slice a n ca, .slice b n cb] w fun e w' => e = .returned (.bool true) ∧ Below w.heap.size w w' := by
  have KH : Hid (Rd w (masD n M) (.slice a n ca) ∧ Rd w (masD n M) (.slice b n cb)) := ⟨ha, hb⟩
  have hnn : ((n : Int) != (n : Int)) = false := by simp
  clear ha hb
  go_enter Tryd.func23, Tryd.ntmps23
  go_wp2
  go_loopw [5] (fun vi wr => ∃ c : Nat, c ≤ n ∧ vi = .int .i64 (c : Int) ∧ Below w.heap.size w wr) (fun vi _ => n - (intOf vi).toNat)
  case atStart => exact ⟨0, Nat.zero_le _, rfl, Below.refl _ _⟩
  case round =>
    obtain ⟨c, hcn, rfl, hbel⟩ := hrel
    by_cases hlt : c < n
    · have hki : (c : Int) < (n : Int) := by omega
      obtain ⟨b1, f1, rfl, ⟨x0, x1, x2, x3⟩, _⟩ := mark_at (KH.out.1.below hbel) hlt
      obtain ⟨b2, f2, rfl, ⟨y0, y1, y2, y3⟩, _⟩ := mark_at (KH.out.2.below hbel) hlt
      obtain ⟨⟨z0, z1, z2, z3⟩, HM⟩ : ∃ z, Hid (M c = z) := ⟨_, rfl⟩
      simp only [HM.out] at x0 x1 x2 x3 y0 y1 y2 y3
      have KT : Hid (∀ W, Calls Tryd.prog 39 #[.agg #[.int .i64 z0, .int .i64 z1, .int .i64 z2, .int .i64 z3], .agg #[.int .i64 z0, .int .i64 z1, .int .i64 z2, .int .i64 z3]] W fun e w' => e = .returned (.bool true) ∧ Below W.heap.size W w') := fun W => eqMa_same z0 z1 z2 z3 W
      have KS : Hid (∀ W, Below wr.heap.size wr W → W.cell? ⟨b1, f1 + c * 4, none⟩ = some (.int .i64 z0) ∧ W.cell? ⟨b1, f1 + c * 4 + 1, none⟩ = some (.int .i64 z1) ∧ W.cell? ⟨b1, f1 + c * 4 + 2, none⟩ = some (.int .i64 z2) ∧ W.cell? ⟨b1, f1 + c * 4 + 3, none⟩ = some (.int .i64 z3) ∧ W.cell? ⟨b2, f2 + c * 4, none⟩ = some (.int .i64 z0) ∧ W.cell? ⟨b2, f2 + c * 4 + 1, none⟩ = some (.int .i64 z1) ∧ W.cell? ⟨b2, f2 + c * 4 + 2, none⟩ = some (.int .i64 z2) ∧ W.cell? ⟨b2, f2 + c * 4 + 3, none⟩ = some (.int .i64 z3)) := fun W hW => ⟨(hW.cell (block_lt_of_cell x0)).trans x0, (hW.cell (block_lt_of_cell x1)).trans x1, (hW.cell (block_lt_of_cell x2)).trans x2, (hW.cell (block_lt_of_cell x3)).trans x3, (hW.cell (block_lt_of_cell y0)).trans y0, (hW.cell (block_lt_of_cell y1)).trans y1, (hW.cell (block_lt_of_cell y2)).trans y2, (hW.cell (block_lt_of_cell y3)).trans y3⟩
      have KB : Hid (Below w.heap.size w wr) := hbel
      have hdr := below_drew wr
      clear hbel x0 x1 x2 x3 y0 y1 y2 y3
      go_wp2_with fail
      go_region_held3 (fun w' => w'.cell? ⟨b1, f1 + c * 4, none⟩ = some (.int .i64 z0) ∧ w'.cell? ⟨b1, f1 + c * 4 + 1, none⟩ = some (.int .i64 z1) ∧ w'.cell? ⟨b1, f1 + c * 4 + 2, none⟩ = some (.int .i64 z2) ∧ w'.cell? ⟨b1, f1 + c * 4 + 3, none⟩ = some (.int .i64 z3) ∧ w'.cell? ⟨b2, f2 + c * 4, none⟩ = some (.int .i64 z0) ∧ w'.cell? ⟨b2, f2 + c * 4 + 1, none⟩ = some (.int .i64 z1) ∧ w'.cell? ⟨b2, f2 + c * 4 + 2, none⟩ = some (.int .i64 z2) ∧ w'.cell? ⟨b2, f2 + c * 4 + 3, none⟩ = some (.int .i64 z3)) (exact KS.out _ (by assumption)) ((go_at_call 39; refine Calls.mono (KT.out _) ?_; rintro e w7 ⟨rfl, b7'⟩; have b7 := below_of_drew b7'; clear b7'))
      all_goals
        have HB7 : Hid (Below w.heap.size w w7) := below2 KB.out b7
        clear b7
        go_wp2
        go_roundw
        case rel => exact ⟨c + 1, by omega, by go_num, HB7.out⟩
        case measure => simp [intOf]; omega
    · go_wp2
      go_ret
      exact ⟨rfl, hbel⟩
def zcM : List Value := [.int .i64 0, .int .i64 0, .int .i64 0, .int .i64 0]
theorem Tryd.infoMaZ : (Tryd.prog.info? 76).map (fun i => (i.zero, i.size, i.bytes)) = some (some (.agg zcM.toArray), 4, 32) := by kernel_rfl
theorem ow_maZ (w : World) (B q : Nat) (hq : q < 4) : Ow w B (maD maZ q) (zcM.getD q undef) (fun _ => False) := by
  match q, hq with
  | 0, _ | 1, _ | 2, _ | 3, _ => rfl
theorem ow_mark (w : World) (B : Nat) (x0 x1 x2 x3 : Int) (q : Nat) (hq : q < 4) : Ow w B (maD ⟨x0, x1, x2, x3⟩ q) ([Value.int .i64 x0, .int .i64 x1, .int .i64 x2, .int .i64 x3].getD q undef) (fun _ => False) := by
  match q, hq with
  | 0, _ | 1, _ | 2, _ | 3, _ => rfl
set_option maxHeartbeats 4000000 in
theorem toMas_any (a : Option Addr) (n cap : Nat) (M : Nat → Ma) (w : World) (h : Rd w (masD n M) (.slice a n cap)) (hn : n ≤ 1048576) :
    Calls Tryd.prog 16 #[.slice a n cap] w fun e w' => ∃ g, e = .returned (.slice (some ⟨g, 0, none⟩) n n) ∧ Ow w' w.heap.size (masD n M) (.slice (some ⟨g, 0, none⟩) n n) (rng w.heap.size w'.heap.size) ∧ Below w.heap.size w w' := by
  obtain ⟨i0, hi, hz0, hz1, hz2⟩ := info_parts Tryd.infoMaZ
  have KH : Hid (Rd w (masD n M) (.slice a n cap)) := h
  clear h
  go_enter Tryd.func16, Tryd.ntmps16
  go_wp2_with (at_make; refine wpList_make_full _ rfl _ _ 38 rfl w.heap.size 76 i0 (.agg zcM.toArray) 4 Tryd.underlying38 hi hz0 hz1 .i64 .i64 _ _ n rfl rfl rfl rfl (by rw [hz2]; omega) (by unfold maxLen; omega) (Nat.le_refl _) ?_; intro w1 hown hgrow)
  have hb1 : Below w.heap.size w w1 := (Below.refl _ _).grown hgrow (Nat.le_refl _) (by simp)
  obtain ⟨g, HG⟩ : ∃ x, Hid (x = w.heap.size) := ⟨_, rfl⟩
  have ho1 : Ow w1 w.heap.size (.lst 76 4 n (fun i => if i < 0 then maD (M i) else maD maZ)) (.slice (some ⟨g, 0, none⟩) n n) (rng w.heap.size w1.heap.size) := by
    have e : (madeCells (Value.agg zcM.toArray).cells (n * 4)).toList = cL 4 (fun _ q => zcM.getD q undef) n := made_cL (zs := zcM) (by simp [zcM])
    rw [e] at hown
    rw [HG.out]
    have := ow_made (F := rng w.heap.size w1.heap.size) hown (fun q hq => ow_maZ w1 w.heap.size q hq) ⟨Nat.le_refl _, (World.ownsRow.lt hown _ rfl).2⟩
    exact this.congr (fun i q _ _ => by simp)
  have gB : g = w.heap.size := HG.out
  rw [← HG.out]
  have HB : Hid (w.heap.size ≤ g) := by show _ ≤ _; omega
  clear hown hgrow gB
  go_loopw [4] (fun i wr => ∃ k : Nat, k ≤ n ∧ i = .int .i64 k ∧ Ow wr w.heap.size (.lst 76 4 n (fun i => if i < k then maD (M i) else maD maZ)) (.slice (some ⟨g, 0, none⟩) n n) (rng w.heap.size wr.heap.size) ∧ Below w.heap.size w wr) (fun i _ => n - (intOf i).toNat)
  case atStart => exact ⟨0, Nat.zero_le _, rfl, ho1, hb1⟩
  case round =>
    obtain ⟨c, hc, rfl, hown, hbel⟩ := hrel
    clear ho1 hb1
    by_cases hlt : c < n
    · have hlti : (c : Int) < (n : Int) := by omega
      obtain ⟨b1, f1, rfl, _, R1'⟩ := mark_at (KH.out.below hbel) hlt
      have KO : Hid (Ow wr w.heap.size (.lst 76 4 n (fun i => if i < c then maD (M i) else maD maZ)) (.slice (some ⟨g, 0, none⟩) n n) (rng w.heap.size wr.heap.size) ∧ Below w.heap.size w wr) := ⟨hown, hbel⟩
      obtain ⟨⟨z0, z1, z2, z3⟩, HZ⟩ : ∃ z, Hid (M c = z) := ⟨_, rfl⟩
      rw [HZ.out] at R1'
      have KT : Hid _ := toMa_any z0 z1 z2 z3 wr
      have R1 : Hid (wr.rangeAt b1 (f1 + c * 4) [.int .i64 z0, .int .i64 z1, .int .i64 z2, .int .i64 z3]) := R1'
      have lg : g < wr.heap.size := by
        obtain ⟨a', cap', c', G', e', ho', _⟩ := hown
        cases e'
        exact (World.ownsRow.lt ho' g rfl).2
      clear R1' hbel hown
      go_wp2_with (refine wpList_load_mid (by rfl) 78 _ (by rfl) b1 (f1 + c * 4) (by rfl) [.int .i64 z0, .int .i64 z1, .int .i64 z2, .int .i64 z3] _ ?_ Tryd.underlying78 (by rfl) Tryd.infoMaL ?_; exact R1.out)
      refine Calls.mono KT.out ?_
      rintro e w2 ⟨rfl, b2⟩
      have O2 := KO.out.1.below b2
      have TH : Hid (w2.there g (c * 4) 4) := by
        obtain ⟨a', cap', c', G', e', ho', _⟩ := O2
        cases e'
        intro j hj
        refine ⟨?_, World.ownsRow.frozenAt ho' _⟩
        rw [World.ownsRow.cellAt ho' _ (mid_lt hlt hj), cL_get _ _ _ _ _ hlt hj]
        rfl
      have hsz := KO.out.2.size
      have HO : Hid (Ow (w2.setCells g (c * 4) [Value.int .i64 z0, .int .i64 z1, .int .i64 z2, .int .i64 z3]) w.heap.size (.lst 76 4 n (fun i => if i < c + 1 then maD (M i) else maD maZ)) (.slice (some ⟨g, 0, none⟩) n n) (rng w.heap.size (w2.setCells g (c * 4) [Value.int .i64 z0, .int .i64 z1, .int .i64 z2, .int .i64 z3]).heap.size)) := by
        rw [size_setCells]
        refine Ow.congr (Ow.store (d := maD ⟨z0, z1, z2, z3⟩) (H := fun _ _ => False) O2 hlt rfl (fun q hq => ow_mark _ _ _ _ _ _ q hq) ?_ ?_ ?_ ?_) ?_
        · intro q x _ hx hf
          exact hx.elim
        · intro q q' x _ _ hx hx'
          exact hx.elim
        · intro x hx
          have := b2.size
          exact ⟨hx.1, by have := hx.2; omega⟩
        · intro q x _ hx
          exact hx.elim
        · intro i q _ _
          by_cases e : i = c
          · subst e; simp [HZ.out]
          · by_cases e2 : i < c
            · simp [e, e2, show i < c + 1 by omega]
            · simp [e, e2, show ¬ i < c + 1 by omega]
      have HBe : Hid (Below w.heap.size w (w2.setCells g (c * 4) [Value.int .i64 z0, .int .i64 z1, .int .i64 z2, .int .i64 z3])) := below_setCells (below2 KO.out.2 b2) HB.out _ _
      clear O2 b2 KT R1 KO
      go_wp2_with (refine wpList_store_mid (by rfl) 76 _ _ (by rfl) g (c * 4) ([Value.int .i64 z0, .int .i64 z1, .int .i64 z2, .int .i64 z3]).toArray (by rfl) (by rfl) ?_ Tryd.infoMa (by simp [Value.oneCell']) ?_; exact TH.out)
      go_roundw
      case rel => exact ⟨c + 1, by omega, by go_num, HO.out, HBe.out⟩
      case measure => simp [intOf]; omega
    · obtain rfl : c = n := by omega
      have HO : Hid (Ow wr w.heap.size (masD c M) (.slice (some ⟨g, 0, none⟩) c c) (rng w.heap.size wr.heap.size)) := hown.congr (fun i q hi _ => by simp [hi])
      clear hown
      go_wp2
      go_ret
      exact ⟨g, rfl, HO.out, hbel⟩
end Go.Proofs.YtkcnpkkihbpnmaaDoor
