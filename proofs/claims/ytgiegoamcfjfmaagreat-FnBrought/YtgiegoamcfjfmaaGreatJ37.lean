/- Lists of nodes' numbers in the model. Conditions: F from 1 to 3, lists of at most 2^20. -/
import Derived.Test.YtgiegoamcfjfmaaGreatJ31
import Derived.Test.YtgiegoamcfjfmaaGreatJ11
import Derived.Test.YtgiegoamcfjfmaaGreatJ32
import Derived.Test.YtgiegoamcfjfmaaGreatJ28
namespace Go.Proofs.YtgiegoamcfjfmaaGreat
set_option maxRecDepth 2000
open Go.ChangeShapes Go.WideShapes Go.ChangeAt Go.RowKit

end Go.Proofs.YtgiegoamcfjfmaaGreat
/- Lists of slots and nodes, copied by the exact laws: the copies lie in new memory. Conditions: no list is longer than 2^20. -/
namespace Go.Proofs.YtgiegoamcfjfmaaGreat
set_option maxRecDepth 2000
open Go.ChangeShapes Go.WideShapes Go.ChangeAt Go.RowKit

def slZ : Sl := ⟨ByteArray.empty, ⟨ByteArray.empty, 0, 0, 0, ByteArray.empty, 0, fun _ => ByteArray.empty⟩, false, false, false, false, [], []⟩
def zcS : List Value := [.string ByteArray.empty, .string ByteArray.empty, .int .i64 0, .int .i64 0, .int .i64 0, .string ByteArray.empty, .slice none 0 0, .bool false, .bool false, .bool false, .bool false, .slice none 0 0, .slice none 0 0]
theorem Tryz.infoSlZ : (Tryz.prog.info? 62).map (fun i => (i.zero, i.size, i.bytes)) = some (some (.agg zcS.toArray), 13, 152) := by kernel_rfl
/-- Where the three lists of a slot lie. -/
def H3 (g6 g11 g12 q x : Nat) : Prop := (q = 6 ∧ x = g6) ∨ (q = 11 ∧ x = g11) ∨ (q = 12 ∧ x = g12)
theorem ow_slZ (w : World) (B q : Nat) (hq : q < 13) : Ow w B (slD slZ q) (zcS.getD q undef) (fun _ => False) := by
  match q, hq with
  | 0, _ | 1, _ | 2, _ | 3, _ | 4, _ | 5, _ | 7, _ | 8, _ | 9, _ | 10, _ => rfl
  | 6, _ => exact Ow.nil _ _ _ _ _ _
  | 11, _ => exact Ow.nil _ _ _ _ _ _
  | 12, _ => exact Ow.nil _ _ _ _ _ _
end Go.Proofs.YtgiegoamcfjfmaaGreat
/- What who brings a text says, in the model and in the program. Condition: a text of at most 2^20 bytes. -/
namespace Go.Proofs.YtgiegoamcfjfmaaGreat
set_option maxRecDepth 2000
open Go.ChangeShapes Go.WideShapes Go.ChangeAt Go.RowKit

theorem cL_snoc10 (c : Nat → Nat → Value) (n : Nat) : cL 10 c (n + 1) = cL 10 c n ++ [c n 0, c n 1, c n 2, c n 3, c n 4, c n 5, c n 6, c n 7, c n 8, c n 9] := by
  apply List.ext_getElem?
  intro j
  by_cases hj : j < n * 10
  · rw [List.getElem?_append_left (by rw [cL_len]; omega)]
    have h1 := cL_get 10 c (n + 1) (j / 10) (j % 10) (by omega) (by omega)
    have h2 := cL_get 10 c n (j / 10) (j % 10) (by omega) (by omega)
    rw [mid_eq] at h1 h2
    rw [h1, h2]
  · rw [List.getElem?_append_right (by rw [cL_len]; omega), cL_len]
    by_cases h6 : j < (n + 1) * 10
    · obtain ⟨q, rfl⟩ : ∃ q, j = n * 10 + q := ⟨j - n * 10, by omega⟩
      have hq : q < 10 := by omega
      rw [cL_get _ _ _ _ _ (by omega) hq, show n * 10 + q - n * 10 = q by omega]
      match q, hq with
      | 0, _ | 1, _ | 2, _ | 3, _ | 4, _ | 5, _ | 6, _ | 7, _ | 8, _ | 9, _ => rfl
    · rw [List.getElem?_eq_none (by rw [cL_len]; omega), List.getElem?_eq_none (by simp; omega)]
/-- What is said: each node's piece. -/
noncomputable def brP (s : ByteArray) (f : Int) : Nat → Pc := cutP (f + 1) (3 * f + 1).toNat (encS s (f + 1).toNat)
noncomputable def brS (s : ByteArray) (f : Int) (i : Nat) : Sy := ⟨0, -1, (i : Int), (brP s f i).r, brP s f i⟩
def brB (s : ByteArray) (f : Int) : Bool := fB f && encOk s (f + 1) (3 * f + 1)
def brN (s : ByteArray) (f : Int) : Nat := if brB s f then (3 * f + 1).toNat else 0
noncomputable def brR (s : ByteArray) (f : Int) : ByteArray := if brB s f then (brP s f 0).r else ByteArray.empty
theorem brP_r (s : ByteArray) (f : Int) (i : Nat) : (brP s f i).r = (brP s f 0).r := rfl
/-- The cells of the sayings, their proofs' places told. -/
noncomputable def syc (s : ByteArray) (f : Int) (A : Nat → Option Addr) (C : Nat → Nat) (i q : Nat) : Value := (syC (brS s f i) (.slice (A i) (brP s f i).m (C i))).toList.getD q undef
theorem syc_lst (s : ByteArray) (f : Int) (A : Nat → Option Addr) (C : Nat → Nat) (i : Nat) : [syc s f A C i 0, syc s f A C i 1, syc s f A C i 2, syc s f A C i 3, syc s f A C i 4, syc s f A C i 5, syc s f A C i 6, syc s f A C i 7, syc s f A C i 8, syc s f A C i 9] = (syC (brS s f i) (.slice (A i) (brP s f i).m (C i))).toList := rfl
theorem rd_says {w : World} {B : Nat} {a : Option Addr} {n cap : Nat} {s : ByteArray} {f : Int} {A : Nat → Option Addr} {C : Nat → Nat} (ho : w.ownsRow B 41 10 (.slice a n cap) n (cL 10 (syc s f A C) n)) (ht : ∀ i, i < n → TxtAt w (A i) (brP s f i).m (brP s f i).S) : Rd w (sysD n (brS s f)) (.slice a n cap) := by
  refine ⟨a, cap, rfl, fun i hi => ?_⟩
  rcases own_shape ho with ⟨_, h0, _⟩ | ⟨g, cur, rfl, _⟩
  · omega
  · refine ⟨g, 0, rfl, fun q hq => ⟨syc s f A C i q, ?_, ?_⟩⟩
    · rw [Nat.zero_add, ho.cellAt _ (mid_lt hi hq)]
      exact cL_get _ _ _ _ _ hi hq
    · match q, hq with
      | 0, _ | 1, _ | 2, _ | 3, _ | 4, _ | 5, _ | 6, _ | 7, _ | 8, _ => rfl
      | 9, _ => exact rd_txt.2 (ht i hi)
theorem ow_says {w : World} {B g : Nat} {n cap : Nat} {s : ByteArray} {f : Int} {A : Nat → Option Addr} {C : Nat → Nat} {F : Nat → Prop} (ho : w.ownsRow B 41 10 (.slice (some ⟨g, 0, none⟩) n cap) n (cL 10 (syc s f A C) n)) (ht : ∀ i, i < n → OwnT w B (A i) (brP s f i).m (C i) (brP s f i).S)
    (hd : ∀ i j x y, i < j → j < n → A i = some x → A j = some y → x.block ≠ y.block) (hg : ∀ i x, i < n → A i = some x → x.block ≠ g) (hF : F g) (hF' : ∀ i x, i < n → A i = some x → F x.block) : Ow w B (sysD n (brS s f)) (.slice (some ⟨g, 0, none⟩) n cap) F := by
  refine ⟨_, cap, syc s f A C, fun i q x => q = 9 ∧ ∃ y, A i = some y ∧ y.block = x, rfl, ho, ⟨fun x e => by cases e; exact hF, ?_, ?_, ?_⟩, fun i q hi hq => ?_⟩
  · rintro i q x hi _ ⟨_, y, e, rfl⟩
    exact hF' i y hi e
  · rintro i q x hi _ ex ⟨_, y, e, ey⟩
    cases ex
    exact hg i y hi e ey
  · rintro i q i' q' x hi _ hi' _ ⟨h1, y, e, rfl⟩ ⟨h2, y', e', ey⟩
    refine ⟨?_, by omega⟩
    rcases Nat.lt_trichotomy i i' with h | h | h
    · exact absurd ey.symm (hd i i' y y' h hi' e e')
    · exact h
    · exact absurd ey (hd i' i y' y h hi e' e)
  · match q, hq with
    | 0, _ | 1, _ | 2, _ | 3, _ | 4, _ | 5, _ | 6, _ | 7, _ | 8, _ => rfl
    | 9, _ => exact ow_txt (ht i hi) (fun x e => ⟨rfl, x, e, rfl⟩)
theorem Tryz.infoSyB : (Tryz.prog.info? 41).map (fun i => (i.zero, i.size, i.bytes)) = some (some (.agg #[.int .i64 0, .int .i64 0, .int .i64 0, .string ByteArray.empty, .string ByteArray.empty, .int .i64 0, .int .i64 0, .int .i64 0, .string ByteArray.empty, .slice none 0 0]), 10, 120) := by kernel_rfl
set_option maxHeartbeats 4000000 in
theorem sBring_any (s : ByteArray) (f : Int) (w : World) (hs : s.size ≤ 1048576) :
    Calls Tryz.prog 26 #[.string s, .int .i64 f] w fun e w' => ∃ a cap, e = .returned (.tuple #[.slice a (brN s f) cap, .string (brR s f), .bool (brB s f)]) ∧ Rd w' (sysD (brN s f) (brS s f)) (.slice a (brN s f) cap) ∧ Below w.heap.size w w' := by
  obtain ⟨i0, hi, hz0, hz1, hz2⟩ := info_parts Tryz.infoSyB
  have KI : Hid (Calls Tryz.prog 65 #[.int .i64 f, .int .i64 1, .int .i64 3] w fun e w' => e = .returned (.bool (inB f 1 3)) ∧ w' = w) := sIn_any f 1 3 w
  by_cases hf : 1 ≤ f ∧ f ≤ 3
  case neg =>
    have i1 : inB f 1 3 = false := decide_eq_false hf
    rw [i1] at KI
    have hB : brB s f = false := by unfold brB fB; rw [decide_eq_false hf]; rfl
    have hN : brN s f = 0 := by unfold brN; rw [hB]; rfl
    have hR : brR s f = ByteArray.empty := by unfold brR; rw [hB]; rfl
    rw [hN, hR, hB]
    have KB : Hid (Below w.heap.size w (w.alloc (.cells #[] 41))) := (Below.refl _ _).alloc (Nat.le_refl _) _
    clear hs hN hR hB
    go_enter Tryz.func26, Tryz.ntmps26
    go_wp2_with fail
    refine Calls.mono KI.out ?_
    rintro e w' ⟨rfl, hw⟩
    obtain rfl := hw.symm
    clear hw KI
    go_wp2
    go_ret3
    exact ⟨_, _, rfl, Rd.nil _ _ _ _ _ _, KB.out⟩
  have i1 : inB f 1 3 = true := decide_eq_true hf
  rw [i1] at KI
  have e1 : IntKind.i64.wrap (f + 1) = f + 1 := by rw [IntKind.wrap_i64]; omega
  have KA : Hid (∀ W, Calls Tryz.prog 66 #[.int .i64 f] W fun e w' => e = .returned (.int .i64 (3 * f + 1)) ∧ w' = W) := fun W => sAllN_any f W hf
  have hBe : brB s f = encOk s (f + 1) (3 * f + 1) := by unfold brB fB; rw [decide_eq_true hf]; rfl
  have KC : Hid (Calls Tryz.prog 92 #[.string s, .int .i64 (f + 1), .int .i64 (3 * f + 1)] w fun e w' => ∃ v, e = .returned (.tuple #[v, .bool (brB s f)]) ∧ ResP w w' v (cutR s (f + 1) (3 * f + 1)) (brP s f) ∧ Below w.heap.size w w') := by
    have := sCut_any s (f + 1) (3 * f + 1) w hs
    rw [← hBe] at this
    exact this
  have hNe : cutR s (f + 1) (3 * f + 1) = brN s f := by unfold cutR brN; rw [hBe]
  rw [hNe] at KC
  obtain ⟨n1, HN1⟩ : ∃ x, Hid (3 * f + 1 = x) := ⟨_, rfl⟩
  rw [HN1.out] at KA KC
  cases hB : brB s f with
  | false =>
    rw [hB] at KC
    have hN : brN s f = 0 := by unfold brN; rw [hB]; rfl
    have hR : brR s f = ByteArray.empty := by unfold brR; rw [hB]; rfl
    rw [hN] at KC
    rw [hN, hR]
    clear hBe hNe hN hR hs
    go_enter Tryz.func26, Tryz.ntmps26
    go_wp2_with fail
    refine Calls.mono KI.out ?_
    rintro e w' ⟨rfl, hw⟩
    obtain rfl := hw.symm
    clear hw KI
    go_wp2_with fail
    refine Calls.mono (KA.out _) ?_
    rintro e w' ⟨rfl, hw⟩
    obtain rfl := hw.symm
    clear hw
    go_wp2_with fail
    refine Calls.mono KC.out ?_
    rintro e w1 ⟨v, rfl, _, b1⟩
    have KB : Hid (Below w.heap.size w (w1.alloc (.cells #[] 41))) := b1.alloc b1.size _
    clear b1 KC
    go_wp2
    go_ret3
    exact ⟨_, _, rfl, Rd.nil _ _ _ _ _ _, KB.out⟩
  | true =>
    rw [hB] at KC
    obtain ⟨N, HN⟩ : ∃ x, Hid (brN s f = x) := ⟨_, rfl⟩
    have hNl : 0 < N ∧ N ≤ 16 := by
      rw [← HN.out]
      unfold brN
      rw [hB]
      simp only [if_true]
      omega
    obtain ⟨hN0, hN16⟩ := hNl
    obtain ⟨R, HR⟩ : ∃ x, Hid (brR s f = x) := ⟨_, rfl⟩
    have HR0 : Hid (∀ i, (brP s f i).r = R) := fun i => by rw [← HR.out]; unfold brR; rw [hB]; exact brP_r s f i
    rw [HN.out] at KC
    rw [HN.out, HR.out]
    clear hBe hNe hs hB
    go_enter Tryz.func26, Tryz.ntmps26
    go_wp2_with fail
    refine Calls.mono KI.out ?_
    rintro e w' ⟨rfl, hw⟩
    obtain rfl := hw.symm
    clear hw KI
    go_wp2_with fail
    refine Calls.mono (KA.out _) ?_
    rintro e w' ⟨rfl, hw⟩
    obtain rfl := hw.symm
    clear hw
    go_wp2_with fail
    refine Calls.mono KC.out ?_
    rintro e w1 ⟨v, rfl, ⟨gP, cP, A, C, rfl, OP⟩, b1⟩
    have HX : Hid (∀ j q, j < N → q < 6 → w1.cell? ⟨gP, j * 6 + q, none⟩ = some (cel (brP s f j) (.slice (A j) (brP s f j).m (C j)) q)) := fun j q hj hq => OwnC.cell OP.1 hj hq
    have HTx : Hid (∀ j, j < N → TxtAt w1 (A j) (brP s f j).m (brP s f j).S) := fun j hj => OwnT.at (OP.2.1 j hj)
    have KB1 : Hid (Below w.heap.size w w1) := b1
    have lP := (World.ownsRow.lt OP.1 gP rfl).2
    have hNi : (0 : Int) < (N : Int) := by omega
    clear b1 KC OP
    go_wp2
    go_loopw [9, 10] (fun v9 v10 wr => ∃ j g cc : Nat, j ≤ N ∧ v10 = .int .i64 (j : Int) ∧ v9 = .slice (some ⟨g, 0, none⟩) j cc ∧ wr.ownsRow w1.heap.size 41 10 (.slice (some ⟨g, 0, none⟩) j cc) j (cL 10 (syc s f A C) j) ∧ Below w1.heap.size w1 wr) (fun _ v10 _ => N - (intOf v10).toNat)
    case atStart => exact ⟨0, w1.heap.size, 0, Nat.zero_le _, rfl, rfl, World.ownsRow_lit w1 #[] 0 (Nat.le_refl _) (by unfold maxLen; omega) (by simp), (Below.refl _ _).alloc (Nat.le_refl _) _⟩
    case round =>
      obtain ⟨j, g, cc, hj, rfl, rfl, hown, hbel⟩ := hrel
      by_cases hlt : j < N
      · have hji : (j : Int) < (N : Int) := by omega
        have KO : Hid (wr.ownsRow w1.heap.size 41 10 (.slice (some ⟨g, 0, none⟩) j cc) j (cL 10 (syc s f A C) j)) := hown
        have KB : Hid (Below w1.heap.size w1 wr) := hbel
        have hsz := hbel.size
        have lg := World.ownsRow.lt hown g rfl
        have HC : Hid (∀ q, q < 6 → wr.cell? ⟨gP, j * 6 + q, none⟩ = some (cel (brP s f j) (.slice (A j) (brP s f j).m (C j)) q)) := fun q hq => (hbel.cell (p := ⟨gP, j * 6 + q, none⟩) lP).trans (HX.out j q hlt hq)
        obtain ⟨pr, pk, pn, pi, pb, pm, pS, HP⟩ : ∃ r k n i b m S, Hid (brP s f j = ⟨r, k, n, i, b, m, S⟩) := ⟨_, _, _, _, _, _, _, rfl⟩
        have hrR : pr = R := by have := HR0.out j; rw [HP.out] at this; exact this
        have x0 := HC.out 0 (by omega)
        have x1 := HC.out 1 (by omega)
        have x2 := HC.out 2 (by omega)
        have x3 := HC.out 3 (by omega)
        have x4 := HC.out 4 (by omega)
        have x5 := HC.out 5 (by omega)
        rw [HP.out] at x0 x1 x2 x3 x4 x5
        simp only [cel, Nat.add_zero] at x0 x1 x2 x3 x4 x5
        have HE : Hid ((syC (brS s f j) (.slice (A j) (brP s f j).m (C j))).toList = [.int .i64 0, .int .i64 (-1), .int .i64 (j : Int), .string pr, .string pr, .int .i64 pk, .int .i64 pn, .int .i64 pi, .string pb, .slice (A j) pm (C j)]) := by
          show _ = _
          unfold brS
          rw [HP.out]
        obtain ⟨nw, HNW⟩ : ∃ x, Hid (x = (#[.int .i64 0, .int .i64 (-1), .int .i64 (j : Int), .string pr, .string pr, .int .i64 pk, .int .i64 pn, .int .i64 pi, .string pb, .slice (A j) pm (C j)] : Array Value)) := ⟨_, rfl⟩
        have KA2 : Hid ((wr.drew.alloc (.cells #[.int .i64 0, .int .i64 (-1), .int .i64 (j : Int), .string pr, .string pr, .int .i64 pk, .int .i64 pn, .int .i64 pi, .string pb, .slice (A j) pm (C j)] 41)).ownsRow w1.heap.size 41 10 (.slice (some ⟨g, 0, none⟩) j cc) j (cL 10 (syc s f A C) j)) := World.ownsRow.alloc (ownsRow_below KO.out (below_drew wr)) _
        have KW : Hid (∀ q u, [Value.int .i64 0, .int .i64 (-1), .int .i64 (j : Int), .string pr, .string pr, .int .i64 pk, .int .i64 pn, .int .i64 pi, .string pb, .slice (A j) pm (C j)][q]? = some u → (wr.drew.alloc (.cells #[.int .i64 0, .int .i64 (-1), .int .i64 (j : Int), .string pr, .string pr, .int .i64 pk, .int .i64 pn, .int .i64 pi, .string pb, .slice (A j) pm (C j)] 41)).cell? ((⟨wr.heap.size, 0, none⟩ : Addr).add q) = some u) := World.news_of_block (cs := #[.int .i64 0, .int .i64 (-1), .int .i64 (j : Int), .string pr, .string pr, .int .i64 pk, .int .i64 pn, .int .i64 pi, .string pb, .slice (A j) pm (C j)]) (t := 41) (fr := (0, 0)) (heap_alloc_new wr.drew _)
        have KG : Hid (Below w1.heap.size w1 (wr.drew.alloc (.cells #[.int .i64 0, .int .i64 (-1), .int .i64 (j : Int), .string pr, .string pr, .int .i64 pk, .int .i64 pn, .int .i64 pi, .string pb, .slice (A j) pm (C j)] 41))) := (KB.out.drew).alloc hsz _
        have lPr : gP < wr.heap.size := by omega
        clear hown hbel hrR HC
        go_wp2_with fail
        go_region_held3 (fun w' => w'.cell? ⟨gP, j * 6, none⟩ = some (.string pr) ∧ w'.cell? ⟨gP, j * 6 + 1, none⟩ = some (.int .i64 pk) ∧ w'.cell? ⟨gP, j * 6 + 2, none⟩ = some (.int .i64 pn) ∧ w'.cell? ⟨gP, j * 6 + 3, none⟩ = some (.int .i64 pi) ∧ w'.cell? ⟨gP, j * 6 + 4, none⟩ = some (.string pb) ∧ w'.cell? ⟨gP, j * 6 + 5, none⟩ = some (.slice (A j) pm (C j))) (go_keep) ((refine step_append_row _ (by rfl) _ _ _ (by rfl) w1.heap.size 41 i0 _ 10 120 Tryz.underlying35 hi hz0 hz1 hz2 rfl (by omega) g j cc (cL 10 (syc s f A C) j) (by rfl) ?_ ⟨wr.heap.size, 0, none⟩ 1 1 [.int .i64 0, .int .i64 (-1), .int .i64 (j : Int), .string pr, .string pr, .int .i64 pk, .int .i64 pn, .int .i64 pi, .string pb, .slice (A j) pm (C j)] (by rfl) (by rfl) ?_ (by simp [Value.oneCell']) (by unfold maxLen; omega) (by omega) (by simp; omega) ?_; exact KA2.out; exact KW.out; intro g3 cap3 w3 hown3 hgrow3; have KO3 : Hid (w3.ownsRow w1.heap.size 41 10 (.slice (some ⟨g3, 0, none⟩) (j + 1) cap3) (j + 1) (cL 10 (syc s f A C) j ++ [.int .i64 0, .int .i64 (-1), .int .i64 (j : Int), .string pr, .string pr, .int .i64 pk, .int .i64 pn, .int .i64 pi, .string pb, .slice (A j) pm (C j)])) := hown3; have KB3 : Hid (Below w1.heap.size w1 w3) := KG.out.grown hgrow3 (by simp; omega) (fun x hx => by cases hx; exact lg.1); have h3 := KB3.out; have z0 := (h3.cell (p := ⟨gP, j * 6, none⟩) lP).trans (HX.out j 0 hlt (by omega)); have z1 := (h3.cell (p := ⟨gP, j * 6 + 1, none⟩) lP).trans (HX.out j 1 hlt (by omega)); have z2 := (h3.cell (p := ⟨gP, j * 6 + 2, none⟩) lP).trans (HX.out j 2 hlt (by omega)); have z3 := (h3.cell (p := ⟨gP, j * 6 + 3, none⟩) lP).trans (HX.out j 3 hlt (by omega)); have z4 := (h3.cell (p := ⟨gP, j * 6 + 4, none⟩) lP).trans (HX.out j 4 hlt (by omega)); have z5 := (h3.cell (p := ⟨gP, j * 6 + 5, none⟩) lP).trans (HX.out j 5 hlt (by omega)); rw [HP.out] at z0 z1 z2 z3 z4 z5; simp only [cel] at z0 z1 z2 z3 z4 z5; clear hown3 hgrow3 h3))
        all_goals
          have HO : Hid (w3.ownsRow w1.heap.size 41 10 (.slice (some ⟨g3, 0, none⟩) (j + 1) cap3) (j + 1) (cL 10 (syc s f A C) (j + 1))) := by
            show World.ownsRow _ _ _ _ _ _ _
            rw [cL_snoc10, syc_lst, show (syC (brS s f j) (.slice (A j) (brP s f j).m (C j))).toList = [.int .i64 0, .int .i64 (-1), .int .i64 (j : Int), .string pr, .string pr, .int .i64 pk, .int .i64 pn, .int .i64 pi, .string pb, .slice (A j) pm (C j)] from HE.out]
            exact KO3.out
          clear KO3 KO KA2 KW KG KB x0 x1 x2 x3 x4 x5 z0 z1 z2 z3 z4 z5
          go_wp2
          go_roundw
          case rel => exact ⟨j + 1, g3, cap3, by omega, by go_num, rfl, HO.out, KB3.out⟩
          case measure => simp [intOf]; omega
      · obtain rfl : j = N := by omega
        have y0 := (hbel.cell (p := ⟨gP, 0, none⟩) lP).trans (HX.out 0 0 hN0 (by omega))
        simp only [cel] at y0
        rw [HR0.out 0] at y0
        have KR : Hid (Rd wr (sysD j (brS s f)) (.slice (some ⟨g, 0, none⟩) j cc)) := rd_says hown (fun i hi => (HTx.out i hi).below hbel)
        have KB2 : Hid (Below w.heap.size w wr) := below2 KB1.out hbel
        clear hown hbel
        go_wp2_with fail
        go_region
        all_goals
          go_wp2
          go_ret3
          exact ⟨_, _, rfl, KR.out.drew, KB2.out.drew⟩
def zcB : List Value := [.int .i64 0, .int .i64 0, .int .i64 0, .string ByteArray.empty, .string ByteArray.empty, .int .i64 0, .int .i64 0, .int .i64 0, .string ByteArray.empty, .slice none 0 0]
set_option maxHeartbeats 4000000 in
theorem bring_any (s : ByteArray) (f : Int) (w : World) (hs : s.size ≤ 1048576) :
    Calls Tryz.prog 25 #[.string s, .int .i64 f] w fun e w' => ∃ g cap, e = .returned (.tuple #[.slice (some ⟨g, 0, none⟩) (brN s f) cap, .string (brR s f), .bool (brB s f)]) ∧ Ow w' w.heap.size (sysD (brN s f) (brS s f)) (.slice (some ⟨g, 0, none⟩) (brN s f) cap) (rng w.heap.size w'.heap.size) ∧ Below w.heap.size w w' := by
  obtain ⟨i0, hi, hz0, hz1, hz2⟩ := info_parts Tryz.infoSyB
  have KI : Hid (Calls Tryz.prog 87 #[.int .i64 f] w fun e w' => e = .returned (.bool (fB f)) ∧ w' = w) := isF_any f w
  have HNil : Hid (∀ (W : World) (S : Nat → Sy), w.heap.size ≤ W.heap.size → Ow (W.alloc (.cells #[] 41)) w.heap.size (sysD 0 S) (.slice (some ⟨W.heap.size, 0, none⟩) 0 0) (rng w.heap.size (W.alloc (.cells #[] 41)).heap.size)) := fun W S hW => by
    refine ⟨_, 0, fun _ _ => undef, fun _ _ _ => False, rfl, World.ownsRow_lit W #[] 0 hW (by unfold maxLen; omega) (by simp), ⟨fun x e => by cases e; exact ⟨hW, by simp⟩, fun _ _ _ hi => absurd hi (Nat.not_lt_zero _), fun _ _ _ hi => absurd hi (Nat.not_lt_zero _), fun _ _ _ _ _ hi => absurd hi (Nat.not_lt_zero _)⟩, fun _ _ hi => absurd hi (Nat.not_lt_zero _)⟩
  by_cases hf : 1 ≤ f ∧ f ≤ 3
  case neg =>
    have i1 : fB f = false := decide_eq_false hf
    rw [i1] at KI
    have hB : brB s f = false := by unfold brB; rw [i1]; rfl
    have hN : brN s f = 0 := by unfold brN; rw [hB]; rfl
    have hR : brR s f = ByteArray.empty := by unfold brR; rw [hB]; rfl
    rw [hN, hR, hB]
    have KB : Hid (Below w.heap.size w (w.alloc (.cells #[] 41))) := (Below.refl _ _).alloc (Nat.le_refl _) _
    have KN : Hid _ := HNil.out w (brS s f) (Nat.le_refl _)
    clear hs hN hR hB
    go_enter Tryz.func25, Tryz.ntmps25
    go_wp2_with fail
    refine Calls.mono KI.out ?_
    rintro e w' ⟨rfl, hw⟩
    obtain rfl := hw.symm
    clear hw KI
    go_wp2
    go_ret3
    exact ⟨_, _, rfl, KN.out, KB.out⟩
  have i1 : fB f = true := decide_eq_true hf
  rw [i1] at KI
  have KP : Hid (∀ W, Calls Tryz.prog 89 #[.int .i64 f] W fun e w' => e = .returned (.int .i64 (f + 1)) ∧ w' = W) := fun W => pieceNeed_any f W hf
  have KA : Hid (∀ W, Calls Tryz.prog 90 #[.int .i64 f] W fun e w' => e = .returned (.int .i64 (3 * f + 1)) ∧ w' = W) := fun W => nodeCount_any f W hf
  have hBe : brB s f = encOk s (f + 1) (3 * f + 1) := by unfold brB; rw [i1]; rfl
  have KC : Hid (Calls Tryz.prog 88 #[.string s, .int .i64 (f + 1), .int .i64 (3 * f + 1)] w fun e w' => ∃ v, e = .returned (.tuple #[v, .bool (brB s f)]) ∧ ResP w w' v (cutR s (f + 1) (3 * f + 1)) (brP s f) ∧ Below w.heap.size w w') := by
    have := pcut_any s (f + 1) (3 * f + 1) w hs
    rw [← hBe] at this
    exact this
  have hNe : cutR s (f + 1) (3 * f + 1) = brN s f := by unfold cutR brN; rw [hBe]
  rw [hNe] at KC
  obtain ⟨k1, HK1⟩ : ∃ x, Hid (f + 1 = x) := ⟨_, rfl⟩
  obtain ⟨n1, HN1⟩ : ∃ x, Hid (3 * f + 1 = x) := ⟨_, rfl⟩
  rw [HK1.out] at KP KC
  rw [HN1.out] at KA KC
  cases hB : brB s f with
  | false =>
    rw [hB] at KC
    have hN : brN s f = 0 := by unfold brN; rw [hB]; rfl
    have hR : brR s f = ByteArray.empty := by unfold brR; rw [hB]; rfl
    rw [hN] at KC
    rw [hN, hR]
    clear hBe hNe hN hR hs
    go_enter Tryz.func25, Tryz.ntmps25
    go_wp2_with fail
    refine Calls.mono KI.out ?_
    rintro e w' ⟨rfl, hw⟩
    obtain rfl := hw.symm
    clear hw KI
    go_wp2_with fail
    refine Calls.mono (KP.out _) ?_
    rintro e w' ⟨rfl, hw⟩
    obtain rfl := hw.symm
    clear hw
    go_wp2_with fail
    refine Calls.mono (KA.out _) ?_
    rintro e w' ⟨rfl, hw⟩
    obtain rfl := hw.symm
    clear hw
    go_wp2_with fail
    refine Calls.mono KC.out ?_
    rintro e w1 ⟨v, rfl, _, b1⟩
    have KB : Hid (Below w.heap.size w (w1.alloc (.cells #[] 41))) := b1.alloc b1.size _
    have KN : Hid _ := HNil.out w1 (brS s f) b1.size
    clear b1 KC
    go_wp2
    go_ret3
    exact ⟨_, _, rfl, KN.out, KB.out⟩
  | true =>
    rw [hB] at KC
    obtain ⟨N, HN⟩ : ∃ x, Hid (brN s f = x) := ⟨_, rfl⟩
    have hNl : 0 < N ∧ N ≤ 16 := by
      rw [← HN.out]
      unfold brN
      rw [hB]
      simp only [if_true]
      omega
    obtain ⟨hN0, hN16⟩ := hNl
    obtain ⟨R, HR⟩ : ∃ x, Hid (brR s f = x) := ⟨_, rfl⟩
    have HR0 : Hid (∀ i, (brP s f i).r = R) := fun i => by rw [← HR.out]; unfold brR; rw [hB]; exact brP_r s f i
    have hRs : R.size ≤ 1048576 := by
      rw [← HR0.out 0]
      show (rtS _ _).size ≤ _
      unfold rtS
      split
      · rename_i hlv
        have := lvB_parts hlv
        rw [Gt.rt_size (by omega) this.2.2]
        omega
      · decide
    have KCl : Hid (∀ W, Calls Tryz.prog 91 #[.string R] W fun e w' => e = .returned (.string R) ∧ Below W.heap.size W w') := fun W => clone_any R W (by omega)
    rw [HN.out] at KC
    rw [HN.out, HR.out]
    clear hBe hNe hs hB
    go_enter Tryz.func25, Tryz.ntmps25
    go_wp2_with fail
    refine Calls.mono KI.out ?_
    rintro e w' ⟨rfl, hw⟩
    obtain rfl := hw.symm
    clear hw KI
    go_wp2_with fail
    refine Calls.mono (KP.out _) ?_
    rintro e w' ⟨rfl, hw⟩
    obtain rfl := hw.symm
    clear hw
    go_wp2_with fail
    refine Calls.mono (KA.out _) ?_
    rintro e w' ⟨rfl, hw⟩
    obtain rfl := hw.symm
    clear hw
    go_wp2_with fail
    refine Calls.mono KC.out ?_
    rintro e w1 ⟨v, rfl, ⟨gP, cP, A, C, rfl, OP⟩, b1⟩
    have HX : Hid (∀ j q, j < N → q < 6 → w1.cell? ⟨gP, j * 6 + q, none⟩ = some (cel (brP s f j) (.slice (A j) (brP s f j).m (C j)) q)) := fun j q hj hq => OwnC.cell OP.1 hj hq
    have KOP : Hid (OwnP w1 w.heap.size (some ⟨gP, 0, none⟩) N cP A C (brP s f)) := OP
    have KB1 : Hid (Below w.heap.size w w1) := b1
    have lP := (World.ownsRow.lt OP.1 gP rfl).2
    have hNi : (0 : Int) < (N : Int) := by omega
    clear b1 KC OP
    go_wp2_with (at_make; refine wpList_make_full _ rfl _ _ 35 rfl w1.heap.size 41 i0 _ 10 Tryz.underlying35 hi hz0 hz1 .i64 .i64 _ _ N rfl rfl rfl rfl (by rw [hz2]; omega) (by unfold maxLen; omega) (Nat.le_refl _) ?_; intro w2 hown hgrow)
    have hb2 : Below w1.heap.size w1 w2 := (Below.refl _ _).grown hgrow (Nat.le_refl _) (by simp)
    obtain ⟨G, HG⟩ : ∃ x, Hid (x = w1.heap.size) := ⟨_, rfl⟩
    have ho2 : w2.ownsRow w1.heap.size 41 10 (.slice (some ⟨G, 0, none⟩) N N) N (cL 10 (fun i q => if i < 0 then syc s f A C i q else zcB.getD q undef) N) := by
      have e : (madeCells (Value.agg zcB.toArray).cells (N * 10)).toList = cL 10 (fun _ q => zcB.getD q undef) N := made_cL (zs := zcB) (by simp [zcB])
      have e2 : cL 10 (fun i q => if i < 0 then syc s f A C i q else zcB.getD q undef) N = cL 10 (fun _ q => zcB.getD q undef) N := cL_congr (fun i q _ _ => by simp)
      rw [e2, ← e, HG.out]
      exact hown
    rw [← HG.out]
    have hGw : w1.heap.size ≤ G := by rw [HG.out]; exact Nat.le_refl _
    have hGP : gP < G := by rw [HG.out]; exact lP
    clear hown hgrow
    go_loopw [33] (fun v33 wr => ∃ j : Nat, j ≤ N ∧ v33 = .int .i64 (j : Int) ∧ wr.ownsRow w1.heap.size 41 10 (.slice (some ⟨G, 0, none⟩) N N) N (cL 10 (fun i q => if i < j then syc s f A C i q else zcB.getD q undef) N) ∧ Below w1.heap.size w1 wr) (fun v33 _ => N - (intOf v33).toNat)
    case atStart => exact ⟨0, Nat.zero_le _, rfl, ho2, hb2⟩
    case round =>
      obtain ⟨j, hj, rfl, hown, hbel⟩ := hrel
      clear ho2 hb2
      by_cases hlt : j < N
      · have hji : (j : Int) < (N : Int) := by omega
        have KO : Hid (wr.ownsRow w1.heap.size 41 10 (.slice (some ⟨G, 0, none⟩) N N) N (cL 10 (fun i q => if i < j then syc s f A C i q else zcB.getD q undef) N)) := hown
        have KB : Hid (Below w1.heap.size w1 wr) := hbel
        have hsz := hbel.size
        have lG := (World.ownsRow.lt hown G rfl).2
        have HC : Hid (∀ q, q < 6 → wr.cell? ⟨gP, j * 6 + q, none⟩ = some (cel (brP s f j) (.slice (A j) (brP s f j).m (C j)) q)) := fun q hq => (hbel.cell (p := ⟨gP, j * 6 + q, none⟩) lP).trans (HX.out j q hlt hq)
        obtain ⟨pr, pk, pn, pi, pb, pm, pS, HP⟩ : ∃ r k n i b m S, Hid (brP s f j = ⟨r, k, n, i, b, m, S⟩) := ⟨_, _, _, _, _, _, _, rfl⟩
        obtain rfl : R = pr := by have := HR0.out j; rw [HP.out] at this; exact this.symm
        have x0 := HC.out 0 (by omega)
        have x1 := HC.out 1 (by omega)
        have x2 := HC.out 2 (by omega)
        have x3 := HC.out 3 (by omega)
        have x4 := HC.out 4 (by omega)
        have x5 := HC.out 5 (by omega)
        rw [HP.out] at x0 x1 x2 x3 x4 x5
        simp only [cel, Nat.add_zero] at x0 x1 x2 x3 x4 x5
        have HE : Hid ((syC (brS s f j) (.slice (A j) (brP s f j).m (C j))).toList = [.int .i64 0, .int .i64 (-1), .int .i64 (j : Int), .string R, .string R, .int .i64 pk, .int .i64 pn, .int .i64 pi, .string pb, .slice (A j) pm (C j)]) := by
          show _ = _
          unfold brS
          rw [HP.out]
        obtain ⟨V, HV⟩ : ∃ x, Hid (x = wr.heap.size) := ⟨_, rfl⟩
        obtain ⟨wv, HWV⟩ : ∃ x, Hid (x = wr.alloc (.cells (pcC R pk pn pi pb (.slice (A j) pm (C j))) 39)) := ⟨_, rfl⟩
        have RV : Hid (Row wv V 39 (pcC R pk pn pi pb (.slice (A j) pm (C j)))) := by show Row _ _ _ _; rw [HWV.out, HV.out]; exact Row.new wr _ _
        have bv : Below wr.heap.size wr wv := by rw [HWV.out]; exact (Below.refl _ _).alloc (Nat.le_refl _) _
        have lV : V < wv.heap.size := RV.out.lt
        have KOv : Hid (wv.ownsRow w1.heap.size 41 10 (.slice (some ⟨G, 0, none⟩) N N) N (cL 10 (fun i q => if i < j then syc s f A C i q else zcB.getD q undef) N)) := ownsRow_below hown bv
        have KBv : Hid (Below w1.heap.size w1 wv) := below2 hbel bv
        have hGV : Hid (V ≠ G) := by have := HV.out; show V ≠ G; omega
        have KS : Hid (∀ W, Row W V 39 (pcC R pk pn pi pb (.slice (A j) pm (C j))) → W.cell? ⟨V, 0, none⟩ = some (.string R) ∧ W.cell? ⟨V, 1, none⟩ = some (.int .i64 pk) ∧ W.cell? ⟨V, 2, none⟩ = some (.int .i64 pn) ∧ W.cell? ⟨V, 3, none⟩ = some (.int .i64 pi) ∧ W.cell? ⟨V, 4, none⟩ = some (.string pb) ∧ W.cell? ⟨V, 5, none⟩ = some (.slice (A j) pm (C j))) := fun W hW => ⟨hW.cell 0, hW.cell 1, hW.cell 2, hW.cell 3, hW.cell 4, hW.cell 5⟩
        have rv0 : Row wv.drew V 39 (pcC R pk pn pi pb (.slice (A j) pm (C j))) := RV.out.drew
        have KTH : Hid (∀ W, Below wv.heap.size wv W → W.there G (j * 10) 10 ∧ W.ownsRow w1.heap.size 41 10 (.slice (some ⟨G, 0, none⟩) N N) N (cL 10 (fun i q => if i < j then syc s f A C i q else zcB.getD q undef) N) ∧ Row W V 39 (pcC R pk pn pi pb (.slice (A j) pm (C j))) ∧ Below w1.heap.size w1 W) := fun W hW => by
          have o := ownsRow_below KOv.out hW
          refine ⟨fun q hq => ⟨?_, World.ownsRow.frozenAt o _⟩, o, RV.out.below hW lV, below2 KBv.out hW⟩
          rw [World.ownsRow.cellAt o _ (mid_lt hlt hq), cL_get _ _ _ _ _ hlt hq]
          rfl
        have KTC : Hid (∀ W, Below wv.heap.size wv W → W.cell? ⟨G, j * 10, none⟩ = some (zcB.getD 0 undef) ∧ (∀ q, q < 10 → W.cell? ⟨G, j * 10 + q, none⟩ = some (zcB.getD q undef)) ∧ W.frozen? ⟨G, j * 10, none⟩ = false ∧ ∀ q, W.frozen? ⟨G, j * 10 + q, none⟩ = false) := fun W hW => by
          have o := ownsRow_below KOv.out hW
          have k : ∀ q, q < 10 → W.cell? ⟨G, j * 10 + q, none⟩ = some (zcB.getD q undef) := fun q hq => by
            rw [World.ownsRow.cellAt o _ (mid_lt hlt hq), cL_get _ _ _ _ _ hlt hq]
            simp
          exact ⟨k 0 (by omega), k, World.ownsRow.frozenAt o _, fun q => World.ownsRow.frozenAt o _⟩
        clear hown hbel HC bv
        go_wp2_with fail
        rw [← HWV.out, ← HV.out]
        go_region_held3 (fun w' => w'.cell? ⟨V, 0, none⟩ = some (.string R) ∧ w'.cell? ⟨V, 1, none⟩ = some (.int .i64 pk) ∧ w'.cell? ⟨V, 2, none⟩ = some (.int .i64 pn) ∧ w'.cell? ⟨V, 3, none⟩ = some (.int .i64 pi) ∧ w'.cell? ⟨V, 4, none⟩ = some (.string pb) ∧ w'.cell? ⟨V, 5, none⟩ = some (.slice (A j) pm (C j))) (exact KS.out _ (by with_reducible assumption)) (((go_at_call 91; refine Calls.mono (KCl.out _) ?_; rintro e w7 ⟨rfl, b7'⟩; have b7 := below_of_drew b7'; clear b7' rv0; have rv7 := (KTH.out _ b7).2.2.1; have tc0 := (KTC.out _ b7).1; have tc := (KTC.out _ b7).2.1; have tf0 := (KTC.out _ b7).2.2.1; have tf := (KTC.out _ b7).2.2.2; have rv8 : Row ((((((((((w7.setCell ⟨G, j * 10, none⟩ (.int .i64 0)).setCell ⟨G, j * 10 + 1, none⟩ (.int .i64 (-1))).setCell ⟨G, j * 10 + 2, none⟩ (.int .i64 (j : Int))).setCell ⟨G, j * 10 + 3, none⟩ (.string R)).setCell ⟨G, j * 10 + 4, none⟩ (.string R)).setCell ⟨G, j * 10 + 5, none⟩ (.int .i64 pk)).setCell ⟨G, j * 10 + 6, none⟩ (.int .i64 pn)).setCell ⟨G, j * 10 + 7, none⟩ (.int .i64 pi)).setCell ⟨G, j * 10 + 8, none⟩ (.string pb)).setCell ⟨G, j * 10 + 9, none⟩ (.slice (A j) pm (C j))) V 39 (pcC R pk pn pi pb (.slice (A j) pm (C j))) := (heap_setCells_other G [.int .i64 0, .int .i64 (-1), .int .i64 (j : Int), .string R, .string R, .int .i64 pk, .int .i64 pn, .int .i64 pi, .string pb, .slice (A j) pm (C j)] (j * 10) w7 V hGV.out).trans rv7)))
        all_goals
          have HO : Hid ((w7.setCells G (j * 10) [.int .i64 0, .int .i64 (-1), .int .i64 (j : Int), .string R, .string R, .int .i64 pk, .int .i64 pn, .int .i64 pi, .string pb, .slice (A j) pm (C j)]).ownsRow w1.heap.size 41 10 (.slice (some ⟨G, 0, none⟩) N N) N (cL 10 (fun i q => if i < j + 1 then syc s f A C i q else zcB.getD q undef) N)) := by
            have h1 := own_setCells hlt [.int .i64 0, .int .i64 (-1), .int .i64 (j : Int), .string R, .string R, .int .i64 pk, .int .i64 pn, .int .i64 pi, .string pb, .slice (A j) pm (C j)] 0 w7 _ rfl (KTH.out _ b7).2.1
            rw [Nat.add_zero] at h1
            have e : cL 10 (fun i q => if i < j + 1 then syc s f A C i q else zcB.getD q undef) N = cL 10 (fun i' q' => if i' = j ∧ 0 ≤ q' then ([.int .i64 0, .int .i64 (-1), .int .i64 (j : Int), .string R, .string R, .int .i64 pk, .int .i64 pn, .int .i64 pi, .string pb, .slice (A j) pm (C j)] : List Value).getD (q' - 0) undef else if i' < j then syc s f A C i' q' else zcB.getD q' undef) N := cL_congr fun i q _ _ => by
              by_cases ei : i = j
              · subst ei
                rw [if_pos (show i < i + 1 by omega), if_pos ⟨rfl, Nat.zero_le _⟩, ← HE.out]
                rfl
              · by_cases e2 : i < j
                · rw [if_pos (by omega), if_neg (fun h => ei h.1), if_pos e2]
                · rw [if_neg (by omega), if_neg (fun h => ei h.1), if_neg e2]
            show World.ownsRow _ _ _ _ _ _ _
            rw [e]
            exact h1
          have KBn : Hid (Below w1.heap.size w1 (w7.setCells G (j * 10) [.int .i64 0, .int .i64 (-1), .int .i64 (j : Int), .string R, .string R, .int .i64 pk, .int .i64 pn, .int .i64 pi, .string pb, .slice (A j) pm (C j)])) := below_setCells (KTH.out _ b7).2.2.2 hGw _ _
          clear rv8 rv7 b7 KTH KTC KS tc0 tc tf0 tf x0 x1 x2 x3 x4 x5
          go_wp2
          go_roundw
          case rel => exact ⟨j + 1, by omega, by go_num, HO.out, KBn.out⟩
          case measure => simp [intOf]; omega
      · obtain rfl : j = N := by omega
        have y0 := (hbel.cell (p := ⟨gP, 0, none⟩) lP).trans (HX.out 0 0 hN0 (by omega))
        simp only [cel] at y0
        rw [HR0.out 0] at y0
        have hO : wr.ownsRow w1.heap.size 41 10 (.slice (some ⟨G, 0, none⟩) j j) j (cL 10 (syc s f A C) j) := by
          have e : cL 10 (fun i q => if i < j then syc s f A C i q else zcB.getD q undef) j = cL 10 (syc s f A C) j := cL_congr (fun i q hi _ => if_pos hi)
          rw [← e]
          exact hown
        have lGr := (World.ownsRow.lt hO G rfl).2
        have hw1 := KB1.out.size
        have KF : Hid (∀ W, Below wr.heap.size wr W → Ow W w.heap.size (sysD j (brS s f)) (.slice (some ⟨G, 0, none⟩) j j) (rng w.heap.size W.heap.size)) := fun W hW => by
          have hs2 := hW.size
          have hs1 := hbel.size
          refine ow_says (A := A) (C := C) (own_base (ownsRow_below hO hW) hw1) (fun i hi => OwnT.below (OwnT.below (KOP.out.2.1 i hi) hbel) hW) KOP.out.2.2.1 (fun i x hi e => ?_) ⟨by omega, by omega⟩ (fun i x hi e => ?_)
          · have ho := KOP.out.2.1 i hi
            rw [e] at ho
            have := (World.ownsRow.lt ho x.block rfl).2
            omega
          · have ho := KOP.out.2.1 i hi
            rw [e] at ho
            have := World.ownsRow.lt ho x.block rfl
            exact ⟨this.1, by omega⟩
        have KB2 : Hid (Below w.heap.size w wr) := below2 KB1.out hbel
        clear hown hbel hO
        go_wp2_with fail
        refine Calls.mono (KCl.out _) ?_
        rintro e w8 ⟨rfl, b8⟩
        have KF8 : Hid _ := KF.out w8 b8
        have KB8 : Hid (Below w.heap.size w w8) := below2 KB2.out b8
        clear b8 y0
        go_wp2
        go_ret3
        exact ⟨_, _, rfl, KF8.out, KB8.out⟩
end Go.Proofs.YtgiegoamcfjfmaaGreat
/- Whose a piece is, in the model. Conditions: F from 1 to 3, proofs of at most 2^20. -/
namespace Go.Proofs.YtgiegoamcfjfmaaGreat
set_option maxRecDepth 2000
open Go.ChangeShapes Go.WideShapes Go.ChangeAt Go.RowKit

def MineP (root : ByteArray) (id f : Int) (r : ByteArray) (k n i : Int) : Prop := r = root ∧ k = f + 1 ∧ n = 3 * f + 1 ∧ i = id
instance (root : ByteArray) (id f : Int) (r : ByteArray) (k n i : Int) : Decidable (MineP root id f r k n i) := by unfold MineP; infer_instance
noncomputable def mineB (root : ByteArray) (id f : Int) (r : ByteArray) (k n i : Int) (b : ByteArray) (m : Nat) (S : Nat → ByteArray) : Bool := if MineP root id f r k n i then okP r k n i b m S else false
theorem mineB_no {root : ByteArray} {id f : Int} {r : ByteArray} {k n i : Int} {b : ByteArray} {m : Nat} {S : Nat → ByteArray} (h : ¬ MineP root id f r k n i) : mineB root id f r k n i b m S = false := if_neg h
theorem mineB_yes {root : ByteArray} {id f : Int} {r : ByteArray} {k n i : Int} {b : ByteArray} {m : Nat} {S : Nat → ByteArray} (h : MineP root id f r k n i) : mineB root id f r k n i b m S = okP r k n i b m S := if_pos h
end Go.Proofs.YtgiegoamcfjfmaaGreat
/- Lists of nodes: by plain values, read, counted, copied and compared. Conditions: lists of at most 2^20. Written by a program. -/
namespace Go.Proofs.YtgiegoamcfjfmaaGreat
set_option maxRecDepth 2000
open Go.ChangeShapes Go.WideShapes Go.ChangeAt Go.RowKit

end Go.Proofs.YtgiegoamcfjfmaaGreat
/- Whose a piece is, in the program. Conditions: F from 1 to 3, proofs of at most 2^20. -/
namespace Go.Proofs.YtgiegoamcfjfmaaGreat
set_option maxRecDepth 2000
open Go.ChangeShapes Go.WideShapes Go.ChangeAt Go.RowKit

set_option maxHeartbeats 4000000 in
theorem owns_any (root : ByteArray) (id f : Int) (v : Value) (r : ByteArray) (k n i : Int) (b : ByteArray) (a : Option Addr) (m cap : Nat) (S : Nat → ByteArray) (w : World) (h : TxtAt w a m S) (hf : 1 ≤ f ∧ f ≤ 3) (hm : m ≤ 1048576) (hL : ∀ i, i < m → (S i).size ≤ maxLen) :
    Calls Tryz.prog 159 #[ndV id f v, pcV r k n i b (.slice a m cap), .string root] w fun e w' => e = .returned (.bool (mineB root id f r k n i b m S)) ∧ Below w.heap.size w w' := by
  have KA : Hid (∀ W, Calls Tryz.prog 90 #[.int .i64 f] W fun e w' => e = .returned (.int .i64 (3 * f + 1)) ∧ w' = W) := fun W => nodeCount_any f W hf
  have KN : Hid (∀ W, Calls Tryz.prog 89 #[.int .i64 f] W fun e w' => e = .returned (.int .i64 (f + 1)) ∧ w' = W) := fun W => pieceNeed_any f W hf
  obtain ⟨x, HX⟩ : ∃ x : Int, Hid (3 * f + 1 = x) := ⟨_, rfl⟩
  rw [HX.out] at KA
  obtain ⟨y, HY⟩ : ∃ y : Int, Hid (f + 1 = y) := ⟨_, rfl⟩
  rw [HY.out] at KN
  obtain ⟨A, HA⟩ : ∃ x, Hid (x = w.heap.size) := ⟨_, rfl⟩
  obtain ⟨wa, HWA⟩ : ∃ x, Hid (x = w.alloc (.cells #[.int .i64 id, .int .i64 f, v] 34)) := ⟨_, rfl⟩
  have HRA : Hid (Row wa A 34 #[.int .i64 id, .int .i64 f, v]) := by show Row _ _ _ _; rw [HWA.out, HA.out]; exact Row.new w _ _
  have hba : Below w.heap.size w wa := by rw [HWA.out]; exact (Below.refl _ _).alloc (Nat.le_refl _) _
  obtain ⟨B, HB⟩ : ∃ x, Hid (x = wa.heap.size) := ⟨_, rfl⟩
  obtain ⟨w0, HW0⟩ : ∃ x, Hid (x = wa.alloc (.cells (pcC r k n i b (.slice a m cap)) 39)) := ⟨_, rfl⟩
  have hbb : Below wa.heap.size wa w0 := by rw [HW0.out]; exact (Below.refl _ _).alloc (Nat.le_refl _) _
  have HR : Hid (Row w0 B 39 (pcC r k n i b (.slice a m cap))) := by show Row _ _ _ _; rw [HW0.out, HB.out]; exact Row.new wa _ _
  have HB0 : Hid (Below w.heap.size w w0) := below2 hba hbb
  have HB1 : Hid (B = A + 1) := by show _ = _; rw [HB.out, HWA.out, HA.out]; simp
  have KP : Hid (∀ W, Below w0.heap.size w0 W → Calls Tryz.prog 194 #[pcV r k n i b (.slice a m cap)] W fun e w' => e = .returned (.bool (okP r k n i b m S)) ∧ Below W.heap.size W w') := fun W hW => pieceOk_any r k n i b a m cap S W ((h.below HB0.out).below hW) hm hL
  have RA := HRA.out.below hbb HRA.out.lt
  have r0 := RA.cell 0
  have r1 := RA.cell 1
  have r2 := RA.cell 2
  have lA := RA.lt
  have q0 := HR.out.cell 0
  have q1 := HR.out.cell 1
  have q2 := HR.out.cell 2
  have q3 := HR.out.cell 3
  have q4 := HR.out.cell 4
  have q5 := HR.out.cell 5
  have lB := HR.out.lt
  simp at q0 q1 q2 q3 q4 q5 r0 r1 r2
  clear h hf hL hm RA hba hbb
  by_cases c1 : r = root
  case neg =>
    rw [mineB_no (fun h => c1 h.1)]
    have c1' := ba_ne c1
    go_enter Tryz.func159, Tryz.ntmps159
    go_wp2_with fail
    rw [← HWA.out, ← HW0.out, ← HA.out, ← HB1.out]
    go_quiet ((first | (go_at_call 90; exact Calls.quiet_of_same (KA.out _)) | (go_at_call 89; exact Calls.quiet_of_same (KN.out _))))
    go_wp2
    go_ret
    exact ⟨rfl, below_drewN HB0.out _⟩
  have c1' := ba_beq root
  by_cases c4 : i = id
  case neg =>
    rw [mineB_no (fun h => c4 h.2.2.2)]
    have c4' : (i == id) = false := by simp [c4]
    subst c1
    go_enter Tryz.func159, Tryz.ntmps159
    go_wp2_with fail
    rw [← HWA.out, ← HW0.out, ← HA.out, ← HB1.out]
    go_quiet ((first | (go_at_call 90; exact Calls.quiet_of_same (KA.out _)) | (go_at_call 89; exact Calls.quiet_of_same (KN.out _))))
    go_wp2
    go_ret
    exact ⟨rfl, below_drewN HB0.out _⟩
  have c4' : (i == id) = true := by simp [c4]
  by_cases c2 : k = y
  case neg =>
    rw [mineB_no (fun h => c2 (h.2.1.trans HY.out))]
    have c2' : (k == y) = false := by simp [c2]
    subst c1
    clear c4
    go_enter Tryz.func159, Tryz.ntmps159
    go_wp2_with fail
    rw [← HWA.out, ← HW0.out, ← HA.out, ← HB1.out]
    go_quiet ((first | (go_at_call 90; exact Calls.quiet_of_same (KA.out _)) | (go_at_call 89; exact Calls.quiet_of_same (KN.out _))))
    go_wp2
    go_ret
    exact ⟨rfl, below_drewN HB0.out _⟩
  have c2' : (k == y) = true := by simp [c2]
  by_cases c3 : n = x
  case neg =>
    rw [mineB_no (fun h => c3 (h.2.2.1.trans HX.out))]
    have c3' : (n == x) = false := by simp [c3]
    subst c1
    clear c4 c2
    go_enter Tryz.func159, Tryz.ntmps159
    go_wp2_with fail
    rw [← HWA.out, ← HW0.out, ← HA.out, ← HB1.out]
    go_quiet ((first | (go_at_call 90; exact Calls.quiet_of_same (KA.out _)) | (go_at_call 89; exact Calls.quiet_of_same (KN.out _))))
    go_wp2
    go_ret
    exact ⟨rfl, below_drewN HB0.out _⟩
  have c3' : (n == x) = true := by simp [c3]
  rw [mineB_yes ⟨c1, c2.trans HY.out.symm, c3.trans HX.out.symm, c4⟩]
  subst c1
  clear c2 c3 c4
  go_enter Tryz.func159, Tryz.ntmps159
  go_wp2_with fail
  rw [← HWA.out, ← HW0.out, ← HA.out, ← HB1.out]
  go_region_held3 (fun w' => w'.cell? ⟨A, 0, none⟩ = some (.int .i64 id) ∧ w'.cell? ⟨A, 1, none⟩ = some (.int .i64 f) ∧ w'.cell? ⟨B, 0, none⟩ = some (.string r) ∧ w'.cell? ⟨B, 1, none⟩ = some (.int .i64 k) ∧ w'.cell? ⟨B, 2, none⟩ = some (.int .i64 n) ∧ w'.cell? ⟨B, 3, none⟩ = some (.int .i64 i) ∧ w'.cell? ⟨B, 4, none⟩ = some (.string b) ∧ w'.cell? ⟨B, 5, none⟩ = some (.slice a m cap)) (go_keep) ((first | (go_at_call 90; refine Calls.mono (KA.out _) ?_; rintro e w8 ⟨rfl, rfl⟩) | (go_at_call 89; refine Calls.mono (KN.out _) ?_; rintro e w8 ⟨rfl, rfl⟩) | (go_at_call 194; refine Calls.mono (KP.out _ (below_drewN (Below.refl _ _) _)) ?_; rintro e w9 ⟨rfl, hb9'⟩; have hb9 := below_of_drew hb9'; clear hb9'; have pr0 := (hb9.cell (p := ⟨A, 0, none⟩) lA).trans r0; have pr1 := (hb9.cell (p := ⟨A, 1, none⟩) lA).trans r1; have pq0 := (hb9.cell (p := ⟨B, 0, none⟩) lB).trans q0; have pq1 := (hb9.cell (p := ⟨B, 1, none⟩) lB).trans q1; have pq2 := (hb9.cell (p := ⟨B, 2, none⟩) lB).trans q2; have pq3 := (hb9.cell (p := ⟨B, 3, none⟩) lB).trans q3; have pq4 := (hb9.cell (p := ⟨B, 4, none⟩) lB).trans q4; have pq5 := (hb9.cell (p := ⟨B, 5, none⟩) lB).trans q5)))
  all_goals
    go_wp2
    go_ret
    exact ⟨rfl, below2 HB0.out hb9⟩
end Go.Proofs.YtgiegoamcfjfmaaGreat
