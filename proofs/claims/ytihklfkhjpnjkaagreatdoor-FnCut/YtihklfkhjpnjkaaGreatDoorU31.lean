import Derived.Test.YtihklfkhjpnjkaaGreatDoorU30
import Derived.Test.YtihklfkhjpnjkaaGreatDoorU10
import Derived.Test.YtihklfkhjpnjkaaGreatDoorU28
import Derived.Test.YtihklfkhjpnjkaaGreatDoorU6
import Derived.Deep.RegionHeld3
import Derived.Test.YtihklfkhjpnjkaaGreatDoorU13
import Derived.Test.YtihklfkhjpnjkaaGreatDoorU12
set_option maxHeartbeats 8000000
set_option maxRecDepth 2000
open Go.ChangeShapes Go.WideShapes Go.ChangeAt Go.RowKit
namespace Go.Proofs.YtihklfkhjpnjkaaGreatDoor
structure Pc where
 r : ByteArray
 k : Int
 n : Int
 i : Int
 b : ByteArray
 m : Nat
 S : Nat → ByteArray
def cel (p : Pc) (v : Value) : Nat → Value
 | 0 => .string p.r
 | 1 => .int .i64 p.k
 | 2 => .int .i64 p.n
 | 3 => .int .i64 p.i
 | 4 => .string p.b
 | _ => v
def gL (c : Nat → Nat → Value) (n : Nat) : List Value := (List.range (n * 6)).map fun j => c (j / 6) (j % 6)
theorem gL_len (c : Nat → Nat → Value) (n : Nat) : (gL c n).length = n * 6 := by simp [gL]
theorem gL_get (c : Nat → Nat → Value) (n i q : Nat) (hi : i < n) (hq : q < 6) : (gL c n)[i * 6 + q]? = some (c i q) := by
 have h : i * 6 + q < n * 6 := by omega
 simp [gL, h, show (i * 6 + q) / 6 = i by omega, show (i * 6 + q) % 6 = q by omega]
theorem gL_congr {c c' : Nat → Nat → Value} {n : Nat} (h : ∀ i q, i < n → q < 6 → c i q = c' i q) : gL c n = gL c' n := by
 unfold gL
 refine List.map_congr_left fun j hj => ?_
 have : j < n * 6 := by simpa using hj
 exact h _ _ (by omega) (by omega)
theorem gL_set (c : Nat → Nat → Value) (n i q : Nat) (v : Value) (hi : i < n) (hq : q < 6) : (gL c n).set (i * 6 + q) v = gL (fun i' q' => if i' = i ∧ q' = q then v else c i' q') n := by
 apply List.ext_getElem?
 intro j
 rw [List.getElem?_set]
 by_cases hj : j < n * 6
 ·by_cases e : i * 6 + q = j
  ·subst e
   rw [if_pos rfl, if_pos (by rw [gL_len]; omega), gL_get _ _ _ _ hi hq]
   simp
  ·rw [if_neg e]
   have h1 := gL_get c n (j / 6) (j % 6) (by omega) (by omega)
   have h2 := gL_get (fun i' q' => if i' = i ∧ q' = q then v else c i' q') n (j / 6) (j % 6) (by omega) (by omega)
   rw [show j / 6 * 6 + j % 6 = j by omega] at h1 h2
   rw [h1, h2, if_neg (by omega)]
 ·rw [if_neg (by omega)]
  rw [List.getElem?_eq_none (by rw [gL_len]; omega), List.getElem?_eq_none (by rw [gL_len]; omega)]
theorem gL_snoc (c : Nat → Nat → Value) (n : Nat) : gL c (n + 1) = gL c n ++ [c n 0, c n 1, c n 2, c n 3, c n 4, c n 5] := by
 apply List.ext_getElem?
 intro j
 by_cases hj : j < n * 6
 ·rw [List.getElem?_append_left (by rw [gL_len]; omega)]
  have h1 := gL_get c (n + 1) (j / 6) (j % 6) (by omega) (by omega)
  have h2 := gL_get c n (j / 6) (j % 6) (by omega) (by omega)
  rw [show j / 6 * 6 + j % 6 = j by omega] at h1 h2
  rw [h1, h2]
 ·rw [List.getElem?_append_right (by rw [gL_len]; omega), gL_len]
  by_cases h6 : j < (n + 1) * 6
  ·obtain ⟨q, rfl⟩ : ∃ q, j = n * 6 + q := ⟨j - n * 6, by omega⟩
   have hq : q < 6 := by omega
   rw [gL_get _ _ _ _ (by omega) hq, show n * 6 + q - n * 6 = q by omega]
   match q, hq with
   | 0, _ => rfl
   | 1, _ => rfl
   | 2, _ => rfl
   | 3, _ => rfl
   | 4, _ => rfl
   | 5, _ => rfl
  ·rw [List.getElem?_eq_none (by rw [gL_len]; omega), List.getElem?_eq_none (by simp; omega)]
def OwnC (w : World) (B : Nat) (a : Option Addr) (n cap : Nat) (c : Nat → Nat → Value) : Prop := w.ownsRow B 33 6 (.slice a n cap) n (gL c n)
theorem OwnC.congr {w : World} {B : Nat} {a : Option Addr} {n cap : Nat} {c c' : Nat → Nat → Value} (h : OwnC w B a n cap c) (e : ∀ i q, i < n → q < 6 → c i q = c' i q) : OwnC w B a n cap c' := by
 unfold OwnC
 rw [← gL_congr e]
 exact h
theorem OwnC.below {w w' : World} {B : Nat} {a : Option Addr} {n cap : Nat} {c : Nat → Nat → Value} (h : OwnC w B a n cap c) (hb : Below w.heap.size w w') : OwnC w' B a n cap c := ownsRow_below h hb
theorem OwnC.cell {w : World} {B g : Nat} {n cap : Nat} {c : Nat → Nat → Value} (h : OwnC w B (some ⟨g, 0, none⟩) n cap c) {i q : Nat} (hi : i < n) (hq : q < 6) : w.cell? ⟨g, i * 6 + q, none⟩ = some (c i q) := by
 have := World.ownsRow.cellAt h (i * 6 + q) (by omega)
 rw [this]
 exact gL_get _ _ _ _ hi hq
theorem OwnC.set {w : World} {B g : Nat} {n cap : Nat} {c : Nat → Nat → Value} (h : OwnC w B (some ⟨g, 0, none⟩) n cap c) {i q : Nat} (hi : i < n) (hq : q < 6) (v : Value) : OwnC (w.setCell ⟨g, i * 6 + q, none⟩ v) B (some ⟨g, 0, none⟩) n cap (fun i' q' => if i' = i ∧ q' = q then v else c i' q') := by
 have := World.ownsRow.stored h (i * 6 + q) v
 rw [gL_set _ _ _ _ _ hi hq] at this
 exact this.1
def OwnP (w : World) (B : Nat) (a : Option Addr) (n cap : Nat) (A : Nat → Option Addr) (C : Nat → Nat) (P : Nat → Pc) : Prop :=
 OwnC w B a n cap (fun i => cel (P i) (.slice (A i) (P i).m (C i))) ∧ (∀ i, i < n → OwnT w B (A i) (P i).m (C i) (P i).S) ∧
 (∀ i j x y, i < j → j < n → A i = some x → A j = some y → x.block ≠ y.block) ∧ (∀ i x y, i < n → A i = some x → a = some y → x.block ≠ y.block)
theorem OwnP.below {w w' : World} {B : Nat} {a : Option Addr} {n cap : Nat} {A : Nat → Option Addr} {C : Nat → Nat} {P : Nat → Pc} (h : OwnP w B a n cap A C P) (hb : Below w.heap.size w w') : OwnP w' B a n cap A C P :=
 ⟨h.1.below hb, fun i hi => OwnT.below (h.2.1 i hi) hb, h.2.2⟩
def ResP (w w' : World) (v : Value) (n : Nat) (P : Nat → Pc) : Prop := ∃ g cap A C, v = .slice (some ⟨g, 0, none⟩) n cap ∧ OwnP w' w.heap.size (some ⟨g, 0, none⟩) n cap A C P
def PiAt (w : World) (a : Option Addr) (n : Nat) (P : Nat → Pc) : Prop := ∀ i, i < n → ∃ b off ap cp, a = some ⟨b, off, none⟩ ∧ (∀ q, q < 6 → w.cell? ⟨b, off + (i * 6 + q), none⟩ = some (cel (P i) (.slice ap (P i).m cp) q)) ∧ TxtAt w ap (P i).m (P i).S
theorem PiAt.below {w w' : World} {a : Option Addr} {n : Nat} {P : Nat → Pc} (h : PiAt w a n P) (hb : Below w.heap.size w w') : PiAt w' a n P := fun i hi => by
 obtain ⟨b, off, ap, cp, e, hc, ht⟩ := h i hi
 refine ⟨b, off, ap, cp, e, fun q hq => ?_, ht.below hb⟩
 exact (hb.cell (p := ⟨b, off + (i * 6 + q), none⟩) (block_lt_of_cell (hc q hq))).trans (hc q hq)
theorem OwnP.at {w : World} {B : Nat} {a : Option Addr} {n cap : Nat} {A : Nat → Option Addr} {C : Nat → Nat} {P : Nat → Pc} (h : OwnP w B a n cap A C P) : PiAt w a n P := fun i hi => by
 have h1 := h.1
 obtain ⟨g, rfl⟩ : ∃ g, a = some ⟨g, 0, none⟩ := by
  rcases h1.2 with ⟨e, h0⟩ | ⟨g, cap', cur, e, _⟩
  ·omega
  ·cases e; exact ⟨g, rfl⟩
 refine ⟨g, 0, A i, C i, rfl, fun q hq => ?_, OwnT.at (h.2.1 i hi)⟩
 rw [Nat.zero_add]
 exact h1.cell hi hq
noncomputable def cutP (k : Int) (n : Nat) (S : Nat → ByteArray) : Nat → Pc := fun i => ⟨rtS n (lvs k n S), k, (n : Int), (i : Int), S i, pfR n (lvs k n S) (i : Int), pfF n (lvs k n S) (i : Int)⟩
def atv (u : ByteArray) : Int := match Lib.atoiAll u.data.toList with
 | .ok v => v
 | .«syntax» => 0
 | .range => Lib.atoiSat u.data.toList
def atb (u : ByteArray) : Bool := match Lib.atoiAll u.data.toList with
 | .ok _ => true
 | _ => false
theorem atv_its (v : Int) (h0 : 0 ≤ v) (h1 : v ≤ 16) : atv (its v) = v ∧ atb (its v) = true := by
 have h := (its_small v h0 h1).2
 unfold atv atb
 rw [h]
 exact ⟨rfl, rfl⟩
theorem hxd_back (s : ByteArray) (h : 1 ≤ s.size) : hbS (hxd s) = s ∧ hbF (hxd s) = true := by
 have e : hxd s = hexT s := if_neg (by omega)
 rw [e]
 exact ⟨hex_back s, hex_ok s⟩
noncomputable def hyv (u : ByteArray) : ByteArray := if u = ⟨#[45]⟩ then ByteArray.empty else hbS u
theorem hyv_back (s : ByteArray) (h : 1 ≤ s.size) : hyv (hxd s) = s := by
 have e : hxd s = hexT s := if_neg (by omega)
 unfold hyv
 rw [e, if_neg, hex_back]
 intro h1
 have h2 := congrArg ByteArray.size h1
 rw [hexT_size] at h2
 have h3 : (⟨#[45]⟩ : ByteArray).size = 1 := rfl
 omega
def dgB (l : List UInt8) : Bool := l.all fun c => decide (48 ≤ c.toNat) && decide (c.toNat ≤ 57)
def nmf (l : List UInt8) : Nat := l.foldl (fun v c => 10 * v + (c.toNat - 48)) 0
def nmv (u : ByteArray) : Int := if u.size = 0 ∨ 9 < u.size ∨ dgB u.data.toList = false then -1 else if its ((nmf u.data.toList : Nat) : Int) = u then ((nmf u.data.toList : Nat) : Int) else -1
theorem nmv_its (v : Int) (h0 : 0 ≤ v) (h1 : v ≤ 16) : nmv (its v) = v := by
 obtain ⟨n, rfl⟩ := Int.eq_ofNat_of_zero_le h0
 have hn : n ≤ 16 := by omega
 have e : (its (n : Int)).data.toList = Lib.decDigits n := by
  show Lib.itoa (n : Int) = _
  unfold Lib.itoa
  rw [if_neg (by omega)]
  rfl
 have key : dgB (Lib.decDigits n) = true ∧ nmf (Lib.decDigits n) = n ∧ (Lib.decDigits n).length ≠ 0 ∧ (Lib.decDigits n).length ≤ 9 := by
  by_cases h : n < 10
  ·rw [Lib.decDigits_one h]
   match n, h with
   | 0, _ | 1, _ | 2, _ | 3, _ | 4, _ | 5, _ | 6, _ | 7, _ | 8, _ | 9, _ => exact ⟨by decide, by decide, by decide, by decide⟩
  ·rw [Lib.decDigits_two h (by omega)]
   match n, hn, h with
   | 10, _, _ | 11, _, _ | 12, _, _ | 13, _, _ | 14, _, _ | 15, _, _ | 16, _, _ => exact ⟨by decide, by decide, by decide, by decide⟩
   | n + 17, hn, _ => omega
 have hs : (its (n : Int)).size = (Lib.decDigits n).length := by rw [← e]; rfl
 obtain ⟨k1, k2, k3, k4⟩ := key
 have hno : ¬ ((its (n : Int)).size = 0 ∨ 9 < (its (n : Int)).size ∨ dgB (its (n : Int)).data.toList = false) := by
  rw [hs, e, k1]
  rintro (h | h | h)
  ·exact k3 h
  ·omega
  ·cases h
 unfold nmv
 rw [if_neg hno, e, k2, if_pos rfl]
def rdP (s : ByteArray) : Pc := ⟨hbS (wq s 0), atv (wq s 1), atv (wq s 2), atv (wq s 3), hbS (wq s 4), wn s - 6, fun j => hbS (wq s (j + 6))⟩
noncomputable def rdM (s : ByteArray) : Pc := ⟨hyv (wq s 0), nmv (wq s 1), nmv (wq s 2), nmv (wq s 3), hyv (wq s 4), wn s - 6, fun j => hyv (wq s (j + 6))⟩
noncomputable def okQ (p : Pc) : Bool := okP p.r p.k p.n p.i p.b p.m p.S
noncomputable def txQ (p : Pc) : ByteArray := pieceT p.r p.k p.n p.i p.b p.m p.S
def sameQ (p q : Pc) : Prop := p.r = q.r ∧ p.k = q.k ∧ p.n = q.n ∧ p.i = q.i ∧ p.b = q.b ∧ p.m = q.m ∧ ∀ j, j < q.m → p.S j = q.S j
def rdOk (s : ByteArray) : Prop := 6 ≤ wn s ∧ hbF (wq s 0) = true ∧ atb (wq s 1) = true ∧ atb (wq s 2) = true ∧ atb (wq s 3) = true ∧ hbF (wq s 4) = true ∧ ∀ j, j < wn s - 6 → hbF (wq s (j + 6)) = true
theorem reads_back (q : Pc) (h : okQ q = true) : rdOk (txQ q) ∧ sameQ (rdP (txQ q)) q ∧ sameQ (rdM (txQ q)) q := by
 obtain ⟨⟨hk1, hk2, hk3, hb1, hb2⟩, hi0, hi1, hr, hm, hS⟩ := okP_parts h
 obtain ⟨h1, h2⟩ := words_of h
 have h1' : wn (txQ q) = 6 + q.m := h1
 have w0 : wq (txQ q) 0 = hxd q.r := h2 0 (by omega)
 have w1 : wq (txQ q) 1 = its q.k := h2 1 (by omega)
 have w2 : wq (txQ q) 2 = its q.n := h2 2 (by omega)
 have w3 : wq (txQ q) 3 = its q.i := h2 3 (by omega)
 have w4 : wq (txQ q) 4 = hxd q.b := h2 4 (by omega)
 have w6 : ∀ j, j < q.m → wq (txQ q) (j + 6) = hxd (q.S j) := fun j hj => h2 (j + 6) (by omega)
 have e6 : wn (txQ q) - 6 = q.m := by omega
 have s6 : ∀ j, j < q.m → 1 ≤ (q.S j).size := fun j hj => by have := hS j hj; omega
 refine ⟨⟨by omega, ?_, ?_, ?_, ?_, ?_, fun j hj => ?_⟩, ⟨?_, ?_, ?_, ?_, ?_, e6, fun j hj => ?_⟩, ⟨?_, ?_, ?_, ?_, ?_, e6, fun j hj => ?_⟩⟩
 ·rw [w0]; exact (hxd_back _ (by omega)).2
 ·rw [w1]; exact (atv_its _ (by omega) (by omega)).2
 ·rw [w2]; exact (atv_its _ (by omega) (by omega)).2
 ·rw [w3]; exact (atv_its _ (by omega) (by omega)).2
 ·rw [w4]; exact (hxd_back _ hb1).2
 ·rw [w6 j (by omega)]; exact (hxd_back _ (s6 j (by omega))).2
 ·show hbS (wq (txQ q) 0) = _; rw [w0]; exact (hxd_back _ (by omega)).1
 ·show atv (wq (txQ q) 1) = _; rw [w1]; exact (atv_its _ (by omega) (by omega)).1
 ·show atv (wq (txQ q) 2) = _; rw [w2]; exact (atv_its _ (by omega) (by omega)).1
 ·show atv (wq (txQ q) 3) = _; rw [w3]; exact (atv_its _ (by omega) (by omega)).1
 ·show hbS (wq (txQ q) 4) = _; rw [w4]; exact (hxd_back _ hb1).1
 ·show hbS (wq (txQ q) (j + 6)) = _; rw [w6 j hj]; exact (hxd_back _ (s6 j hj)).1
 ·show hyv (wq (txQ q) 0) = _; rw [w0]; exact hyv_back _ (by omega)
 ·show nmv (wq (txQ q) 1) = _; rw [w1]; exact nmv_its _ (by omega) (by omega)
 ·show nmv (wq (txQ q) 2) = _; rw [w2]; exact nmv_its _ (by omega) (by omega)
 ·show nmv (wq (txQ q) 3) = _; rw [w3]; exact nmv_its _ (by omega) (by omega)
 ·show hyv (wq (txQ q) 4) = _; rw [w4]; exact hyv_back _ hb1
 ·show hyv (wq (txQ q) (j + 6)) = _; rw [w6 j hj]; exact hyv_back _ (s6 j hj)
theorem Tryz.infoPc3 : (Tryz.prog.info? 33).map (fun i => (i.zero, i.size, i.bytes)) = some (some (.agg #[.string ByteArray.empty, .int .i64 0, .int .i64 0, .int .i64 0, .string ByteArray.empty, .slice none 0 0]), 6, 80) := by kernel_rfl
def zc : Nat → Value
 | 0 => .string ByteArray.empty
 | 1 => .int .i64 0
 | 2 => .int .i64 0
 | 3 => .int .i64 0
 | 4 => .string ByteArray.empty
 | _ => .slice none 0 0
theorem made_gL (n : Nat) : (madeCells #[.string ByteArray.empty, .int .i64 0, .int .i64 0, .int .i64 0, .string ByteArray.empty, .slice none 0 0] (n * 6)).toList = gL (fun _ => zc) n := by
 apply List.ext_getElem?
 intro j
 by_cases hj : j < n * 6
 ·have h2 := gL_get (fun _ => zc) n (j / 6) (j % 6) (by omega) (by omega)
  rw [show j / 6 * 6 + j % 6 = j by omega] at h2
  rw [h2]
  have hq : j % 6 < 6 := by omega
  simp [madeCells, hj]
  generalize j % 6 = q at hq
  match q, hq with
  | 0, _ => rfl
  | 1, _ => rfl
  | 2, _ => rfl
  | 3, _ => rfl
  | 4, _ => rfl
  | 5, _ => rfl
 ·rw [List.getElem?_eq_none (by simp [madeCells]; omega), List.getElem?_eq_none (by rw [gL_len]; omega)]
def CutI (wr : World) (B G n : Nat) (P : Nat → Pc) (c : Nat) : Prop := ∃ (A : Nat → Option Addr) (C : Nat → Nat),
 OwnC wr B (some ⟨G, 0, none⟩) n n (fun i => if i < c then cel (P i) (.slice (A i) (P i).m (C i)) else zc) ∧ (∀ i, i < c → OwnT wr B (A i) (P i).m (C i) (P i).S) ∧
 (∀ i j x y, i < j → j < c → A i = some x → A j = some y → x.block ≠ y.block) ∧ (∀ i x, i < c → A i = some x → x.block ≠ G)
theorem CutI.step {wr w2 : World} {B G n : Nat} {P : Nat → Pc} {c : Nat} {aP : Option Addr} {cP : Nat} (h : CutI wr B G n P c) (hc : c < n) (hb : Below wr.heap.size wr w2) (hB : B ≤ wr.heap.size) (ho : OwnT w2 wr.heap.size aP (P c).m cP (P c).S) :
  CutI ((((((w2.setCell ⟨G, c * 6 + 0, none⟩ (.string (P c).r)).setCell ⟨G, c * 6 + 1, none⟩ (.int .i64 (P c).k)).setCell ⟨G, c * 6 + 2, none⟩ (.int .i64 (P c).n)).setCell ⟨G, c * 6 + 3, none⟩ (.int .i64 (P c).i)).setCell ⟨G, c * 6 + 4, none⟩ (.string (P c).b)).setCell ⟨G, c * 6 + 5, none⟩ (.slice aP (P c).m cP)) B G n P (c + 1) := by
 obtain ⟨A, C, h1, h2, h3, h4⟩ := h
 have lG := (World.ownsRow.lt h1 G rfl).2
 refine ⟨fun i => if i = c then aP else A i, fun i => if i = c then cP else C i, ?_, ?_, ?_, ?_⟩
 ·have e := (((((h1.below hb).set hc (show 0 < 6 by omega) (.string (P c).r)).set hc (show 1 < 6 by omega) (.int .i64 (P c).k)).set hc (show 2 < 6 by omega) (.int .i64 (P c).n)).set hc (show 3 < 6 by omega) (.int .i64 (P c).i)).set hc (show 4 < 6 by omega) (.string (P c).b)
  have e2 := e.set hc (show 5 < 6 by omega) (.slice aP (P c).m cP)
  refine e2.congr fun i q hi hq => ?_
  by_cases ei : i = c
  ·subst ei
   match q, hq with
   | 0, _ => simp [cel]
   | 1, _ => simp [cel]
   | 2, _ => simp [cel]
   | 3, _ => simp [cel]
   | 4, _ => simp [cel]
   | 5, _ => simp [cel]
  ·by_cases e2 : i < c
   ·simp [ei, e2, show i < c + 1 by omega]
   ·simp [ei, e2, show ¬ i < c + 1 by omega]
 ·intro i hi
  by_cases ei : i = c
  ·subst ei
   simp only [if_true]
   have o1 : OwnT w2 B aP (P i).m cP (P i).S := OwnT.base ho hB
   have far : ∀ x, aP = some x → x.block ≠ G := fun x e => by subst e; have := (World.ownsRow.lt ho x.block rfl).1; omega
   exact own_kept (own_kept (own_kept (own_kept (own_kept (own_kept o1 (grown_set _ _ _ _) far) (grown_set _ _ _ _) far) (grown_set _ _ _ _) far) (grown_set _ _ _ _) far) (grown_set _ _ _ _) far) (grown_set _ _ _ _) far
  ·simp only [ei, if_false]
   have o1 := OwnT.below (h2 i (by omega)) hb
   have far : ∀ x, A i = some x → x.block ≠ G := fun x e => h4 i x (by omega) e
   exact own_kept (own_kept (own_kept (own_kept (own_kept (own_kept o1 (grown_set _ _ _ _) far) (grown_set _ _ _ _) far) (grown_set _ _ _ _) far) (grown_set _ _ _ _) far) (grown_set _ _ _ _) far) (grown_set _ _ _ _) far
 ·intro i j x y hij hj hx hy
  replace hx : (if i = c then aP else A i) = some x := hx
  replace hy : (if j = c then aP else A j) = some y := hy
  by_cases ej : j = c
  ·subst ej
   simp only [if_true] at hy
   rw [if_neg (by omega)] at hx
   subst hy
   have l1 := (World.ownsRow.lt ho y.block rfl).1
   have hoi := h2 i (by omega)
   rw [hx] at hoi
   have l2 := (World.ownsRow.lt hoi x.block rfl).2
   omega
  ·rw [if_neg ej] at hy
   rw [if_neg (by omega)] at hx
   exact h3 i j x y hij (by omega) hx hy
 ·intro i x hi hx
  replace hx : (if i = c then aP else A i) = some x := hx
  by_cases ei : i = c
  ·subst ei
   simp only [if_true] at hx
   subst hx
   have := (World.ownsRow.lt ho x.block rfl).1
   omega
  ·rw [if_neg ei] at hx
   exact h4 i x (by omega) hx
theorem CutI.all {wr : World} {B G n : Nat} {P : Nat → Pc} (h : CutI wr B G n P n) : ∃ A C, OwnP wr B (some ⟨G, 0, none⟩) n n A C P := by
 obtain ⟨A, C, h1, h2, h3, h4⟩ := h
 refine ⟨A, C, h1.congr (fun i q hi _ => by simp [hi]), h2, h3, fun i x y hi hx hy => ?_⟩
 cases hy
 exact h4 i x hi hx
noncomputable def cutR (s : ByteArray) (k n : Int) : Nat := if encOk s k n = true then n.toNat else 0
theorem pcut_any (s : ByteArray) (k n : Int) (w : World) (hs : s.size ≤ 1048576) :
  Calls Tryz.prog 8 #[.string s, .int .i64 k, .int .i64 n] w fun e w' => ∃ v, e = .returned (.tuple #[v, .bool (encOk s k n)]) ∧ ResP w w' v (cutR s k n) (cutP k n.toNat (encS s k.toNat)) ∧ Below w.heap.size w w' := by
 have KE : Hid (Calls Tryz.prog 30 #[.string s, .int .i64 k, .int .i64 n] w fun e w' => ∃ v, e = .returned (.tuple #[v, .bool (encOk s k n)]) ∧ ResT w w' v (encR s k n) (encS s k.toNat) ∧ Below w.heap.size w w') := encode_any s k n w hs
 unfold cutR
 cases hok : encOk s k n with
 | false =>
  rw [hok] at KE
  obtain ⟨P, HP⟩ : ∃ P, Hid (cutP k n.toNat (encS s k.toNat) = P) := ⟨_, rfl⟩
  rw [HP.out]
  go_enter Tryz.func8, Tryz.ntmps8
  go_wp2_with fail
  refine Calls.mono KE.out ?_
  rintro e w1 ⟨v, rfl, _, b1⟩
  have HO : Hid (OwnP (w1.alloc (.cells #[] 33)) w.heap.size (some ⟨w1.heap.size, 0, none⟩) 0 0 (fun _ => none) (fun _ => 0) P) := ⟨World.ownsRow_lit w1 #[] 0 b1.size (by unfold maxLen; omega) rfl, fun i hi => absurd hi (Nat.not_lt_zero _), fun i j x y _ hj => absurd hj (Nat.not_lt_zero _), fun i x y hi => absurd hi (Nat.not_lt_zero _)⟩
  go_wp2
  go_ret2
  exact ⟨_, rfl, ⟨_, _, _, _, rfl, HO.out⟩, b1.alloc b1.size _⟩
 | true =>
  obtain ⟨h1, h2, h3, h4⟩ := encOk_parts hok
  have hR : encR s k n = n.toNat := by unfold encR; rw [hok]; rfl
  have hle := fun i => encS_le hok i
  rw [hok, hR] at KE
  rw [if_pos rfl]
  obtain ⟨N, rfl⟩ : ∃ N : Nat, n = (N : Int) := ⟨n.toNat, by omega⟩
  rw [Int.toNat_natCast] at KE ⊢
  generalize encS s k.toNat = S at KE hle ⊢
  have hN : N ≤ 16 := by omega
  obtain ⟨i0, hi, hz0, hz1, hz2⟩ := info_parts Tryz.infoPc3
  have HPC : Hid (∀ i, cutP k N S i = ⟨rtS N (lvs k N S), k, (N : Int), (i : Int), S i, pfR N (lvs k N S) (i : Int), pfF N (lvs k N S) (i : Int)⟩) := fun i => rfl
  obtain ⟨P, HP⟩ : ∃ P, Hid (cutP k N S = P) := ⟨_, rfl⟩
  rw [HP.out] at HPC
  rw [HP.out]
  obtain ⟨L, HL⟩ : ∃ L, Hid (lvs k N S = L) := ⟨_, rfl⟩
  have HL16 : Hid (∀ i, (L i).size ≤ 16) := fun i => by rw [← HL.out]; exact lvs_le _ _ _ _
  obtain ⟨rt, HRT⟩ : ∃ rt, Hid (rtS N L = rt) := ⟨_, rfl⟩
  have hrt : rt.size ≤ 1048576 := by
   rw [← HRT.out]
   unfold rtS
   split
   ·rename_i hlv
    have := lvB_parts hlv
    rw [Gt.rt_size (by omega) this.2.2]
    omega
   ·decide
  rw [HL.out, HRT.out] at HPC
  clear h1 h2 h3 h4 hok hR
  go_enter Tryz.func8, Tryz.ntmps8
  go_wp2_with fail
  refine Calls.mono KE.out ?_
  rintro e w1 ⟨v, rfl, ⟨aE, cE, rfl, O1⟩, b1⟩
  have A1 : TxtAt w1 aE N S := OwnT.at O1
  clear O1
  have HBD := bind_any k aE N cE S _ A1 (by omega) (fun i _ => by have := hle i; omega)
  rw [HL.out, HRT.out] at HBD
  go_wp2_with fail
  refine Calls.mono HBD ?_
  rintro e w2 ⟨GL, rfl, O2, b2⟩
  have HA2 : Hid (TxtAt w2 aE N S) := A1.below b2
  have HG2 : Hid (TxtAt w2 (some ⟨GL, 0, none⟩) N L) := OwnT.at O2
  have HB2 : Hid (Below w.heap.size w w2) := below2 b1 b2
  clear A1 O2 b1 b2 HBD hle KE
  obtain ⟨W, HW⟩ : ∃ W, Hid (W = w2.alloc (.cells #[.int .i64 k, .slice aE N cE, .slice (some ⟨GL, 0, none⟩) N N, .string rt] 53)) := ⟨_, rfl⟩
  obtain ⟨D, HD⟩ : ∃ D, Hid (D = w2.heap.size) := ⟨_, rfl⟩
  have HRW : Hid (Row W D 53 #[.int .i64 k, .slice aE N cE, .slice (some ⟨GL, 0, none⟩) N N, .string rt]) := by show Row _ _ _ _; rw [HW.out, HD.out]; exact Row.new w2 _ _
  have hbW : Below w2.heap.size w2 W := by rw [HW.out]; exact (Below.refl _ _).alloc (Nat.le_refl _) _
  go_wp2_with (at_make; rw [← HW.out, ← HD.out]; refine wpList_make_full _ rfl _ _ 26 rfl W.heap.size 33 i0 (.agg #[.string ByteArray.empty, .int .i64 0, .int .i64 0, .int .i64 0, .string ByteArray.empty, .slice none 0 0]) 6 Tryz.underlying26 hi hz0 hz1 .i64 .i64 _ _ N rfl rfl rfl rfl (by rw [hz2]; omega) (by unfold maxLen; omega) (Nat.le_refl _) ?_; intro w3 hown hgrow)
  obtain ⟨G, HG⟩ : ∃ G, Hid (G = W.heap.size) := ⟨_, rfl⟩
  have hGW : W.heap.size ≤ G := by rw [HG.out]; exact Nat.le_refl _
  have K3 : Hid (CutI w3 W.heap.size G N P 0) := by
   refine ⟨fun _ => none, fun _ => 0, ?_, fun i hi => absurd hi (Nat.not_lt_zero _), fun i j x y _ hj => absurd hj (Nat.not_lt_zero _), fun i x hi => absurd hi (Nat.not_lt_zero _)⟩
   rw [HG.out]
   show World.ownsRow _ _ _ _ _ _ _
   rw [gL_congr (c' := fun _ => zc) (fun i q _ _ => by simp), ← made_gL]
   exact hown
  have KB3 : Hid (Below W.heap.size W w3) := (Below.refl _ _).grown hgrow (Nat.le_refl _) (by simp)
  have KBW : Hid (Below w.heap.size w W) := below2 HB2.out hbW
  have HAW : Hid (TxtAt W aE N S) := HA2.out.below hbW
  have HGW : Hid (TxtAt W (some ⟨GL, 0, none⟩) N L) := HG2.out.below hbW
  rw [← HG.out]
  clear hown hgrow hbW HA2 HG2 HB2 hi hz0 hz1 hz2
  go_loopw [30] (fun i wr => ∃ c : Nat, c ≤ N ∧ i = .int .i64 c ∧ CutI wr W.heap.size G N P c ∧ Below W.heap.size W wr) (fun i _ => N - (intOf i).toNat)
  case atStart => exact ⟨0, Nat.zero_le _, rfl, K3.out, KB3.out⟩
  case round =>
   obtain ⟨c, hk, rfl, hci, hbel⟩ := hrel
   clear K3 KB3
   by_cases hlt : c < N
   ·have hki : (c : Int) < (N : Int) := by omega
    have HRr : Hid (Row wr D 53 #[.int .i64 k, .slice aE N cE, .slice (some ⟨GL, 0, none⟩) N N, .string rt]) := HRW.out.below hbel HRW.out.lt
    have KP : Hid (Calls Tryz.prog 32 #[.agg #[.int .i64 k, .slice aE N cE, .slice (some ⟨GL, 0, none⟩) N N, .string rt], .int .i64 (c : Int)] wr fun e w' => ∃ v, e = .returned (pcV rt k (N : Int) (c : Int) (S c) v) ∧ ResT wr w' v (P c).m (P c).S ∧ Below wr.heap.size wr w') := by
     rw [HPC.out]
     exact piece_any k aE N cE S GL L rt c wr (HAW.out.below hbel) (HGW.out.below hbel) hlt (by omega) HL16.out hrt
    have KI : Hid (CutI wr W.heap.size G N P c) := hci
    have KB : Hid (Below W.heap.size W wr) := hbel
    have lG : G < wr.heap.size := by
     obtain ⟨A, C, h1, _⟩ := hci
     exact (World.ownsRow.lt h1 G rfl).2
    have HS : Hid ((P c).r = rt ∧ (P c).k = k ∧ (P c).n = (N : Int) ∧ (P c).i = (c : Int) ∧ (P c).b = S c) := by rw [HPC.out]; exact ⟨rfl, rfl, rfl, rfl, rfl⟩
    obtain ⟨sc, HSC⟩ : ∃ sc, Hid (S c = sc) := ⟨_, rfl⟩
    rw [HSC.out] at KP HS
    obtain ⟨mc, HMC⟩ : ∃ mc, Hid ((P c).m = mc) := ⟨_, rfl⟩
    rw [HMC.out] at KP
    have cells : ∃ f : Nat → Value, (∀ q, q < 6 → wr.cell? ⟨G, c * 6 + q, none⟩ = some (f q)) ∧ ∀ q, wr.frozen? ⟨G, c * 6 + q, none⟩ = false := by
     obtain ⟨A, C, h1, _⟩ := hci
     exact ⟨_, fun q hq => h1.cell hlt hq, fun q => World.ownsRow.frozenAt h1 _⟩
    obtain ⟨f, HF, HFr⟩ := cells
    have HFc : Hid (∀ q, q < 6 → wr.cell? ⟨G, c * 6 + q, none⟩ = some (f q)) := HF
    have HFf : Hid (∀ q, wr.frozen? ⟨G, c * 6 + q, none⟩ = false) := HFr
    clear hci hbel HF HFr
    go_wp2_with (refine wpList_load_row (by rfl) 53 _ (by rfl) D (by rfl) 53 _ (0, 0) _ HRr.out Tryz.underlying53 (by rfl) Tryz.infoCut ?_)
    refine Calls.mono KP.out ?_
    rintro e w4 ⟨v4, rfl, ⟨aP, cP, rfl, O4⟩, hb4⟩
    have HI : Hid (CutI ((((((w4.setCell ⟨G, c * 6 + 0, none⟩ (.string rt)).setCell ⟨G, c * 6 + 1, none⟩ (.int .i64 k)).setCell ⟨G, c * 6 + 2, none⟩ (.int .i64 (N : Int))).setCell ⟨G, c * 6 + 3, none⟩ (.int .i64 (c : Int))).setCell ⟨G, c * 6 + 4, none⟩ (.string sc)).setCell ⟨G, c * 6 + 5, none⟩ (.slice aP mc cP)) W.heap.size G N P (c + 1)) := by
     have := CutI.step (aP := aP) (cP := cP) KI.out hlt hb4 KB.out.size (by rw [HMC.out]; exact O4)
     rw [HMC.out, HS.out.1, HS.out.2.1, HS.out.2.2.1, HS.out.2.2.2.1, HS.out.2.2.2.2] at this
     exact this
    have HB4 : Hid (Below W.heap.size W ((((((w4.setCell ⟨G, c * 6 + 0, none⟩ (.string rt)).setCell ⟨G, c * 6 + 1, none⟩ (.int .i64 k)).setCell ⟨G, c * 6 + 2, none⟩ (.int .i64 (N : Int))).setCell ⟨G, c * 6 + 3, none⟩ (.int .i64 (c : Int))).setCell ⟨G, c * 6 + 4, none⟩ (.string sc)).setCell ⟨G, c * 6 + 5, none⟩ (.slice aP mc cP))) := Below.setCell (Below.setCell (Below.setCell (Below.setCell (Below.setCell (Below.setCell (below2 KB.out hb4) hGW _) hGW _) hGW _) hGW _) hGW _) hGW _
    have x0 := (hb4.cell (p := ⟨G, c * 6 + 0, none⟩) lG).trans (HFc.out 0 (by omega))
    have x1 := (hb4.cell (p := ⟨G, c * 6 + 1, none⟩) lG).trans (HFc.out 1 (by omega))
    have x2 := (hb4.cell (p := ⟨G, c * 6 + 2, none⟩) lG).trans (HFc.out 2 (by omega))
    have x3 := (hb4.cell (p := ⟨G, c * 6 + 3, none⟩) lG).trans (HFc.out 3 (by omega))
    have x4 := (hb4.cell (p := ⟨G, c * 6 + 4, none⟩) lG).trans (HFc.out 4 (by omega))
    have x5 := (hb4.cell (p := ⟨G, c * 6 + 5, none⟩) lG).trans (HFc.out 5 (by omega))
    have f0 := (World.frozen?_of_block (a := ⟨G, c * 6 + 0, none⟩) (hb4.block _ lG)).trans (HFf.out 0)
    have f1 := (World.frozen?_of_block (a := ⟨G, c * 6 + 1, none⟩) (hb4.block _ lG)).trans (HFf.out 1)
    have f2 := (World.frozen?_of_block (a := ⟨G, c * 6 + 2, none⟩) (hb4.block _ lG)).trans (HFf.out 2)
    have f3 := (World.frozen?_of_block (a := ⟨G, c * 6 + 3, none⟩) (hb4.block _ lG)).trans (HFf.out 3)
    have f4 := (World.frozen?_of_block (a := ⟨G, c * 6 + 4, none⟩) (hb4.block _ lG)).trans (HFf.out 4)
    have f5 := (World.frozen?_of_block (a := ⟨G, c * 6 + 5, none⟩) (hb4.block _ lG)).trans (HFf.out 5)
    generalize f 0 = y0 at x0
    generalize f 1 = y1 at x1
    generalize f 2 = y2 at x2
    generalize f 3 = y3 at x3
    generalize f 4 = y4 at x4
    generalize f 5 = y5 at x5
    clear hb4 O4 KP KI KB HFc HFf
    rw [Nat.add_zero] at x0 f0 HI HB4
    go_wp2
    go_roundw
    case rel => exact ⟨c + 1, by omega, by go_num, HI.out, HB4.out⟩
    case measure => simp [intOf] <;> omega
   ·obtain rfl : c = N := by omega
    have HO : Hid (∃ A C, OwnP wr w.heap.size (some ⟨G, 0, none⟩) c c A C P) := by
     obtain ⟨A, C, h1, h2, h3⟩ := CutI.all hci
     exact ⟨A, C, own_base h1 KBW.out.size, fun i hi => OwnT.base (h2 i hi) KBW.out.size, h3⟩
    have HB5 : Hid (Below w.heap.size w wr) := below2 KBW.out hbel
    clear hci hbel
    go_wp2
    go_ret2
    obtain ⟨A, C, hO⟩ := HO.out
    exact ⟨_, rfl, ⟨_, _, A, C, rfl, hO⟩, HB5.out⟩
end Go.Proofs.YtihklfkhjpnjkaaGreatDoor
namespace Go.Proofs.YtihklfkhjpnjkaaGreatDoor
open Gt (pl pr_congr)
theorem aS_congr {m : Nat} {S S' : Nat → ByteArray} (h : ∀ j, j < m → S j = S' j) : aS m S = aS m S' := by
 have key : ∀ {S S' : Nat → ByteArray}, (∀ j, j < m → S j = S' j) → aS m S = true → aS m S' = true := fun {S S'} h h1 => by
  refine aS_yes fun i hi => ?_
  unfold aS at h1
  have h2 : ∀ i, i < m → (S i).size = 16 := by simpa using h1
  rw [← h i hi]
  exact h2 i hi
 cases h1 : aS m S <;> cases h2 : aS m S'
 ·rfl
 ·rw [key (fun j hj => (h j hj).symm) h2] at h1; cases h1
 ·rw [key h h1] at h2; cases h2
 ·rfl
theorem prB_congr {x : ByteArray} {i n : Int} {m : Nat} {S S' : Nat → ByteArray} (h : ∀ j, j < m → S j = S' j) : prB x i n m S = prB x i n m S' := by
 unfold prB
 rw [aS_congr h]
theorem pvB_congr {r x : ByteArray} {i n : Int} {m : Nat} {S S' : Nat → ByteArray} (h : ∀ j, j < m → S j = S' j) : pvB r x i n m S = pvB r x i n m S' := by
 unfold pvB
 rw [prB_congr h]
 cases hb : prB x i n m S'
 ·rw [Bool.false_and, Bool.false_and]
 ·have hb' : prB x i n m S = true := by rw [prB_congr h]; exact hb
  have hm : m = pl i.toNat n.toNat := by
   have h1 := hb
   unfold prB at h1
   simp only [Bool.and_eq_true, decide_eq_true_eq] at h1
   have h2 := h1.1.2
   unfold plI at h2
   split at h2 <;> omega
  have e : prS x i n m S = prS x i n m S' := by
   unfold prS
   rw [if_pos hb', if_pos hb]
   refine pr_congr x i.toNat 0 0 fun j hj => ?_
   simpa using h j (by omega)
  rw [e]
theorem okP_congr {r : ByteArray} {k n i : Int} {b : ByteArray} {m : Nat} {S S' : Nat → ByteArray} (h : ∀ j, j < m → S j = S' j) : okP r k n i b m S = okP r k n i b m S' := by
 by_cases hk : kOk k n b
 ·rw [okP_yes hk, okP_yes hk, pvB_congr h]
 ·rw [okP_no hk, okP_no hk]
theorem jp_congr {P P' : Nat → ByteArray} : ∀ n, (∀ j, j < n → P j = P' j) → jp P n = jp P' n
 | 0, _ => rfl
 | n + 1, h => by
  by_cases hn : n = 0
  ·subst hn
   exact h 0 (by omega)
  ·rw [jp_s P n hn, jp_s P' n hn, jp_congr n (fun j hj => h j (by omega)), h n (by omega)]
theorem pieceT_congr {r : ByteArray} {k n i : Int} {b : ByteArray} {m : Nat} {S S' : Nat → ByteArray} (h : ∀ j, j < m → S j = S' j) : pieceT r k n i b m S = pieceT r k n i b m S' := by
 unfold pieceT
 refine jp_congr _ fun j hj => ?_
 match j with
 | 0 | 1 | 2 | 3 | 4 | 5 => rfl
 | j + 6 => show hxd (S j) = hxd (S' j); rw [h j (by omega)]
theorem sameQ.eqs {p q : Pc} (h : sameQ p q) : okQ p = okQ q ∧ txQ p = txQ q := by
 obtain ⟨r, k, n, i, b, m, S⟩ := p
 obtain ⟨r', k', n', i', b', m', S'⟩ := q
 obtain ⟨h1, h2, h3, h4, h5, h6, h7⟩ := h
 dsimp only at h1 h2 h3 h4 h5 h6 h7
 subst h1; subst h2; subst h3; subst h4; subst h5; subst h6
 exact ⟨okP_congr h7, pieceT_congr h7⟩
def NoQ (s : ByteArray) : Prop := ∀ q, okQ q = true → txQ q ≠ s
theorem no_words {s : ByteArray} (h : ¬ rdOk s) : NoQ s := fun q hq e => h (e ▸ (reads_back q hq).1)
theorem no_prog {s : ByteArray} (h : ¬ (okQ (rdP s) = true ∧ txQ (rdP s) = s)) : NoQ s := fun q hq e => by
 have h1 := (reads_back q hq).2.1
 rw [e] at h1
 obtain ⟨h2, h3⟩ := h1.eqs
 exact h ⟨h2.trans hq, h3.trans e⟩
def pz : Pc := ⟨ByteArray.empty, 0, 0, 0, ByteArray.empty, 0, fun _ => ByteArray.empty⟩
def RdS (s : ByteArray) (p : Pc) (b : Bool) : Prop := (b = true ∧ okQ p = true ∧ txQ p = s) ∨ (b = false ∧ p = pz ∧ NoQ s)
theorem RdS.one {s : ByteArray} {p p' : Pc} {b b' : Bool} (h : RdS s p b) (h' : RdS s p' b') : b = b' ∧ sameQ p p' := by
 rcases h with ⟨hb, h1, h2⟩ | ⟨hb, h1, h2⟩
 ·rcases h' with ⟨hb', h1', h2'⟩ | ⟨hb', h1', h2'⟩
  ·refine ⟨hb.trans hb'.symm, ?_⟩
   have a := (reads_back p h1).2.1
   have a' := (reads_back p' h1').2.1
   rw [h2] at a
   rw [h2'] at a'
   obtain ⟨c1, c2, c3, c4, c5, c6, c7⟩ := a
   obtain ⟨d1, d2, d3, d4, d5, d6, d7⟩ := a'
   exact ⟨c1.symm.trans d1, c2.symm.trans d2, c3.symm.trans d3, c4.symm.trans d4, c5.symm.trans d5, c6.symm.trans d6, fun j hj => (c7 j (by omega)).symm.trans (d7 j hj)⟩
  ·exact absurd h2 (h2' p h1)
 ·rcases h' with ⟨hb', h1', h2'⟩ | ⟨hb', h1', h2'⟩
  ·exact absurd h2' (h2 p' h1')
  ·subst h1; subst h1'
   exact ⟨hb.trans hb'.symm, rfl, rfl, rfl, rfl, rfl, rfl, fun _ _ => rfl⟩
end Go.Proofs.YtihklfkhjpnjkaaGreatDoor
namespace Go.Proofs.YtihklfkhjpnjkaaGreatDoor
theorem samePc_same (r : ByteArray) (k n i : Int) (b : ByteArray) (a a' : Option Addr) (m ca ca' : Nat) (S : Nat → ByteArray) (w : World) (h : TxtAt w a m S) (h' : TxtAt w a' m S) (hm : m ≤ 1048576) :
  Calls Tryz.prog 12 #[pcV r k n i b (.slice a m ca), pcV r k n i b (.slice a' m ca')] w fun e w' => e = .returned (.bool true) ∧ Below w.heap.size w w' := by
 obtain ⟨w0, HW0⟩ : ∃ x, Hid (x = (w.alloc (.cells (pcC r k n i b (.slice a m ca)) 33)).alloc (.cells (pcC r k n i b (.slice a' m ca')) 33)) := ⟨_, rfl⟩
 have hb0 : Below w.heap.size w w0 := by rw [HW0.out]; exact ((Below.refl _ _).alloc (Nat.le_refl _) _).alloc (by simp) _
 have HB0 : Hid (Below w.heap.size w w0) := hb0
 have KE : Hid _ := sameT_same a a' m ca ca' S w0 (h.below hb0) (h'.below hb0) hm
 have hf1 : (r.toList == r.toList) = true := by simp
 have hf2 := ba_beq r
 have hf3 : (b.toList == b.toList) = true := by simp
 have hf4 := ba_beq b
 have hf5 : (k == k) = true := by simp
 have hf6 : (n == n) = true := by simp
 have hf7 : (i == i) = true := by simp
 clear h h' hb0
 go_enter Tryz.func12, Tryz.ntmps12
 go_wp2_with fail
 rw [← HW0.out]
 refine Calls.mono KE.out ?_
 rintro e w1 ⟨rfl, b1⟩
 go_wp2
 go_ret
 exact ⟨rfl, below2 HB0.out b1⟩
end Go.Proofs.YtihklfkhjpnjkaaGreatDoor
