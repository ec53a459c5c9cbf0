/- What the exact laws count of slots and nodes. Conditions: what each says. -/
import Derived.Test.YtggmcgcmpgofcaaI23
import Derived.Test.YtggmcgcmpgofcaaI15
import Derived.Test.YtggmcgcmpgofcaaRows
import Derived.Deep.Slices
import Derived.Test.YtggmcgcmpgofcaaI14
import Derived.Test.YtggmcgcmpgofcaaI9
import Derived.Test.YtggmcgcmpgofcaaI17
namespace Go.Proofs.Ytggmcgcmpgofcaa
set_option maxRecDepth 2000
open Go.ChangeShapes Go.WideShapes Go.ChangeAt Go.RowKit

/-- What the form tells of a slot that came in. -/
structure SlI (w : World) (s : Sl) (a6 : Option Addr) : Prop where
  r : s.r.size ≤ maxLen
  pr : s.p.r.size ≤ maxLen
  pb : s.p.b.size ≤ maxLen
  tx : IsTxt w a6 s.p.m s.p.S
  ne : s.ze.length ≤ maxLen
  nr : s.zr.length ≤ maxLen
/-- The same without its memory. -/
structure SlB (s : Sl) : Prop where
  r : s.r.size ≤ maxLen
  pr : s.p.r.size ≤ maxLen
  pb : s.p.b.size ≤ maxLen
  m : s.p.m ≤ maxLen
  tx : ∀ i, i < s.p.m → (s.p.S i).size ≤ maxLen
  ne : s.ze.length ≤ maxLen
  nr : s.zr.length ≤ maxLen
theorem SlB.i {s : Sl} (h : SlB s) {w : World} {a6 : Option Addr} (ht : TxtAt w a6 s.p.m s.p.S) : SlI w s a6 := ⟨h.r, h.pr, h.pb, ⟨ht, h.m, h.tx⟩, h.ne, h.nr⟩
end Go.Proofs.Ytggmcgcmpgofcaa
/- Lists of structs that are handed in, read as the form reads them; slots and nodes. No condition. -/
namespace Go.Proofs.Ytggmcgcmpgofcaa
set_option maxRecDepth 2000
open Go.ChangeShapes Go.WideShapes Go.ChangeAt Go.RowKit

end Go.Proofs.Ytggmcgcmpgofcaa
/- Slots, lists of slots and nodes, copied by the exact laws: the copies lie in new memory. Conditions: no list is longer than 2^20. Written by mknto.py. -/
namespace Go.Proofs.Ytggmcgcmpgofcaa
set_option maxRecDepth 2000
open Go.ChangeShapes Go.WideShapes Go.ChangeAt Go.RowKit

/-- A row of numbers that is ours, as a datum. -/
theorem ow_ints {w : World} {B : Nat} {a : Option Addr} {cap : Nat} {zs : List Int} {F : Nat → Prop} (h : w.ownsRow B 3 1 (.slice a zs.length cap) zs.length (zs.map (Value.int .i64))) (hF : ∀ x, a = some x → F x.block) : Ow w B (inD zs) (.slice a zs.length cap) F := by
  refine ⟨a, cap, fun i _ => .int .i64 (zs.getD i 0), fun _ _ _ => False, rfl, ?_, ⟨hF, fun _ _ _ _ _ h => h.elim, fun _ _ _ _ _ _ h => h, fun _ _ _ _ _ _ _ _ _ h => h.elim⟩, fun _ _ _ _ => rfl⟩
  have : cL 1 (fun i _ => Value.int .i64 (zs.getD i 0)) zs.length = zs.map (Value.int .i64) := by
    apply List.ext_getElem?
    intro i
    by_cases hi : i < zs.length
    · have := cL_get 1 (fun i _ => Value.int .i64 (zs.getD i 0)) zs.length i 0 hi (by omega)
      rw [Nat.mul_one, Nat.add_zero] at this
      rw [this]
      simp [hi]
    · rw [List.getElem?_eq_none (by rw [cL_len]; omega), List.getElem?_eq_none (by simp; omega)]
  rw [this]
  exact h
theorem ints_ow {w : World} {B : Nat} {v : Value} {zs : List Int} {F : Nat → Prop} (h : Ow w B (inD zs) v F) : ∃ a cap, v = .slice a zs.length cap ∧ w.ownsRow B 3 1 (.slice a zs.length cap) zs.length (zs.map (Value.int .i64)) ∧ ∀ x, a = some x → F x.block := by
  obtain ⟨a, cap, c, G, e, ho, hs, hr⟩ := h
  refine ⟨a, cap, e, ?_, hs.head⟩
  have : cL 1 c zs.length = zs.map (Value.int .i64) := by
    apply List.ext_getElem?
    intro i
    by_cases hi : i < zs.length
    · have := cL_get 1 c zs.length i 0 hi (by omega)
      rw [Nat.mul_one, Nat.add_zero] at this
      rw [this]
      have h2 : c i 0 = .int .i64 (zs.getD i 0) := hr i 0 hi (by omega)
      rw [h2]
      simp [hi]
    · rw [List.getElem?_eq_none (by rw [cL_len]; omega), List.getElem?_eq_none (by simp; omega)]
  rw [← this]
  exact ho
theorem World.size_setCells (b : Nat) : ∀ (vs : List Value) (o : Nat) (w : World), (w.setCells b o vs).heap.size = w.heap.size
  | [], _, _ => rfl
  | v :: r, o, w => by rw [World.setCells, World.size_setCells b r (o + 1) _]; simp
end Go.Proofs.Ytggmcgcmpgofcaa
/- Lists of numbers, copied: slices.Clone, and the model's way. Condition: at most 2^20 numbers. -/
namespace Go.Proofs.Ytggmcgcmpgofcaa
set_option maxRecDepth 2000
open Go.ChangeShapes Go.WideShapes Go.ChangeAt Go.RowKit

/-- The cells of a list that is read, as append asks for them. -/
theorem ints_news {w : World} {b off n : Nat} {zs : List Int} (h : IntsAt w (some ⟨b, off, none⟩) n zs) : ∀ (j : Nat) (u : Value), (zs.map (Value.int .i64))[j]? = some u → w.cell? ((⟨b, off, none⟩ : Addr).add j) = some u := fun j u hu => by
  have hj : j < zs.length := by
    have := (List.getElem?_eq_some_iff.1 hu).1
    simpa using this
  obtain ⟨b', off', e, hc⟩ := h.2 j (by rw [← h.1]; exact hj)
  cases e
  have ea : (⟨b, off, none⟩ : Addr).add j = ⟨b, off + j, none⟩ := by unfold Addr.add; split <;> simp_all
  rw [ea, hc, ← hu]
  simp [hj]
theorem ints_spot {w : World} {a : Addr} {n : Nat} {zs : List Int} (h : IntsAt w (some a) n zs) (hn : 0 < n) : a = ⟨a.block, a.off, none⟩ := by
  obtain ⟨b, off, e, _⟩ := h.2 0 hn
  cases e
  rfl
theorem slice_none (n c : Nat) (w : World) : Sem.run Try.prog (binOp BinOp.eql 24 (.slice none n c) (.slice none 0 0)) w = .ok (.bool true) w := by rfl
theorem slice_some (x : Addr) (n c : Nat) (w : World) : Sem.run Try.prog (binOp BinOp.eql 24 (.slice (some x) n c) (.slice none 0 0)) w = .ok (.bool false) w := by rfl
set_option maxHeartbeats 1000000 in
theorem cloneI_any (a : Option Addr) (cap : Nat) (zs : List Int) (w : World) (h : IntsAt w a zs.length zs) (hn : zs.length ≤ 1048576) :
    Calls Try.prog 39 #[.slice a zs.length cap] w fun e w' => ∃ a' c', e = .returned (.slice a' zs.length c') ∧ Ow w' w.heap.size (inD zs) (.slice a' zs.length c') (rng w.heap.size w'.heap.size) ∧ Below w.heap.size w w' := by
  obtain ⟨i0, hi, hz0, hz1, hz2⟩ : ∃ i0, Try.prog.info? 3 = some i0 ∧ i0.zero = some (.int .i64 0) ∧ i0.size = 1 ∧ i0.bytes = 8 := ⟨_, rfl, rfl, rfl, rfl⟩
  obtain ⟨n, HN⟩ : ∃ x, Hid (zs.length = x) := ⟨_, rfl⟩
  rw [HN.out] at h hn ⊢
  match a, h with
  | none, h =>
    have e0 : n = 0 := by
      by_cases h0 : n = 0
      · exact h0
      · obtain ⟨b, off, e, _⟩ := h.2 0 (by omega)
        cases e
    subst e0
    have ez : zs = [] := List.length_eq_zero_iff.1 HN.out
    subst ez
    have hsn := slice_none
    go_enter Try.func39, Try.ntmps39
    go_wp2
    go_ret
    exact ⟨none, 0, rfl, ow_ints (zs := []) (World.ownsRow_nil _ _ _ _) (fun x e => by cases e), Below.refl _ _⟩
  | some ad, h =>
    obtain ⟨b, off, sp⟩ := ad
    have HNW : Hid (∀ (j : Nat) (u : Value), (zs.map (Value.int .i64))[j]? = some u → w.cell? ((⟨b, off, sp⟩ : Addr).add j) = some u) := fun j u hu => by
      have hj : 0 < n := by
        have := (List.getElem?_eq_some_iff.1 hu).1
        have := HN.out
        simp at *
        omega
      have e := ints_spot h hj
      simp at e
      subst e
      exact ints_news h j u hu
    have HLL : Hid ((zs.map (Value.int .i64)).length = n * 1) := by show _ = _; simp [HN.out]
    have HO : Hid ((w.alloc (.cells #[] 3)).ownsRow w.heap.size 3 1 (.slice (some ⟨w.heap.size, 0, none⟩) 0 0) 0 []) := by
      have := World.ownsRow_lit (e := 3) (size := 1) (base := w.heap.size) w #[] 0 (by simp) (by unfold maxLen; omega) (by simp)
      exact this
    have HNA : Hid (∀ (j : Nat) (u : Value), (zs.map (Value.int .i64))[j]? = some u → (w.alloc (.cells #[] 3)).cell? ((⟨b, off, sp⟩ : Addr).add j) = some u) := fun j u hu => by
      have := HNW.out j u hu
      rw [((Below.refl w.heap.size w).alloc (Nat.le_refl _) _).cell (block_lt_of_cell this)]
      exact this
    have HB0 : Hid (Below w.heap.size w (w.alloc (.cells #[] 3))) := (Below.refl _ _).alloc (Nat.le_refl _) _
    clear h
    have hss := slice_some
    go_enter Try.func39, Try.ntmps39
    go_wp2_with (at_builtin; refine wpList_append_all _ (by rfl) _ _ 24 (by rfl) w.heap.size 3 i0 (.int .i64 0) 1 8 Try.underlying24 hi hz0 hz1 hz2 rfl (by decide) w.heap.size 0 0 [] (by rfl) ?_ ⟨b, off, sp⟩ n cap (zs.map (Value.int .i64)) (by rfl) ?_ ?_ (by simp [Value.oneCell']) (by unfold maxLen; omega) (by omega) (by simp) ?_; exact HO.out; exact HLL.out; exact HNA.out; intro g3 cap3 w3 hown3 hgrow3)
    have HB3 : Hid (Below w.heap.size w w3) := HB0.out.grown hgrow3 (by simp) (fun x hx => by cases hx; exact Nat.le_refl _)
    have HO3 : Hid (w3.ownsRow w.heap.size 3 1 (.slice (some ⟨g3, 0, none⟩) zs.length cap3) zs.length (zs.map (Value.int .i64))) := by
      show World.ownsRow _ _ _ _ _ _ _
      rw [HN.out]
      simpa using hown3
    have lg := World.ownsRow.lt HO3.out g3 rfl
    clear hown3 hgrow3
    go_wp2
    go_ret
    refine ⟨some ⟨g3, 0, none⟩, cap3, by simp, ?_, HB3.out⟩
    have := ow_ints HO3.out (F := rng w.heap.size w3.heap.size) (fun x e => by cases e; exact lg)
    rw [HN.out] at this
    exact this
end Go.Proofs.Ytggmcgcmpgofcaa
/- Lists of slots and nodes, copied by the exact laws: the copies lie in new memory. Conditions: no list is longer than 2^20. -/
namespace Go.Proofs.Ytggmcgcmpgofcaa
set_option maxRecDepth 2000
open Go.ChangeShapes Go.WideShapes Go.ChangeAt Go.RowKit

def slZ : Sl := ⟨ByteArray.empty, ⟨ByteArray.empty, 0, 0, 0, ByteArray.empty, 0, fun _ => ByteArray.empty⟩, false, false, false, false, [], []⟩
end Go.Proofs.Ytggmcgcmpgofcaa
/- Lists of nodes: by plain values, read, counted, copied and compared. Conditions: lists of at most 2^20. Written by a program. -/
namespace Go.Proofs.Ytggmcgcmpgofcaa
set_option maxRecDepth 2000
open Go.ChangeShapes Go.WideShapes Go.ChangeAt Go.RowKit

/-- A node by plain values. -/
structure Nd where
  i : Int
  f : Int
  n : Nat
  S : Nat → Sl
def ndD (d : Nd) : Nat → Dt
  | 0 => .val (.int .i64 d.i)
  | 1 => .val (.int .i64 d.f)
  | _ => slsD d.n d.S
def ndsD (m : Nat) (N : Nat → Nd) : Dt := .lst 65 3 m fun i => ndD (N i)
structure NdS (d : Nd) : Prop where
  n : d.n ≤ 1048576
  s : ∀ i, i < d.n → SlS (d.S i)
theorem node_at {w : World} {m : Nat} {N : Nat → Nd} {a : Option Addr} {cap : Nat} (h : Rd w (ndsD m N) (.slice a m cap)) {c : Nat} (hc : c < m) :
    ∃ (b off : Nat) (an : Option Addr) (cn : Nat), a = some ⟨b, off, none⟩ ∧ (w.cell? ⟨b, off + c * 3, none⟩ = some (.int .i64 (N c).i) ∧ w.cell? ⟨b, off + c * 3 + 1, none⟩ = some (.int .i64 (N c).f) ∧ w.cell? ⟨b, off + c * 3 + 2, none⟩ = some (.slice an (N c).n cn)) ∧ w.rangeAt b (off + c * 3) [.int .i64 (N c).i, .int .i64 (N c).f, .slice an (N c).n cn] ∧ Rd w (slsD (N c).n (N c).S) (.slice an (N c).n cn) := by
  obtain ⟨b, off, y, ea, hy, hr⟩ := h.row hc
  have r2 : Rd w (slsD (N c).n (N c).S) (y 2) := hr 2 (by omega)
  obtain ⟨an, cn, e2⟩ := r2.shape
  rw [e2] at r2
  have g0 := hr 0 (by omega)
  have g1 := hr 1 (by omega)
  simp only [Rd, ndD] at g0 g1
  have c0 := hy 0 (by omega)
  have c1 := hy 1 (by omega)
  have c2 := hy 2 (by omega)
  rw [g0, ← Nat.add_assoc] at c0
  rw [g1, ← Nat.add_assoc] at c1
  rw [e2, ← Nat.add_assoc] at c2
  refine ⟨b, off, an, cn, ea, ⟨c0, c1, c2⟩, fun j v hv => ?_, r2⟩
  have hj : j < 3 := (List.getElem?_eq_some_iff.1 hv).1
  match j, hj with
  | 0, _ => rw [← hv]; exact c0
  | 1, _ => rw [← hv]; exact c1
  | 2, _ => rw [← hv]; exact c2
set_option maxHeartbeats 4000000 in
theorem eqNds_same (a b : Option Addr) (n ca cb : Nat) (N : Nat → Nd) (w : World) (ha : Rd w (ndsD n N) (.slice a n ca)) (hb : Rd w (ndsD n N) (.slice b n cb)) (hn : n ≤ 1048576) (hs : ∀ i, i < n → NdS (N i)) :
    Calls Try.prog 41 #[.slice a n ca, .slice b n cb] w fun e w' => e = .returned (.bool true) ∧ Below w.heap.size w w' := by
  have KH : Hid (Rd w (ndsD n N) (.slice a n ca) ∧ Rd w (ndsD n N) (.slice b n cb)) := ⟨ha, hb⟩
  have HS : Hid (∀ i, i < n → NdS (N i)) := hs
  have hnn : ((n : Int) != (n : Int)) = false := by simp
  clear ha hb hs
  go_enter Try.func41, Try.ntmps41
  go_wp2
  go_loopw [5] (fun vi wr => ∃ c : Nat, c ≤ n ∧ vi = .int .i64 (c : Int) ∧ Below w.heap.size w wr) (fun vi _ => n - (intOf vi).toNat)
  case atStart => exact ⟨0, Nat.zero_le _, rfl, Below.refl _ _⟩
  case round =>
    obtain ⟨c, hcn, rfl, hbel⟩ := hrel
    by_cases hlt : c < n
    · have hki : (c : Int) < (n : Int) := by omega
      obtain ⟨b1, f1, an, cn, rfl, ⟨x0, x1, x2⟩, _, hr1⟩ := node_at (KH.out.1.below hbel) hlt
      obtain ⟨b2, f2, am, cm, rfl, ⟨y0, y1, y2⟩, _, hr2⟩ := node_at (KH.out.2.below hbel) hlt
      have hsc := HS.out c hlt
      have KT : Hid (∀ W, Below wr.heap.size wr W → Calls Try.prog 62 #[.agg #[.int .i64 (N c).i, .int .i64 (N c).f, .slice an (N c).n cn], .agg #[.int .i64 (N c).i, .int .i64 (N c).f, .slice am (N c).n cm]] W fun e w' => e = .returned (.bool true) ∧ Below W.heap.size W w') := fun W hW => eqNd_same (N c).i (N c).f an am (N c).n cn cm (N c).S W (hr1.below hW) (hr2.below hW) hsc.n hsc.s
      have KS : Hid (∀ W, Below wr.heap.size wr W → W.cell? ⟨b1, f1 + c * 3, none⟩ = some (.int .i64 (N c).i) ∧ W.cell? ⟨b1, f1 + c * 3 + 1, none⟩ = some (.int .i64 (N c).f) ∧ W.cell? ⟨b1, f1 + c * 3 + 2, none⟩ = some (.slice an (N c).n cn) ∧ W.cell? ⟨b2, f2 + c * 3, none⟩ = some (.int .i64 (N c).i) ∧ W.cell? ⟨b2, f2 + c * 3 + 1, none⟩ = some (.int .i64 (N c).f) ∧ W.cell? ⟨b2, f2 + c * 3 + 2, none⟩ = some (.slice am (N c).n cm)) := fun W hW => ⟨(hW.cell (block_lt_of_cell x0)).trans x0, (hW.cell (block_lt_of_cell x1)).trans x1, (hW.cell (block_lt_of_cell x2)).trans x2, (hW.cell (block_lt_of_cell y0)).trans y0, (hW.cell (block_lt_of_cell y1)).trans y1, (hW.cell (block_lt_of_cell y2)).trans y2⟩
      have KB : Hid (Below w.heap.size w wr) := hbel
      have hdr := below_drew wr
      clear hr1 hr2 hbel hsc x0 x1 x2 y0 y1 y2
      go_wp2_with fail
      go_region_held3 (fun w' => w'.cell? ⟨b1, f1 + c * 3, none⟩ = some (.int .i64 (N c).i) ∧ w'.cell? ⟨b1, f1 + c * 3 + 1, none⟩ = some (.int .i64 (N c).f) ∧ w'.cell? ⟨b1, f1 + c * 3 + 2, none⟩ = some (.slice an (N c).n cn) ∧ w'.cell? ⟨b2, f2 + c * 3, none⟩ = some (.int .i64 (N c).i) ∧ w'.cell? ⟨b2, f2 + c * 3 + 1, none⟩ = some (.int .i64 (N c).f) ∧ w'.cell? ⟨b2, f2 + c * 3 + 2, none⟩ = some (.slice am (N c).n cm)) (exact KS.out _ (by assumption)) ((go_at_call 62; refine Calls.mono (KT.out _ hdr) ?_; rintro e w7 ⟨rfl, b7'⟩; have b7 := below_of_drew b7'; clear b7'))
      all_goals
        have HB7 : Hid (Below w.heap.size w w7) := below2 KB.out b7
        clear b7
        go_wp2
        go_roundw
        case rel => exact ⟨c + 1, by omega, by go_num, HB7.out⟩
        case measure => simp [intOf]; omega
    · go_wp2
      go_ret
      exact ⟨rfl, hbel⟩
/-- The zero value of a node. -/
def ndN : Nd := ⟨0, 0, 0, fun _ => slZ⟩
def zcN : List Value := [.int .i64 0, .int .i64 0, .slice none 0 0]
theorem Try.infoNdZ2 : (Try.prog.info? 65).map (fun i => (i.zero, i.size, i.bytes)) = some (some (.agg zcN.toArray), 3, 40) := by kernel_rfl
theorem ow_ndZ (w : World) (B q : Nat) (hq : q < 3) : Ow w B (ndD ndN q) (zcN.getD q undef) (fun _ => False) := by
  match q, hq with
  | 0, _ | 1, _ => rfl
  | 2, _ => exact Ow.nil _ _ _ _ _ _
/-- The cells of a node whose slots are ours. -/
theorem ow_node {w : World} {B : Nat} {d : Nd} {v : Value} {F : Nat → Prop} (h : Ow w B (slsD d.n d.S) v F) (q : Nat) (hq : q < 3) : Ow w B (ndD d q) ([Value.int .i64 d.i, .int .i64 d.f, v].getD q undef) (fun x => q = 2 ∧ F x) := by
  match q, hq with
  | 0, _ | 1, _ => rfl
  | 2, _ => exact Ow.mono h fun g hg => ⟨rfl, hg⟩
end Go.Proofs.Ytggmcgcmpgofcaa
