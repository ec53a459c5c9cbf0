/- Lists of nodes: by plain values, read, counted, copied and compared. Conditions: lists of at most 2^20. Written by a program. -/
import Derived.Test.YtpomffkpjldloaaH28
import Derived.Test.YtpomffkpjldloaaH25
namespace Go.Proofs.Ytpomffkpjldloaa
set_option maxRecDepth 2000
open Go.ChangeShapes Go.WideShapes Go.ChangeAt Go.RowKit

/-- A node by plain values. -/
structure Nd where
  i : Int
  f : Int
  n : Nat
  S : Nat → Sl
def ndD (d : Nd) : Nat → Dt
  | 0 => .val (.int .i64 d.i)
  | 1 => .val (.int .i64 d.f)
  | _ => slsD d.n d.S
def ndsD (m : Nat) (N : Nat → Nd) : Dt := .lst 52 3 m fun i => ndD (N i)
structure NdS (d : Nd) : Prop where
  n : d.n ≤ 1048576
  s : ∀ i, i < d.n → SlS (d.S i)
theorem node_at {w : World} {m : Nat} {N : Nat → Nd} {a : Option Addr} {cap : Nat} (h : Rd w (ndsD m N) (.slice a m cap)) {c : Nat} (hc : c < m) :
    ∃ (b off : Nat) (an : Option Addr) (cn : Nat), a = some ⟨b, off, none⟩ ∧ (w.cell? ⟨b, off + c * 3, none⟩ = some (.int .i64 (N c).i) ∧ w.cell? ⟨b, off + c * 3 + 1, none⟩ = some (.int .i64 (N c).f) ∧ w.cell? ⟨b, off + c * 3 + 2, none⟩ = some (.slice an (N c).n cn)) ∧ w.rangeAt b (off + c * 3) [.int .i64 (N c).i, .int .i64 (N c).f, .slice an (N c).n cn] ∧ Rd w (slsD (N c).n (N c).S) (.slice an (N c).n cn) := by
  obtain ⟨b, off, y, ea, hy, hr⟩ := h.row hc
  have r2 : Rd w (slsD (N c).n (N c).S) (y 2) := hr 2 (by omega)
  obtain ⟨an, cn, e2⟩ := r2.shape
  rw [e2] at r2
  have g0 := hr 0 (by omega)
  have g1 := hr 1 (by omega)
  simp only [Rd, ndD] at g0 g1
  have c0 := hy 0 (by omega)
  have c1 := hy 1 (by omega)
  have c2 := hy 2 (by omega)
  rw [g0, ← Nat.add_assoc] at c0
  rw [g1, ← Nat.add_assoc] at c1
  rw [e2, ← Nat.add_assoc] at c2
  refine ⟨b, off, an, cn, ea, ⟨c0, c1, c2⟩, fun j v hv => ?_, r2⟩
  have hj : j < 3 := (List.getElem?_eq_some_iff.1 hv).1
  match j, hj with
  | 0, _ => rw [← hv]; exact c0
  | 1, _ => rw [← hv]; exact c1
  | 2, _ => rw [← hv]; exact c2
set_option maxHeartbeats 4000000 in
theorem eqNds_same (a b : Option Addr) (n ca cb : Nat) (N : Nat → Nd) (w : World) (ha : Rd w (ndsD n N) (.slice a n ca)) (hb : Rd w (ndsD n N) (.slice b n cb)) (hn : n ≤ 1048576) (hs : ∀ i, i < n → NdS (N i)) :
    Calls Try.prog 31 #[.slice a n ca, .slice b n cb] w fun e w' => e = .returned (.bool true) ∧ Below w.heap.size w w' := by
  have KH : Hid (Rd w (ndsD n N) (.slice a n ca) ∧ Rd w (ndsD n N) (.slice b n cb)) := ⟨ha, hb⟩
  have HS : Hid (∀ i, i < n → NdS (N i)) := hs
  have hnn : ((n : Int) != (n : Int)) = false := by simp
  clear ha hb hs
  go_enter Try.func31, Try.ntmps31
  go_wp2
  go_loopw [5] (fun vi wr => ∃ c : Nat, c ≤ n ∧ vi = .int .i64 (c : Int) ∧ Below w.heap.size w wr) (fun vi _ => n - (intOf vi).toNat)
  case atStart => exact ⟨0, Nat.zero_le _, rfl, Below.refl _ _⟩
  case round =>
    obtain ⟨c, hcn, rfl, hbel⟩ := hrel
    by_cases hlt : c < n
    · have hki : (c : Int) < (n : Int) := by omega
      obtain ⟨b1, f1, an, cn, rfl, ⟨x0, x1, x2⟩, _, hr1⟩ := node_at (KH.out.1.below hbel) hlt
      obtain ⟨b2, f2, am, cm, rfl, ⟨y0, y1, y2⟩, _, hr2⟩ := node_at (KH.out.2.below hbel) hlt
      have hsc := HS.out c hlt
      have KT : Hid (∀ W, Below wr.heap.size wr W → Calls Try.prog 43 #[.agg #[.int .i64 (N c).i, .int .i64 (N c).f, .slice an (N c).n cn], .agg #[.int .i64 (N c).i, .int .i64 (N c).f, .slice am (N c).n cm]] W fun e w' => e = .returned (.bool true) ∧ Below W.heap.size W w') := fun W hW => eqNd_same (N c).i (N c).f an am (N c).n cn cm (N c).S W (hr1.below hW) (hr2.below hW) hsc.n hsc.s
      have KS : Hid (∀ W, Below wr.heap.size wr W → W.cell? ⟨b1, f1 + c * 3, none⟩ = some (.int .i64 (N c).i) ∧ W.cell? ⟨b1, f1 + c * 3 + 1, none⟩ = some (.int .i64 (N c).f) ∧ W.cell? ⟨b1, f1 + c * 3 + 2, none⟩ = some (.slice an (N c).n cn) ∧ W.cell? ⟨b2, f2 + c * 3, none⟩ = some (.int .i64 (N c).i) ∧ W.cell? ⟨b2, f2 + c * 3 + 1, none⟩ = some (.int .i64 (N c).f) ∧ W.cell? ⟨b2, f2 + c * 3 + 2, none⟩ = some (.slice am (N c).n cm)) := fun W hW => ⟨(hW.cell (block_lt_of_cell x0)).trans x0, (hW.cell (block_lt_of_cell x1)).trans x1, (hW.cell (block_lt_of_cell x2)).trans x2, (hW.cell (block_lt_of_cell y0)).trans y0, (hW.cell (block_lt_of_cell y1)).trans y1, (hW.cell (block_lt_of_cell y2)).trans y2⟩
      have KB : Hid (Below w.heap.size w wr) := hbel
      have hdr := below_drew wr
      clear hr1 hr2 hbel hsc x0 x1 x2 y0 y1 y2
      go_wp2_with fail
      go_region_held3 (fun w' => w'.cell? ⟨b1, f1 + c * 3, none⟩ = some (.int .i64 (N c).i) ∧ w'.cell? ⟨b1, f1 + c * 3 + 1, none⟩ = some (.int .i64 (N c).f) ∧ w'.cell? ⟨b1, f1 + c * 3 + 2, none⟩ = some (.slice an (N c).n cn) ∧ w'.cell? ⟨b2, f2 + c * 3, none⟩ = some (.int .i64 (N c).i) ∧ w'.cell? ⟨b2, f2 + c * 3 + 1, none⟩ = some (.int .i64 (N c).f) ∧ w'.cell? ⟨b2, f2 + c * 3 + 2, none⟩ = some (.slice am (N c).n cm)) (exact KS.out _ (by assumption)) ((go_at_call 43; refine Calls.mono (KT.out _ hdr) ?_; rintro e w7 ⟨rfl, b7'⟩; have b7 := below_of_drew b7'; clear b7'))
      all_goals
        have HB7 : Hid (Below w.heap.size w w7) := below2 KB.out b7
        clear b7
        go_wp2
        go_roundw
        case rel => exact ⟨c + 1, by omega, by go_num, HB7.out⟩
        case measure => simp [intOf]; omega
    · go_wp2
      go_ret
      exact ⟨rfl, hbel⟩
/-- The zero value of a node. -/
def ndN : Nd := ⟨0, 0, 0, fun _ => slZ⟩
def zcN : List Value := [.int .i64 0, .int .i64 0, .slice none 0 0]
theorem Try.infoNdZ2 : (Try.prog.info? 52).map (fun i => (i.zero, i.size, i.bytes)) = some (some (.agg zcN.toArray), 3, 40) := by kernel_rfl
theorem ow_ndZ (w : World) (B q : Nat) (hq : q < 3) : Ow w B (ndD ndN q) (zcN.getD q undef) (fun _ => False) := by
  match q, hq with
  | 0, _ | 1, _ => rfl
  | 2, _ => exact Ow.nil _ _ _ _ _ _
/-- The cells of a node whose slots are ours. -/
theorem ow_node {w : World} {B : Nat} {d : Nd} {v : Value} {F : Nat → Prop} (h : Ow w B (slsD d.n d.S) v F) (q : Nat) (hq : q < 3) : Ow w B (ndD d q) ([Value.int .i64 d.i, .int .i64 d.f, v].getD q undef) (fun x => q = 2 ∧ F x) := by
  match q, hq with
  | 0, _ | 1, _ => rfl
  | 2, _ => exact Ow.mono h fun g hg => ⟨rfl, hg⟩
end Go.Proofs.Ytpomffkpjldloaa
/- Lists of sayings: counted and copied. Conditions: lists of at most 2^20. Written by a program. -/
namespace Go.Proofs.Ytpomffkpjldloaa
set_option maxRecDepth 2000
open Go.ChangeShapes Go.WideShapes Go.ChangeAt Go.RowKit

end Go.Proofs.Ytpomffkpjldloaa
/- Nets: opened, counted, copied and compared. Conditions: lists of at most 2^20. Written by a program. -/
namespace Go.Proofs.Ytpomffkpjldloaa
set_option maxRecDepth 2000
open Go.ChangeShapes Go.WideShapes Go.ChangeAt Go.RowKit

abbrev ntV (f : Int) (v1 v2 v3 : Value) : Value := .agg #[.int .i64 f, v1, v2, v3]
section
variable {H : Type} {enc : TypeId × Value → H} {w : World} {base : Nat} {spare : Nat → Bool} {held : Bool}
end
set_option maxHeartbeats 2000000 in
theorem eqNt_same (f : Int) (a b : Option Addr) (n ca cb : Nat) (l k : Option Addr) (zs : List Int) (cl ck : Nat) (e q : Option Addr) (m ce cq : Nat) (N : Nat → Nd) (Y : Nat → Sy) (w : World) (h1 : Rd w (ndsD n N) (.slice a n ca)) (h2 : Rd w (ndsD n N) (.slice b n cb)) (h3 : IntsAt w l zs.length zs) (h4 : IntsAt w k zs.length zs) (h5 : Rd w (sysD m Y) (.slice e m ce)) (h6 : Rd w (sysD m Y) (.slice q m cq)) (hn : n ≤ 1048576) (hN : ∀ i, i < n → NdS (N i)) (hz : zs.length ≤ 1048576) (hm : m ≤ 1048576) (hY : ∀ i, i < m → (Y i).p.m ≤ 1048576) :
    Calls Try.prog 14 #[ntV f (.slice a n ca) (.slice l zs.length cl) (.slice e m ce), ntV f (.slice b n cb) (.slice k zs.length ck) (.slice q m cq)] w fun e w' => e = .returned (.bool true) ∧ Below w.heap.size w w' := by
  obtain ⟨A, HA⟩ : ∃ x, Hid (x = w.heap.size) := ⟨_, rfl⟩
  obtain ⟨D, HD⟩ : ∃ x, Hid (x = w.heap.size + 1) := ⟨_, rfl⟩
  obtain ⟨w0, HW0⟩ : ∃ x, Hid (x = (w.alloc (.cells #[.int .i64 f, .slice a n ca, .slice l zs.length cl, .slice e m ce] 26)).alloc (.cells #[.int .i64 f, .slice b n cb, .slice k zs.length ck, .slice q m cq] 26)) := ⟨_, rfl⟩
  have RA : Hid (Row w0 A 26 #[.int .i64 f, .slice a n ca, .slice l zs.length cl, .slice e m ce]) := by show Row _ _ _ _; rw [HW0.out, HA.out]; exact Row.alloc (Row.new w _ _) _
  have RD : Hid (Row w0 D 26 #[.int .i64 f, .slice b n cb, .slice k zs.length ck, .slice q m cq]) := by
    show Row _ _ _ _
    rw [HW0.out, HD.out]
    have := Row.new (w.alloc (.cells #[.int .i64 f, .slice a n ca, .slice l zs.length cl, .slice e m ce] 26)) #[.int .i64 f, .slice b n cb, .slice k zs.length ck, .slice q m cq] 26
    simpa using this
  have hb0 : Below w.heap.size w w0 := by rw [HW0.out]; exact ((Below.refl _ _).alloc (Nat.le_refl _) _).alloc (by simp) _
  have KB0 : Hid (Below w.heap.size w w0) := hb0
  have K1 : Hid _ := eqNds_same a b n ca cb N w0 (h1.below hb0) (h2.below hb0) hn hN
  have K2 : Hid (∀ W, Below w0.heap.size w0 W → Calls Try.prog 8 #[.slice l zs.length cl, .slice k zs.length ck] W _) := fun W hW => eqIntS_same l k zs.length cl ck zs W ((h3.below hb0).below hW) ((h4.below hb0).below hW) hz
  have K3 : Hid (∀ W, Below w0.heap.size w0 W → Calls Try.prog 32 #[.slice e m ce, .slice q m cq] W _) := fun W hW => eqSys_same e q m ce cq Y W ((h5.below hb0).below hW) ((h6.below hb0).below hW) hm hY
  have hff : (f != f) = false := by simp
  clear h1 h2 h3 h4 h5 h6 hb0 hN hY
  go_enter Try.func14, Try.ntmps14
  go_wp2_with fail
  rw [← HW0.out, ← HD.out, ← HA.out]
  refine Calls.mono K1.out ?_
  rintro e' w1 ⟨rfl, b1⟩
  have R1 := RA.out.below b1 RA.out.lt
  have S1 := RD.out.below b1 RD.out.lt
  have x2 := R1.cell 2
  have x3 := R1.cell 3
  have y2 := S1.cell 2
  have y3 := S1.cell 3
  simp at x2 x3 y2 y3
  have KB1 : Hid (Below w0.heap.size w0 w1) := b1
  clear b1 R1 S1
  go_wp2_with fail
  refine Calls.mono (K2.out _ KB1.out) ?_
  rintro e' w2 ⟨rfl, b2⟩
  replace x3 := (b2.cell (p := ⟨A, 3, none⟩) (block_lt_of_cell x3)).trans x3
  replace y3 := (b2.cell (p := ⟨D, 3, none⟩) (block_lt_of_cell y3)).trans y3
  have KB2 : Hid (Below w0.heap.size w0 w2) := below2 KB1.out b2
  clear b2 x2 y2 KB1
  go_wp2_with fail
  refine Calls.mono (K3.out _ KB2.out) ?_
  rintro e' w3 ⟨rfl, b3⟩
  go_wp2
  go_ret
  exact ⟨rfl, below2 KB0.out (below2 KB2.out b3)⟩
theorem Ow.apart {w : World} {B : Nat} {d : Dt} {v : Value} {F : Nat → Prop} (h : Ow w B d v F) {g : Nat} (o : Nat) (x : Value) (hn : ¬ F g) : Ow (w.setCell ⟨g, o, none⟩ x) B d v F :=
  h.turned (Trn.set w o x (F := fun y => y = g) rfl) (fun _ hy e => hn (e ▸ hy))
theorem Try.infoNt : (Try.prog.info? 26).map (·.size) = some 4 := by kernel_rfl
end Go.Proofs.Ytpomffkpjldloaa
