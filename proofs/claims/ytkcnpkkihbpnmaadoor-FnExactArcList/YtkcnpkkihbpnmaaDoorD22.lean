/- Lists of structs that are handed in, read as the form reads them; slots and nodes. No condition. -/
import Derived.Test.YtkcnpkkihbpnmaaDoorD20
import Derived.Test.YtkcnpkkihbpnmaaDoorD15
import Derived.Test.YtkcnpkkihbpnmaaDoorRows
import Derived.Deep.Slices
namespace Go.Proofs.YtkcnpkkihbpnmaaDoor
set_option maxRecDepth 2000
open Go.ChangeShapes Go.WideShapes Go.ChangeAt Go.RowKit

theorem open_list {H : Type} {enc : TypeId × Value → H} {w : World} {base : Nat} {spare : Nat → Bool} {held : Bool} {α : Type} (z : α) {T e sz : Nat} (t' : Nat) (D : α → Nat → Dt) (Bd : α → Prop) (hu : Tryd.prog.underlying T = some (.slice e)) (hc : Tryd.prog.cellsOf e = sz) (hpos : 0 < sz)
    (each : ∀ {fuel : Nat} {cs : List Value} {x : DataW H × List MemPlace}, DataW.trod enc Tryd.prog w base spare held fuel e cs = some x → ∃ y : α, cs.length = sz ∧ (∀ q, q < sz → Rd w (D y q) (cs.getD q undef)) ∧ Bd y)
    {fuel : Nat} {a : Option Addr} {n c : Nat} {x : DataW H × List MemPlace} (h : DataW.trod enc Tryd.prog w base spare held fuel T [.slice a n c] = some x) :
    ∃ P : Nat → α, Rd w (.lst t' sz n fun i => D (P i)) (.slice a n c) ∧ n ≤ maxLen ∧ ∀ i, i < n → Bd (P i) := by
  rcases Go.Deep.open_slice hu h with ⟨hcs, _⟩ | ⟨ad, len, cap, m, n', D', Pl, hcs, hb, hl, hm, hmm, _, hx⟩
  · simp at hcs
    obtain ⟨rfl, rfl, rfl⟩ := hcs
    exact ⟨fun _ => z, Rd.nil _ _ _ _ _ _, Nat.zero_le _, fun i hi => absurd hi (Nat.not_lt_zero _)⟩
  · simp at hcs
    obtain ⟨rfl, rfl, rfl⟩ := hcs
    rw [hc] at hx
    have hnm : n ≤ m := by rw [hmm]; split <;> omega
    obtain ⟨b, off, spot⟩ := ad
    have ea : ∀ (b off i : Nat), (⟨b, off, none⟩ : Addr).add i = ⟨b, off + i, none⟩ := fun b off i => by unfold Addr.add; split <;> simp_all
    have each' : ∀ i, ∃ p : α, i < n → spot = none ∧ (∀ q, q < sz → ∃ y, w.cell? ⟨b, off + (i * sz + q), none⟩ = some y ∧ Rd w (D p q) y) ∧ Bd p := fun i => by
      by_cases hi : i < n
      · obtain ⟨cs', h1, h2⟩ := hx i (by omega)
        obtain ⟨p, hlen', hrd, hbd⟩ := each h2
        obtain ⟨_, hlen, hcell⟩ := World.cells?_some h1
        have hspot : spot = none := by
          obtain ⟨cs0, g1, g2⟩ := hx 0 (by omega)
          obtain ⟨_, hlen0, hcell0⟩ := World.cells?_some g1
          have h0 := hcell0 0 hpos
          obtain ⟨v0, hv0⟩ : ∃ v, cs0[0]? = some v := ⟨cs0[0], List.getElem?_eq_getElem (by omega)⟩
          rw [hv0] at h0
          simpa [Addr.add] using World.cell?_spot h0
        subst hspot
        refine ⟨p, fun _ => ⟨rfl, fun q hq => ⟨cs'.getD q undef, ?_, hrd q hq⟩, hbd⟩⟩
        have h3 := hcell q hq
        rw [ea, ea] at h3
        rw [← Nat.add_assoc, h3, List.getD_eq_getElem?_getD, List.getElem?_eq_getElem (by omega)]
        rfl
      · exact ⟨z, fun h => absurd h hi⟩
    obtain ⟨P, hP⟩ := Classical.axiomOfChoice each'
    refine ⟨P, ⟨_, _, rfl, fun i hi => ?_⟩, by omega, fun i hi => (hP i hi).2.2⟩
    obtain ⟨hs, h1, _⟩ := hP i hi
    subst hs
    exact ⟨b, off, rfl, h1⟩
theorem open_ints_at {H : Type} {enc : TypeId × Value → H} {w : World} {base : Nat} {spare : Nat → Bool} {held : Bool} {fuel : Nat} {v : Value} {x : DataW H × List MemPlace} (h : DataW.trod enc Tryd.prog w base spare held fuel 23 [v] = some x) :
    ∃ (a : Option Addr) (zs : List Int) (c : Nat), v = .slice a zs.length c ∧ IntsAt w a zs.length zs ∧ zs.length ≤ maxLen := by
  rcases open_ints Tryd.underlying23 Tryd.underlying3 (by kernel_rfl) h with ⟨hcs, _⟩ | ⟨ad, l, c, zs, hcs, _, hl, hm, hz, _, hcell, hwz⟩
  · simp at hcs
    subst hcs
    exact ⟨none, [], 0, rfl, ⟨rfl, fun i hi => absurd hi (Nat.not_lt_zero _)⟩, Nat.zero_le _⟩
  · simp at hcs
    subst hcs
    have hR : IsRow .i64 w (some ad) l zs.length zs := .inr ⟨_, rfl, by rw [hz]; split <;> omega, by rw [hz]; split <;> omega, rfl, hcell, hwz⟩
    obtain ⟨_, hi, _⟩ := hR.ints
    have e : (zs.take l).length = l := hi.1
    refine ⟨some ad, zs.take l, c, by rw [e], ?_, by rw [e]; omega⟩
    rw [e]
    exact hi
theorem list13 {α : Type} (l : List α) (h : l.length = 13) : ∃ c0 c1 c2 c3 c4 c5 c6 c7 c8 c9 c10 c11 c12, l = [c0, c1, c2, c3, c4, c5, c6, c7, c8, c9, c10, c11, c12] := by
  match l, h with
  | [c0, c1, c2, c3, c4, c5, c6, c7, c8, c9, c10, c11, c12], _ => exact ⟨c0, c1, c2, c3, c4, c5, c6, c7, c8, c9, c10, c11, c12, rfl⟩
theorem list8 {α : Type} (l : List α) (h : l.length = 8) : ∃ c0 c1 c2 c3 c4 c5 c6 c7, l = [c0, c1, c2, c3, c4, c5, c6, c7] := by
  match l, h with
  | [c0, c1, c2, c3, c4, c5, c6, c7], _ => exact ⟨c0, c1, c2, c3, c4, c5, c6, c7, rfl⟩
theorem list3 {α : Type} (l : List α) (h : l.length = 3) : ∃ c0 c1 c2, l = [c0, c1, c2] := by
  match l, h with
  | [c0, c1, c2], _ => exact ⟨c0, c1, c2, rfl⟩
theorem open_slot {H : Type} {enc : TypeId × Value → H} {w : World} {base : Nat} {spare : Nat → Bool} {held : Bool} {fuel : Nat} {cs : List Value} {x : DataW H × List MemPlace} (h : DataW.trod enc Tryd.prog w base spare held fuel 123 cs = some x) :
    ∃ s : Sl, cs.length = 13 ∧ (∀ q, q < 13 → Rd w (slD s q) (cs.getD q undef)) ∧ SlB s := by
  have c13 : Tryd.prog.cellsOf 123 = 13 := by kernel_rfl
  have cp6 : Tryd.prog.cellsOf 93 = 6 := by kernel_rfl
  have cs1 : Tryd.prog.cellsOf 9 = 1 := by kernel_rfl
  have cb1 : Tryd.prog.cellsOf 4 = 1 := by kernel_rfl
  have cl1 : Tryd.prog.cellsOf 23 = 1 := by kernel_rfl
  obtain ⟨xs, f, _, _, hl, hlen, hf⟩ := DataW.trod_struct Tryd.underlying123 h
  rw [c13] at hl
  obtain ⟨c0, c1, c2, c3, c4, c5, c6, c7, c8, c9, c10, c11, c12, rfl⟩ := list13 cs hl
  obtain ⟨y0, y1, y2, y3, y4, y5, y6, y7, rfl⟩ := list8 xs hlen
  have g0 := hf 0 _ rfl
  have g1 := hf 1 _ rfl
  have g2 := hf 2 _ rfl
  have g3 := hf 3 _ rfl
  have g4 := hf 4 _ rfl
  have g5 := hf 5 _ rfl
  have g6 := hf 6 _ rfl
  have g7 := hf 7 _ rfl
  simp [cs1, cp6, cb1, cl1] at g0 g1 g2 g3 g4 g5 g6 g7
  obtain ⟨r, e0, _, hr⟩ := DataW.trod_string Tryd.underlying9 g0
  obtain ⟨pr, pk, pn, pi, pb, pa, pm, pc, pS, e1, _, hpr, hpb, ht⟩ := open_piece g1
  obtain ⟨bh, e2, _⟩ := DataW.trod_bool Tryd.underlying4 g2
  obtain ⟨be, e3, _⟩ := DataW.trod_bool Tryd.underlying4 g3
  obtain ⟨bd, e4, _⟩ := DataW.trod_bool Tryd.underlying4 g4
  obtain ⟨bo, e5, _⟩ := DataW.trod_bool Tryd.underlying4 g5
  obtain ⟨a1, ze, z1, e6, i1, n1⟩ := open_ints_at g6
  obtain ⟨a2, zr, z2, e7, i2, n2⟩ := open_ints_at g7
  simp at e0 e1 e2 e3 e4 e5
  obtain ⟨rfl, rfl, rfl, rfl, rfl, rfl⟩ := e1
  subst e0 e2 e3 e4 e5 e6 e7
  refine ⟨⟨r, ⟨pr, pk, pn, pi, pb, pm, pS⟩, bh, be, bd, bo, ze, zr⟩, rfl, fun q hq => ?_, ⟨hr, hpr, hpb, ht.2.1, ht.2.2, n1, n2⟩⟩
  match q, hq with
  | 0, _ | 1, _ | 2, _ | 3, _ | 4, _ | 5, _ | 7, _ | 8, _ | 9, _ | 10, _ => rfl
  | 6, _ => exact rd_txt.2 ht.1
  | 11, _ => exact rd_ints.2 i1
  | 12, _ => exact rd_ints.2 i2
theorem open_slots {H : Type} {enc : TypeId × Value → H} {w : World} {base : Nat} {spare : Nat → Bool} {held : Bool} {fuel : Nat} {a : Option Addr} {n c : Nat} {x : DataW H × List MemPlace} (h : DataW.trod enc Tryd.prog w base spare held fuel 87 [.slice a n c] = some x) :
    ∃ S : Nat → Sl, Rd w (slsD n S) (.slice a n c) ∧ n ≤ maxLen ∧ ∀ i, i < n → SlB (S i) :=
  open_list ⟨ByteArray.empty, ⟨ByteArray.empty, 0, 0, 0, ByteArray.empty, 0, fun _ => ByteArray.empty⟩, false, false, false, false, [], []⟩ 126 slD SlB Tryd.underlying87 (by kernel_rfl) (by omega) open_slot h
theorem open_node {H : Type} {enc : TypeId × Value → H} {w : World} {base : Nat} {spare : Nat → Bool} {held : Bool} {fuel : Nat} {cs : List Value} {x : DataW H × List MemPlace} (h : DataW.trod enc Tryd.prog w base spare held fuel 89 cs = some x) :
    ∃ (id f : Int) (a : Option Addr) (n c : Nat) (S : Nat → Sl), cs = [.int .i64 id, .int .i64 f, .slice a n c] ∧ Rd w (slsD n S) (.slice a n c) ∧ n ≤ maxLen ∧ ∀ i, i < n → SlB (S i) := by
  have c3 : Tryd.prog.cellsOf 89 = 3 := by kernel_rfl
  have ci1 : Tryd.prog.cellsOf 3 = 1 := by kernel_rfl
  have cl1 : Tryd.prog.cellsOf 87 = 1 := by kernel_rfl
  obtain ⟨xs, f, _, _, hl, hlen, hf⟩ := DataW.trod_struct Tryd.underlying89 h
  rw [c3] at hl
  obtain ⟨c0, c1, c2, rfl⟩ := list3 cs hl
  obtain ⟨y0, y1, y2, rfl⟩ := list3 xs hlen
  have g0 := hf 0 _ rfl
  have g1 := hf 1 _ rfl
  have g2 := hf 2 _ rfl
  simp [ci1, cl1] at g0 g1 g2
  obtain ⟨id, e0, _, u0⟩ := DataW.trod_int Tryd.underlying3 g0
  obtain ⟨ff, e1, _, u1⟩ := DataW.trod_int Tryd.underlying3 g1
  simp at e0 e1
  subst e0 e1
  obtain ⟨a, n, c, rfl⟩ : ∃ a n c, c2 = .slice a n c := by
    rcases Go.Deep.open_slice Tryd.underlying87 g2 with ⟨hcs, _⟩ | ⟨ad, len, cap, m, n', D', Pl, hcs, _⟩
    · simp at hcs
      exact ⟨none, 0, 0, hcs⟩
    · simp at hcs
      exact ⟨some ad, len, cap, hcs⟩
  obtain ⟨S, h1, h2, h3⟩ := open_slots g2
  exact ⟨id, ff, a, n, c, S, rfl, h1, h2, h3⟩
end Go.Proofs.YtkcnpkkihbpnmaaDoor
