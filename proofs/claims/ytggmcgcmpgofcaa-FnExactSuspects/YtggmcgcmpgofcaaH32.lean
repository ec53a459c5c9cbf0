/- What the exact laws count of slots and nodes. Conditions: what each says. -/
import Derived.Test.YtggmcgcmpgofcaaH31
import Derived.Test.YtggmcgcmpgofcaaH18
import Derived.Test.YtggmcgcmpgofcaaRows
import Derived.Deep.Slices
import Derived.Test.YtggmcgcmpgofcaaH22
import Derived.Test.YtggmcgcmpgofcaaH24
namespace Go.Proofs.Ytggmcgcmpgofcaa
set_option maxRecDepth 2000
open Go.ChangeShapes Go.WideShapes Go.ChangeAt Go.RowKit

/-- What is left of l behind a weight, or -1. -/
def szN (l x : Nat) : Int := if x ≤ l then ((l - x : Nat) : Int) else -1
theorem szN_yes {l x : Nat} (h : x ≤ l) : szN l x = ((l - x : Nat) : Int) := if_pos h
theorem szN_no {l x : Nat} (h : ¬ x ≤ l) : szN l x = -1 := if_neg h
/-- What the form tells of a slot that came in. -/
structure SlI (w : World) (s : Sl) (a6 : Option Addr) : Prop where
  r : s.r.size ≤ maxLen
  pr : s.p.r.size ≤ maxLen
  pb : s.p.b.size ≤ maxLen
  tx : IsTxt w a6 s.p.m s.p.S
  ne : s.ze.length ≤ maxLen
  nr : s.zr.length ≤ maxLen
/-- The same without its memory. -/
structure SlB (s : Sl) : Prop where
  r : s.r.size ≤ maxLen
  pr : s.p.r.size ≤ maxLen
  pb : s.p.b.size ≤ maxLen
  m : s.p.m ≤ maxLen
  tx : ∀ i, i < s.p.m → (s.p.S i).size ≤ maxLen
  ne : s.ze.length ≤ maxLen
  nr : s.zr.length ≤ maxLen
theorem SlB.i {s : Sl} (h : SlB s) {w : World} {a6 : Option Addr} (ht : TxtAt w a6 s.p.m s.p.S) : SlI w s a6 := ⟨h.r, h.pr, h.pb, ⟨ht, h.m, h.tx⟩, h.ne, h.nr⟩
end Go.Proofs.Ytggmcgcmpgofcaa
/- Lists of structs that are handed in, read as the form reads them; slots and nodes. No condition. -/
namespace Go.Proofs.Ytggmcgcmpgofcaa
set_option maxRecDepth 2000
open Go.ChangeShapes Go.WideShapes Go.ChangeAt Go.RowKit

theorem open_list {H : Type} {enc : TypeId × Value → H} {w : World} {base : Nat} {spare : Nat → Bool} {held : Bool} {α : Type} (z : α) {T e sz : Nat} (t' : Nat) (D : α → Nat → Dt) (Bd : α → Prop) (hu : Try.prog.underlying T = some (.slice e)) (hc : Try.prog.cellsOf e = sz) (hpos : 0 < sz)
    (each : ∀ {fuel : Nat} {cs : List Value} {x : DataW H × List MemPlace}, DataW.trod enc Try.prog w base spare held fuel e cs = some x → ∃ y : α, cs.length = sz ∧ (∀ q, q < sz → Rd w (D y q) (cs.getD q undef)) ∧ Bd y)
    {fuel : Nat} {a : Option Addr} {n c : Nat} {x : DataW H × List MemPlace} (h : DataW.trod enc Try.prog w base spare held fuel T [.slice a n c] = some x) :
    ∃ P : Nat → α, Rd w (.lst t' sz n fun i => D (P i)) (.slice a n c) ∧ n ≤ maxLen ∧ ∀ i, i < n → Bd (P i) := by
  rcases Go.Deep.open_slice hu h with ⟨hcs, _⟩ | ⟨ad, len, cap, m, n', D', Pl, hcs, hb, hl, hm, hmm, _, hx⟩
  · simp at hcs
    obtain ⟨rfl, rfl, rfl⟩ := hcs
    exact ⟨fun _ => z, Rd.nil _ _ _ _ _ _, Nat.zero_le _, fun i hi => absurd hi (Nat.not_lt_zero _)⟩
  · simp at hcs
    obtain ⟨rfl, rfl, rfl⟩ := hcs
    rw [hc] at hx
    have hnm : n ≤ m := by rw [hmm]; split <;> omega
    obtain ⟨b, off, spot⟩ := ad
    have ea : ∀ (b off i : Nat), (⟨b, off, none⟩ : Addr).add i = ⟨b, off + i, none⟩ := fun b off i => by unfold Addr.add; split <;> simp_all
    have each' : ∀ i, ∃ p : α, i < n → spot = none ∧ (∀ q, q < sz → ∃ y, w.cell? ⟨b, off + (i * sz + q), none⟩ = some y ∧ Rd w (D p q) y) ∧ Bd p := fun i => by
      by_cases hi : i < n
      · obtain ⟨cs', h1, h2⟩ := hx i (by omega)
        obtain ⟨p, hlen', hrd, hbd⟩ := each h2
        obtain ⟨_, hlen, hcell⟩ := World.cells?_some h1
        have hspot : spot = none := by
          obtain ⟨cs0, g1, g2⟩ := hx 0 (by omega)
          obtain ⟨_, hlen0, hcell0⟩ := World.cells?_some g1
          have h0 := hcell0 0 hpos
          obtain ⟨v0, hv0⟩ : ∃ v, cs0[0]? = some v := ⟨cs0[0], List.getElem?_eq_getElem (by omega)⟩
          rw [hv0] at h0
          simpa [Addr.add] using World.cell?_spot h0
        subst hspot
        refine ⟨p, fun _ => ⟨rfl, fun q hq => ⟨cs'.getD q undef, ?_, hrd q hq⟩, hbd⟩⟩
        have h3 := hcell q hq
        rw [ea, ea] at h3
        rw [← Nat.add_assoc, h3, List.getD_eq_getElem?_getD, List.getElem?_eq_getElem (by omega)]
        rfl
      · exact ⟨z, fun h => absurd h hi⟩
    obtain ⟨P, hP⟩ := Classical.axiomOfChoice each'
    refine ⟨P, ⟨_, _, rfl, fun i hi => ?_⟩, by omega, fun i hi => (hP i hi).2.2⟩
    obtain ⟨hs, h1, _⟩ := hP i hi
    subst hs
    exact ⟨b, off, rfl, h1⟩
end Go.Proofs.Ytggmcgcmpgofcaa
/- Slots, lists of slots and nodes, copied by the exact laws: the copies lie in new memory. Conditions: no list is longer than 2^20. Written by mknto.py. -/
namespace Go.Proofs.Ytggmcgcmpgofcaa
set_option maxRecDepth 2000
open Go.ChangeShapes Go.WideShapes Go.ChangeAt Go.RowKit

theorem World.size_setCells (b : Nat) : ∀ (vs : List Value) (o : Nat) (w : World), (w.setCells b o vs).heap.size = w.heap.size
  | [], _, _ => rfl
  | v :: r, o, w => by rw [World.setCells, World.size_setCells b r (o + 1) _]; simp
end Go.Proofs.Ytggmcgcmpgofcaa
/- Marks over lists of numbers and texts, with wide bounds. Conditions: lists of at most 2^20. -/
namespace Go.Proofs.Ytggmcgcmpgofcaa
set_option maxRecDepth 2000
open Go.ChangeShapes Go.WideShapes Go.ChangeAt Go.RowKit

end Go.Proofs.Ytggmcgcmpgofcaa
