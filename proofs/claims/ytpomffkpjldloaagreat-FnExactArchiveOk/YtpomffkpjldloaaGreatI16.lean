/- Matrices in memory, the second part: a row that has grown is put in its place again. Lemmas alone; conditions stand at each. -/
import Derived.Test.YtpomffkpjldloaaGreatI13
import Derived.Test.YtpomffkpjldloaaGreatI8
import Derived.Lib.BufferWrite
import Derived.Laws.CopyOwn
import Derived.Test.YtpomffkpjldloaaGreatI6
namespace Go.Proofs.YtpomffkpjldloaaGreat
set_option maxRecDepth 2000
open Go.ChangeShapes Go.WideShapes Go.ChangeAt Go.RowKit
section
variable {k : IntKind} {T TT : Nat} {w w' : World} {B E : Nat} {n cap : Nat} {A : Nat → Option Addr} {L C : Nat → Nat} {Z : Nat → Nat → Int}
theorem MatZ.grew (hT : T ≠ TT) {G g0 g i l c E' : Nat} {z : Nat → Int} (h : MatZ k T TT w B E (some ⟨G, 0, none⟩) n cap A L C Z) (hi : i < n) (hA : A i = some ⟨g0, 0, none⟩) (hg : w.grownBy w' (some g0))
    (hrow : w'.ownsRow B T 1 (.slice (some ⟨g, 0, none⟩) l c) l ((zI z l).map (Value.int k))) (hat : g = g0 ∨ w.heap.size ≤ g) (hE : E ≤ E') (hE' : g < E') :
    w'.cell? ⟨G, i, none⟩ = some (.slice (A i) (L i) (C i)) ∧ w'.frozen? ⟨G, i, none⟩ = false ∧
    MatZ k T TT (w'.setCell ⟨G, i, none⟩ (.slice (some ⟨g, 0, none⟩) l c)) B E' (some ⟨G, 0, none⟩) n cap (fun j => if j = i then some ⟨g, 0, none⟩ else A j) (fun j => if j = i then l else L j) (fun j => if j = i then c else C j) (fun j => if j = i then z else Z j) ∧ w'.grownBy (w'.setCell ⟨G, i, none⟩ (.slice (some ⟨g, 0, none⟩) l c)) (some G) := by
  have hgs := grown_set w' G i (.slice (some ⟨g, 0, none⟩) l c)
  have ho := own_kept h.out hg (fun x e => by cases e; exact (h.off hT hi hA).symm)
  have hgG : g ≠ G := by
    intro e
    subst e
    rcases own_shape hrow with ⟨h', _⟩ | ⟨g1, c1, e1, _, hg1, _⟩
    · cases h'
    · rcases own_shape ho with ⟨h', _⟩ | ⟨g2, c2, e2, _, hg2, _⟩
      · cases h'
      · cases e1
        cases e2
        rw [hg1] at hg2
        cases hg2
        exact hT rfl
  refine ⟨?_, ho.frozenAt i, ⟨?_, fun x e => ?_, fun p hp => ?_, fun p hp x ex => ?_, fun p q hp hq hpq x y ex ey => ?_⟩, hgs⟩
  · rw [ho.cellAt i (by omega), hds_get _ _ _ _ _ hi]
  · have h1 := (ho.stored i (.slice (some ⟨g, 0, none⟩) l c)).1
    rw [hds_set] at h1
    exact h1
  · have := h.oE x e; omega
  · by_cases e : p = i
    · subst e
      simp only [if_pos]
      exact own_kept hrow hgs (fun x ex => by cases ex; exact hgG)
    · simp only [if_neg e]
      have h1 := own_kept (h.row p hp) hg (fun x ex => h.apart p i hp hi e x _ ex hA)
      refine own_kept h1 hgs (fun x ex => ?_)
      have hr := h.row p hp
      rw [ex] at hr
      rcases own_shape hr with ⟨h', _⟩ | ⟨g1, c1, e1, _⟩
      · cases h'
      · cases e1
        exact h.off hT hp ex
  · by_cases e : p = i
    · simp only [if_pos e] at ex; cases ex; exact hE'
    · simp only [if_neg e] at ex
      have := h.rE p hp x ex
      omega
  · have key : ∀ q, q < n → q ≠ i → ∀ y, A q = some y → y.block ≠ g := fun q hq hqi y ey => by
      rcases hat with rfl | hat
      · exact h.apart q i hq hi hqi y _ ey hA
      · have hr := h.row q hq
        rw [ey] at hr
        have := (hr.lt y.block rfl).2
        omega
    by_cases e : p = i
    · simp only [if_pos e] at ex
      cases ex
      simp only [if_neg (show q ≠ i by omega)] at ey
      exact (key q hq (by omega) y ey).symm
    · simp only [if_neg e] at ex
      by_cases e2 : q = i
      · simp only [if_pos e2] at ey
        cases ey
        exact key p hp e x ex
      · simp only [if_neg e2] at ey
        exact h.apart p q hp hq hpq x y ex ey
end
end Go.Proofs.YtpomffkpjldloaaGreat
/- The program's sums of a row: pieces, or texts, each times its number. Conditions: at most 16 parts, at most 2^20 bytes each. -/
namespace Go.Proofs.YtpomffkpjldloaaGreat
set_option maxRecDepth 2000
open Go.ChangeShapes Go.WideShapes Go.ChangeAt Go.RowKit

/-- A row of bytes of ours. -/
def OwnB (w : World) (B g n cap : Nat) (f : Nat → Nat) : Prop := w.ownsRow B 5 1 (.slice (some ⟨g, 0, none⟩) n cap) n ((eI f n).map (Value.int .u8))
theorem OwnB.lt {w : World} {B g n cap : Nat} {f : Nat → Nat} (h : OwnB w B g n cap f) : B ≤ g ∧ g < w.heap.size := World.ownsRow.lt h g rfl
theorem OwnB.cell {w : World} {B g n cap i : Nat} {f : Nat → Nat} (h : OwnB w B g n cap f) (hi : i < n) : w.cell? ⟨g, i, none⟩ = some (.int .u8 ((f i : Nat) : Int)) := by
  rw [World.ownsRow.cellAt h i (by omega)]
  simp [eI, hi]
theorem OwnB.below {w w' : World} {B g n cap : Nat} {f : Nat → Nat} (h : OwnB w B g n cap f) (hb : Below w.heap.size w w') : OwnB w' B g n cap f := ownsRow_below h hb
theorem OwnB.congr {w : World} {B g n cap : Nat} {f h : Nat → Nat} (ho : OwnB w B g n cap f) (e : ∀ i, i < n → f i = h i) : OwnB w B g n cap h := by
  unfold OwnB at *
  rw [← eI_congr e]
  exact ho
theorem OwnB.set {w : World} {B g n cap k v : Nat} {f : Nat → Nat} (h : OwnB w B g n cap f) (hk : k < n) :
    OwnB (w.setCell ⟨g, k, none⟩ (.int .u8 (v : Int))) B g n cap (fun i => if i = k then v else f i) ∧ w.grownBy (w.setCell ⟨g, k, none⟩ (.int .u8 (v : Int))) (some g) := by
  have h1 := (World.ownsRow.stored h k (.int .u8 (v : Int))).1
  rw [eI_set f n k v .u8 hk] at h1
  exact ⟨h1, grown_set w g k _⟩
/-- Pieces that are read. -/
def PcsAt (w : World) (a : Option Addr) (n l : Nat) (T : Nat → Nat → Nat) : Prop :=
  ∀ i, i < n → ∃ b off g o c, a = some ⟨b, off, none⟩ ∧ w.cell? ⟨b, off + i, none⟩ = some (.slice (some ⟨g, o, none⟩) l c) ∧ ∀ p, p < l → w.cell? ⟨g, o + p, none⟩ = some (.int .u8 ((T i p : Nat) : Int))
theorem PcsAt.below {w w' : World} {a : Option Addr} {n l : Nat} {T : Nat → Nat → Nat} (h : PcsAt w a n l T) (hb : Below w.heap.size w w') : PcsAt w' a n l T := fun i hi => by
  obtain ⟨b, off, g, o, c, e, hc, hp⟩ := h i hi
  exact ⟨b, off, g, o, c, e, (hb.cell (p := ⟨b, off + i, none⟩) (block_lt_of_cell hc)).trans hc, fun p hpl => (hb.cell (p := ⟨g, o + p, none⟩) (block_lt_of_cell (hp p hpl))).trans (hp p hpl)⟩

end Go.Proofs.YtpomffkpjldloaaGreat
/- The program's sums of a row over texts. Conditions: at most 16 texts, at most 2^20 bytes each. -/
namespace Go.Proofs.YtpomffkpjldloaaGreat
set_option maxRecDepth 2000
open Go.ChangeShapes Go.WideShapes Go.ChangeAt Go.RowKit

end Go.Proofs.YtpomffkpjldloaaGreat
/- The program's frame round a text, the pieces that it is cut into, the sums of all rows, and what is made of a text. Conditions stand at each. -/
namespace Go.Proofs.YtpomffkpjldloaaGreat
set_option maxRecDepth 2000
open Go.ChangeShapes Go.WideShapes Go.ChangeAt Go.RowKit

theorem OwnB.heap {w : World} {B g n : Nat} {f : Nat → Nat} (h : OwnB w B g n n f) : w.heap[g]? = some (.cells ((eI f n).map (Value.int .u8)).toArray 5 (0, 0)) ∧ B ≤ g ∧ n ≤ maxLen := by
  rcases h.2 with ⟨e, _⟩ | ⟨g', cap, cur, e, hB, hg, hn, hm, hs, ht⟩
  · cases e
  · cases e
    have e2 : cur.toList.take (n * 1) = cur.toList := List.take_of_length_le (by rw [Array.length_toList, hs]; exact Nat.le_refl _)
    rw [e2] at ht
    refine ⟨?_, hB, hm⟩
    rw [hg, ← ht]
theorem OwnB.of {w : World} {B g n : Nat} {f : Nat → Nat} (h : w.heap[g]? = some (.cells ((eI f n).map (Value.int .u8)).toArray 5 (0, 0))) (hB : B ≤ g) (hm : n ≤ maxLen) : OwnB w B g n n f :=
  ⟨by simp [eI_len], .inr ⟨g, n, _, rfl, hB, h, Nat.le_refl _, hm, by simp [eI_len], by rw [List.take_of_length_le (by simp [eI_len])]⟩⟩
end Go.Proofs.YtpomffkpjldloaaGreat
/- The program's sums of all rows, over pieces and over texts; the pieces that a whole is cut into. Conditions stand at each. -/
namespace Go.Proofs.YtpomffkpjldloaaGreat
set_option maxRecDepth 2000
open Go.ChangeShapes Go.WideShapes Go.ChangeAt Go.RowKit

end Go.Proofs.YtpomffkpjldloaaGreat
/- The pieces that a whole is cut into; what the program makes of a text. Conditions: as the document has them, at most 2^20 bytes. -/
namespace Go.Proofs.YtpomffkpjldloaaGreat
set_option maxRecDepth 2000
open Go.ChangeShapes Go.WideShapes Go.ChangeAt Go.RowKit

theorem sprOk_parts {k n : Int} (h : sprOk k n = true) : 1 ≤ k ∧ k ≤ n ∧ n ≤ 16 := by
  have : (1 ≤ n ∧ n ≤ 16) ∧ 1 ≤ k ∧ k ≤ n := by simpa [sprOk, side] using h
  omega
end Go.Proofs.YtpomffkpjldloaaGreat
/- The model's sums of all rows over texts; whether two numbers are sides. Conditions: at most 16 texts of at most 2^20 bytes. -/
namespace Go.Proofs.YtpomffkpjldloaaGreat
set_option maxRecDepth 2000
open Go.ChangeShapes Go.WideShapes Go.ChangeAt Go.RowKit

set_option maxHeartbeats 400000 in
theorem s4Ok_any (k n : Int) (w : World) : Calls Tryz.prog 69 #[.int .i64 k, .int .i64 n] w fun e w' => e = .returned (.bool (sprOk k n)) ∧ w' = w := by
  have HE : Hid (sprOk k n = (inB n 1 16 && inB k 1 n)) := by show _ = _; unfold sprOk side inB; rfl
  cases h1 : inB n 1 16 with
  | false =>
    have HF : Hid (sprOk k n = false) := by show _ = _; rw [HE.out, h1]; rfl
    go_enter Tryz.func69, Tryz.ntmps69
    go_wp2_with (go_at_call 26; refine (sIn_any _ _ _ _).mono ?_; rintro e w' ⟨rfl, hw⟩; obtain rfl := hw.symm)
    go_ret
    exact ⟨ret_bool HF.out.symm, rfl⟩
  | true =>
    have HF : Hid (sprOk k n = inB k 1 n) := by show _ = _; rw [HE.out, h1]; rfl
    generalize inB k 1 n = b at HF
    obtain ⟨b, hb⟩ : ∃ b, inB k 1 n = b := ⟨_, rfl⟩
    go_enter Tryz.func69, Tryz.ntmps69
    go_wp2_with (go_at_call 26; refine (sIn_any _ _ _ _).mono ?_; rintro e w' ⟨rfl, hw⟩; obtain rfl := hw.symm)
    go_ret
    exact ⟨ret_bool (by rw [HE.out, h1]; simp [hb]), rfl⟩
end Go.Proofs.YtpomffkpjldloaaGreat
