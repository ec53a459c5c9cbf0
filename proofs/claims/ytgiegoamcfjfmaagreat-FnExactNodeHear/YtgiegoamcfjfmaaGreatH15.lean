/- The plain mathematics of fragments' bodies: texts as rows of byte numbers, bodies as products of a matrix and the pieces of a text, the frame round a text. Nothing of Go's text is walked; conditions stand at each theorem. -/
import Derived.Test.YtgiegoamcfjfmaaGreatH2
import Derived.Test.YtgiegoamcfjfmaaGreatH11
import Derived.Test.YtgiegoamcfjfmaaGreatH9
import Derived.Test.YtgiegoamcfjfmaaGreatH10
import Derived.Lib.BufferWrite
import Derived.Laws.CopyOwn
namespace Go.Proofs.YtgiegoamcfjfmaaGreat
set_option maxRecDepth 2000
open Go.Proofs.YtgiegoamcfjfmaaGreat.Gp (m m_lt m_comm m_assoc m_xor xor_m m_zero zero_m m_one one_m m_nat m_ne xor_self xor_left xor_can xor_eq xor_lt)

/-- The text of the first 'l' of 'f'. -/
def txt (f : Nat → Nat) (l : Nat) : ByteArray := strOfNums (eI f l)
/-- How long each body is. -/
def blen (s k : Nat) : Nat := (s + 2 + k - 1) / k
/-- A text behind its length and ahead of noughts. -/
def frm (s : ByteArray) (q : Nat) : Nat := if q = 0 then s.size / 256 else if q = 1 then s.size % 256 else tat s (q - 2)
/-- The pieces of a whole, each 'l' long. -/
def pcs (W : Nat → Nat) (l i p : Nat) : Nat := W (i * l + p)
/-- The pieces of a text in 'k' bodies. -/
def enc (s : ByteArray) (k i p : Nat) : Nat := pcs (frm s) (blen s.size k) i p
/-- What a whole tells, as the program asks it. -/
def tells (W : Nat → Nat) (N k : Nat) : Prop := 2 ≤ N ∧ W 0 * 256 + W 1 ≤ 2000 ∧ N = k * blen (W 0 * 256 + W 1) k ∧ ∀ q, W 0 * 256 + W 1 + 2 ≤ q → q < N → W q = 0
def told (W : Nat → Nat) : ByteArray := txt (fun q => W (q + 2)) (W 0 * 256 + W 1)
end Go.Proofs.YtgiegoamcfjfmaaGreat
/- How long each body is, in the program and in its model, at every two numbers. No condition. -/
namespace Go.Proofs.YtgiegoamcfjfmaaGreat
set_option maxRecDepth 2000
open Go.ChangeShapes Go.WideShapes Go.ChangeAt Go.RowKit

end Go.Proofs.YtgiegoamcfjfmaaGreat
/- The program's sums of a row: pieces, or texts, each times its number. Conditions: at most 16 parts, at most 2^20 bytes each. -/
namespace Go.Proofs.YtgiegoamcfjfmaaGreat
set_option maxRecDepth 2000
open Go.ChangeShapes Go.WideShapes Go.ChangeAt Go.RowKit

/-- A row of bytes of ours. -/
def OwnB (w : World) (B g n cap : Nat) (f : Nat → Nat) : Prop := w.ownsRow B 5 1 (.slice (some ⟨g, 0, none⟩) n cap) n ((eI f n).map (Value.int .u8))
theorem OwnB.lt {w : World} {B g n cap : Nat} {f : Nat → Nat} (h : OwnB w B g n cap f) : B ≤ g ∧ g < w.heap.size := World.ownsRow.lt h g rfl
theorem OwnB.cell {w : World} {B g n cap i : Nat} {f : Nat → Nat} (h : OwnB w B g n cap f) (hi : i < n) : w.cell? ⟨g, i, none⟩ = some (.int .u8 ((f i : Nat) : Int)) := by
  rw [World.ownsRow.cellAt h i (by omega)]
  simp [eI, hi]
theorem OwnB.below {w w' : World} {B g n cap : Nat} {f : Nat → Nat} (h : OwnB w B g n cap f) (hb : Below w.heap.size w w') : OwnB w' B g n cap f := ownsRow_below h hb
theorem OwnB.congr {w : World} {B g n cap : Nat} {f h : Nat → Nat} (ho : OwnB w B g n cap f) (e : ∀ i, i < n → f i = h i) : OwnB w B g n cap h := by
  unfold OwnB at *
  rw [← eI_congr e]
  exact ho
theorem OwnB.set {w : World} {B g n cap k v : Nat} {f : Nat → Nat} (h : OwnB w B g n cap f) (hk : k < n) :
    OwnB (w.setCell ⟨g, k, none⟩ (.int .u8 (v : Int))) B g n cap (fun i => if i = k then v else f i) ∧ w.grownBy (w.setCell ⟨g, k, none⟩ (.int .u8 (v : Int))) (some g) := by
  have h1 := (World.ownsRow.stored h k (.int .u8 (v : Int))).1
  rw [eI_set f n k v .u8 hk] at h1
  exact ⟨h1, grown_set w g k _⟩
/-- Pieces that are read. -/
def PcsAt (w : World) (a : Option Addr) (n l : Nat) (T : Nat → Nat → Nat) : Prop :=
  ∀ i, i < n → ∃ b off g o c, a = some ⟨b, off, none⟩ ∧ w.cell? ⟨b, off + i, none⟩ = some (.slice (some ⟨g, o, none⟩) l c) ∧ ∀ p, p < l → w.cell? ⟨g, o + p, none⟩ = some (.int .u8 ((T i p : Nat) : Int))
theorem PcsAt.below {w w' : World} {a : Option Addr} {n l : Nat} {T : Nat → Nat → Nat} (h : PcsAt w a n l T) (hb : Below w.heap.size w w') : PcsAt w' a n l T := fun i hi => by
  obtain ⟨b, off, g, o, c, e, hc, hp⟩ := h i hi
  exact ⟨b, off, g, o, c, e, (hb.cell (p := ⟨b, off + i, none⟩) (block_lt_of_cell hc)).trans hc, fun p hpl => (hb.cell (p := ⟨g, o + p, none⟩) (block_lt_of_cell (hp p hpl))).trans (hp p hpl)⟩

end Go.Proofs.YtgiegoamcfjfmaaGreat
/- The program's sums of a row over texts. Conditions: at most 16 texts, at most 2^20 bytes each. -/
namespace Go.Proofs.YtgiegoamcfjfmaaGreat
set_option maxRecDepth 2000
open Go.ChangeShapes Go.WideShapes Go.ChangeAt Go.RowKit

end Go.Proofs.YtgiegoamcfjfmaaGreat
/- The program's frame round a text, the pieces that it is cut into, the sums of all rows, and what is made of a text. Conditions stand at each. -/
namespace Go.Proofs.YtgiegoamcfjfmaaGreat
set_option maxRecDepth 2000
open Go.ChangeShapes Go.WideShapes Go.ChangeAt Go.RowKit

theorem OwnB.heap {w : World} {B g n : Nat} {f : Nat → Nat} (h : OwnB w B g n n f) : w.heap[g]? = some (.cells ((eI f n).map (Value.int .u8)).toArray 5 (0, 0)) ∧ B ≤ g ∧ n ≤ maxLen := by
  rcases h.2 with ⟨e, _⟩ | ⟨g', cap, cur, e, hB, hg, hn, hm, hs, ht⟩
  · cases e
  · cases e
    have e2 : cur.toList.take (n * 1) = cur.toList := List.take_of_length_le (by rw [Array.length_toList, hs]; exact Nat.le_refl _)
    rw [e2] at ht
    refine ⟨?_, hB, hm⟩
    rw [hg, ← ht]
theorem OwnB.of {w : World} {B g n : Nat} {f : Nat → Nat} (h : w.heap[g]? = some (.cells ((eI f n).map (Value.int .u8)).toArray 5 (0, 0))) (hB : B ≤ g) (hm : n ≤ maxLen) : OwnB w B g n n f :=
  ⟨by simp [eI_len], .inr ⟨g, n, _, rfl, hB, h, Nat.le_refl _, hm, by simp [eI_len], by rw [List.take_of_length_le (by simp [eI_len])]⟩⟩
end Go.Proofs.YtgiegoamcfjfmaaGreat
/- The program's sums of all rows, over pieces and over texts; the pieces that a whole is cut into. Conditions stand at each. -/
namespace Go.Proofs.YtgiegoamcfjfmaaGreat
set_option maxRecDepth 2000
open Go.ChangeShapes Go.WideShapes Go.ChangeAt Go.RowKit

end Go.Proofs.YtgiegoamcfjfmaaGreat
/- The pieces that a whole is cut into; what the program makes of a text. Conditions: as the document has them, at most 2^20 bytes. -/
namespace Go.Proofs.YtgiegoamcfjfmaaGreat
set_option maxRecDepth 2000
open Go.ChangeShapes Go.WideShapes Go.ChangeAt Go.RowKit

theorem sprOk_parts {k n : Int} (h : sprOk k n = true) : 1 ≤ k ∧ k ≤ n ∧ n ≤ 16 := by
  have : (1 ≤ n ∧ n ≤ 16) ∧ 1 ≤ k ∧ k ≤ n := by simpa [sprOk, side] using h
  omega
end Go.Proofs.YtgiegoamcfjfmaaGreat
/- The model's sums of all rows over texts; whether two numbers are sides. Conditions: at most 16 texts of at most 2^20 bytes. -/
namespace Go.Proofs.YtgiegoamcfjfmaaGreat
set_option maxRecDepth 2000
open Go.ChangeShapes Go.WideShapes Go.ChangeAt Go.RowKit

set_option maxHeartbeats 400000 in
theorem s4Ok_any (k n : Int) (w : World) : Calls Tryz.prog 175 #[.int .i64 k, .int .i64 n] w fun e w' => e = .returned (.bool (sprOk k n)) ∧ w' = w := by
  have HE : Hid (sprOk k n = (inB n 1 16 && inB k 1 n)) := by show _ = _; unfold sprOk side inB; rfl
  cases h1 : inB n 1 16 with
  | false =>
    have HF : Hid (sprOk k n = false) := by show _ = _; rw [HE.out, h1]; rfl
    go_enter Tryz.func175, Tryz.ntmps175
    go_wp2_with (go_at_call 65; refine (sIn_any _ _ _ _).mono ?_; rintro e w' ⟨rfl, hw⟩; obtain rfl := hw.symm)
    go_ret
    exact ⟨ret_bool HF.out.symm, rfl⟩
  | true =>
    have HF : Hid (sprOk k n = inB k 1 n) := by show _ = _; rw [HE.out, h1]; rfl
    generalize inB k 1 n = b at HF
    obtain ⟨b, hb⟩ : ∃ b, inB k 1 n = b := ⟨_, rfl⟩
    go_enter Tryz.func175, Tryz.ntmps175
    go_wp2_with (go_at_call 65; refine (sIn_any _ _ _ _).mono ?_; rintro e w' ⟨rfl, hw⟩; obtain rfl := hw.symm)
    go_ret
    exact ⟨ret_bool (by rw [HE.out, h1]; simp [hb]), rfl⟩
end Go.Proofs.YtgiegoamcfjfmaaGreat
