/- The program's division of polynomials: what the quotient and the rest are, and where they lie. Conditions: byte numbers, the divisor's last number not 0, lists of at most 2^20 numbers. -/
import Derived.Test.YtjhbjfplgmcbpaaH7
import Derived.Test.YtjhbjfplgmcbpaaH6
import Derived.Test.YtjhbjfplgmcbpaaH8
import Derived.Test.YtjhbjfplgmcbpaaH9
import Derived.Test.YtjhbjfplgmcbpaaH10
import Derived.Deep.RegionHeld3
import Derived.Deep.AppendLies
import Derived.Test.YtjhbjfplgmcbpaaH5
import Derived.Sort.LoopGhostIn
import Derived.Lib.Strings
import Derived.Lib.Walk
import Derived.Lib.BufferWrite
import Derived.Lib.UnsafeStr
import Derived.Lib.Hide
import Derived.Laws.MakeOwn
import Derived.Test.YtjhbjfplgmcbpaaH4
import Derived.Laws.CopyRow
namespace Go.Proofs.Ytjhbjfplgmcbpaa
set_option maxRecDepth 2000
open Go.ChangeShapes Go.WideShapes Go.ChangeAt Go.RowKit

theorem add_none (b j : Nat) : (⟨b, 0, none⟩ : Addr).add j = ⟨b, j, none⟩ := by unfold Addr.add; split <;> simp_all
theorem Els.news {w : World} {b n cap : Nat} {f : Nat → Nat} (h : Els w (some ⟨b, 0, none⟩) n cap f) : ∀ j u, ((eI f n).map (Value.int .u8))[j]? = some u → w.cell? ((⟨b, 0, none⟩ : Addr).add j) = some u := by
  intro j u hu
  rw [add_none]
  by_cases hj : j < n
  · obtain ⟨b', e, hc⟩ := h.at (i := j) hj
    cases e
    rw [hc]
    simpa [eI, hj] using hu
  · rw [List.getElem?_eq_none (by simp [eI_len]; omega)] at hu
    cases hu
end Go.Proofs.Ytjhbjfplgmcbpaa
/- The sixteen bytes that stand for a text, in the program and in its model: what each answers. Condition: a text of at most 2^20 bytes. -/
namespace Go.Proofs.Ytjhbjfplgmcbpaa
set_option maxRecDepth 2000
open Go.ChangeShapes Go.WideShapes Go.ChangeAt Go.RowKit
open Gs (U)

def sumS (s : ByteArray) : ByteArray := strOfNums (lx (Gs.sip (tat s) 1#64 2#64 s.size)) ++ strOfNums (lx (Gs.sip (tat s) 3#64 4#64 s.size))
end Go.Proofs.Ytjhbjfplgmcbpaa
/- Trees over texts by plain functions: the row above a row, the root, a proof, the root that a proof leads to. No condition but what each law says; nothing of the program is named but the sum of a text. -/
namespace Go.Proofs.Ytjhbjfplgmcbpaa
set_option maxRecDepth 2000
namespace Gt

/-- The sum of a byte 1 and two texts. -/
def jn (a b : ByteArray) : ByteArray := sumS ((⟨#[1]⟩ : ByteArray) ++ a ++ b)
def lf (s : ByteArray) : ByteArray := sumS ((⟨#[0]⟩ : ByteArray) ++ s)
/-- The neighbour's place. -/
def nb (i : Nat) : Nat := if i % 2 = 0 then i + 1 else i - 1
def hf (n : Nat) : Nat := (n + 1) / 2
/-- The row above a row of m. -/
def up (m : Nat) (R : Nat → ByteArray) : Nat → ByteArray := fun i => if 2 * i + 1 < m then jn (R (2 * i)) (R (2 * i + 1)) else if 2 * i < m then R (2 * i) else ByteArray.empty
/-- The root over a row. -/
def rt (n : Nat) (R : Nat → ByteArray) : ByteArray := if _h : n ≤ 1 then R 0 else rt (hf n) (up n R)
  termination_by n
  decreasing_by unfold hf; omega
/-- How many texts a proof has. -/
def pl (i n : Nat) : Nat := if _h : n ≤ 1 then 0 else (if nb i < n then 1 else 0) + pl (i / 2) (hf n)
  termination_by n
  decreasing_by unfold hf; omega
/-- The root that a leaf and a proof, from its text at 'c' on, lead to. -/
def pr (x : ByteArray) (i n : Nat) (P : Nat → ByteArray) (c : Nat) : ByteArray :=
  if _h : n ≤ 1 then x else if nb i < n then pr (if i % 2 = 0 then jn x (P c) else jn (P c) x) (i / 2) (hf n) P (c + 1) else pr x (i / 2) (hf n) P c
  termination_by n
  decreasing_by all_goals (unfold hf; omega)
/-- The next place that is joined, or the top. -/
def nm (p s : Nat) : Nat × Nat := if _h : s ≤ 1 then (p, s) else if nb p < s then (p, s) else nm (p / 2) (hf s)
  termination_by s
  decreasing_by unfold hf; omega
end Gt
end Go.Proofs.Ytjhbjfplgmcbpaa
/- The program's product of polynomials, and the polynomials that are 0 at places. Conditions: byte numbers, at most 100 factors of at most 1000 numbers. -/
namespace Go.Proofs.Ytjhbjfplgmcbpaa
set_option maxRecDepth 2000
open Go.ChangeShapes Go.WideShapes Go.ChangeAt Go.RowKit

/-- A row of polynomials. -/
def Facs (w : World) (g k : Nat) (A : Nat → Option Addr) (N C : Nat → Nat) (F : Nat → Nat → Nat) : Prop :=
  ∀ i, i < k → w.cell? ⟨g, i, none⟩ = some (.slice (A i) (N i) (C i)) ∧ Els w (A i) (N i) (C i) (F i)
theorem Facs.below {w w' : World} {g k : Nat} {A : Nat → Option Addr} {N C : Nat → Nat} {F : Nat → Nat → Nat} (h : Facs w g k A N C F) (hb : Below w.heap.size w w') : Facs w' g k A N C F := fun i hi =>
  ⟨(hb.cell (p := ⟨g, i, none⟩) (block_lt_of_cell (h i hi).1)).trans (h i hi).1, (h i hi).2.below hb⟩

end Go.Proofs.Ytjhbjfplgmcbpaa
/- The program's polynomials that are 0 at places. Conditions: byte numbers, at most 100 places. -/
namespace Go.Proofs.Ytjhbjfplgmcbpaa
set_option maxRecDepth 2000
open Go.ChangeShapes Go.WideShapes Go.ChangeAt Go.RowKit

theorem Els.alloc {w : World} {a : Option Addr} {n cap : Nat} {f : Nat → Nat} (h : Els w a n cap f) (o : Obj) : Els (w.alloc o) a n cap f :=
  h.below ((Below.refl _ _).alloc (Nat.le_refl _) _)

end Go.Proofs.Ytjhbjfplgmcbpaa
/- Leaves and joins, in the program and in its model: what each answers. Condition: texts of at most 2^20 bytes. -/
namespace Go.Proofs.Ytjhbjfplgmcbpaa
set_option maxRecDepth 2000
open Go.ChangeShapes Go.WideShapes Go.ChangeAt Go.RowKit
open Gt (jn lf)

end Go.Proofs.Ytjhbjfplgmcbpaa
/- A place in a row of so many, in the program: whether it is one, its neighbour, the place above it. Conditions: for the neighbour and the place above it at most 2^20 in the row. -/
namespace Go.Proofs.Ytjhbjfplgmcbpaa
set_option maxRecDepth 2000
open Go.ChangeShapes Go.WideShapes Go.ChangeAt Go.RowKit
open Gt (nb hf)

end Go.Proofs.Ytjhbjfplgmcbpaa
/- The program's functions over polynomials as they are called: what each answers at any lists of at most 2^20 numbers, in memory of its own; nothing that was there turns. -/
namespace Go.Proofs.Ytjhbjfplgmcbpaa
set_option maxRecDepth 2000
open Go.ChangeShapes Go.WideShapes Go.ChangeAt Go.RowKit

end Go.Proofs.Ytjhbjfplgmcbpaa
/- The places on the way up from a place, in the program, that are joined: the contract of the iterator that tells them. Condition: a place of a row of at most 64. -/
namespace Go.Proofs.Ytjhbjfplgmcbpaa
set_option maxRecDepth 2000
open Go.ChangeShapes Go.WideShapes Go.ChangeAt Go.RowKit Go.Shelf
open Gt (nb hf nm)

end Go.Proofs.Ytjhbjfplgmcbpaa
/- The row above a row, in the model. Conditions: at most 64 in the row, each of sixteen bytes. -/
namespace Go.Proofs.Ytjhbjfplgmcbpaa
set_option maxRecDepth 2000
open Go.ChangeShapes Go.WideShapes Go.ChangeAt Go.RowKit
open Gt (hf up jn)

end Go.Proofs.Ytjhbjfplgmcbpaa
/- The leaf of a piece's body, in the program and in its model: what each answers. Condition: a body of at most 2^20 bytes. -/
namespace Go.Proofs.Ytjhbjfplgmcbpaa
set_option maxRecDepth 2000
open Go.ChangeShapes Go.WideShapes Go.ChangeAt Go.RowKit
open Gt (lf)

end Go.Proofs.Ytjhbjfplgmcbpaa
/- The program's sum, product and quotient of polynomials, at any lists of at most 2^20 numbers. -/
namespace Go.Proofs.Ytjhbjfplgmcbpaa
set_option maxRecDepth 2000
open Go.ChangeShapes Go.WideShapes Go.ChangeAt Go.RowKit

theorem OwnI.mono {w : World} {B B' : Nat} {v : Value} {zs : List Int} (h : OwnI w B v zs) (hb : B' ≤ B) : OwnI w B' v zs :=
  ⟨h.1, h.2.imp id fun ⟨g, cap, cur, h1, h2, h3⟩ => ⟨g, cap, cur, h1, Nat.le_trans hb h2, h3⟩⟩
end Go.Proofs.Ytjhbjfplgmcbpaa
/- How many texts a proof has, in the program: at every two numbers. No condition. -/
namespace Go.Proofs.Ytjhbjfplgmcbpaa
set_option maxRecDepth 2000
open Go.ChangeShapes Go.WideShapes Go.ChangeAt Go.RowKit Go.Shelf
open Gt (nb hf nm pl)

theorem Row.grown {w w' : World} {g j : Nat} {t : TypeId} {cs : Array Value} (h : Row w g t cs) (hg : w.grownBy w' (some j)) (hj : g ≠ j) : Row w' g t cs := (hg.block g h.lt (by simpa using hj)).trans h
end Go.Proofs.Ytjhbjfplgmcbpaa
/- The model's functions over polynomials: what each answers, in memory of its own; nothing that was there turns. Conditions: lists of at most 2^20 numbers; byte numbers where sums and products are made. -/
namespace Go.Proofs.Ytjhbjfplgmcbpaa
set_option maxRecDepth 2000
open Go.ChangeShapes Go.WideShapes Go.ChangeAt Go.RowKit

/-- A row of whole numbers of ours. -/
def OwnR (w : World) (B g n cap : Nat) (f : Nat → Nat) : Prop := w.ownsRow B 3 1 (.slice (some ⟨g, 0, none⟩) n cap) n ((eI f n).map (Value.int .i64))
theorem OwnR.cap {w : World} {B g n cap : Nat} {f : Nat → Nat} (h : OwnR w B g n cap f) : n ≤ cap := by
  rcases h.2 with h' | ⟨g', cap', cur, e, _, _, hn, _⟩
  · cases h'.1
  · cases e; exact hn
theorem OwnR.cell {w : World} {B g n cap i : Nat} {f : Nat → Nat} (h : OwnR w B g n cap f) (hi : i < n) : w.cell? ⟨g, i, none⟩ = some (.int .i64 ((f i : Nat) : Int)) := by
  rw [World.ownsRow.cellAt h i (by omega)]
  simp [eI, hi]
theorem OwnR.ints {w : World} {B g n cap : Nat} {f : Nat → Nat} (h : OwnR w B g n cap f) : IntsAt w (some ⟨g, 0, none⟩) n (eI f n) := ownsRow.ints h
theorem OwnR.lt {w : World} {B g n cap : Nat} {f : Nat → Nat} (h : OwnR w B g n cap f) : B ≤ g ∧ g < w.heap.size := World.ownsRow.lt h g rfl
theorem OwnR.below {w w' : World} {B g n cap : Nat} {f : Nat → Nat} (h : OwnR w B g n cap f) (hb : Below w.heap.size w w') : OwnR w' B g n cap f := ownsRow_below h hb
theorem OwnR.other {w w' : World} {B g n cap r : Nat} {f : Nat → Nat} (h : OwnR w B g n cap f) (hg : w.grownBy w' (some r)) (hr : g ≠ r) : OwnR w' B g n cap f :=
  World.ownsRow.kept h hg (.inr (by simp [Value.ownBlock]; exact hr))
theorem OwnR.congr {w : World} {B g n cap : Nat} {f h : Nat → Nat} (ho : OwnR w B g n cap f) (e : ∀ i, i < n → f i = h i) : OwnR w B g n cap h := by
  unfold OwnR at *
  rw [← eI_congr e]
  exact ho
theorem OwnR.set {w : World} {B g n cap k v : Nat} {f : Nat → Nat} (h : OwnR w B g n cap f) (hk : k < n) :
    OwnR (w.setCell ⟨g, k, none⟩ (.int .i64 (v : Int))) B g n cap (fun i => if i = k then v else f i) ∧ w.grownBy (w.setCell ⟨g, k, none⟩ (.int .i64 (v : Int))) (some g) := by
  have hs := World.ownsRow.stored h k (.int .i64 (v : Int))
  rw [eI_set f n k v .i64 hk] at hs
  exact ⟨hs.1, ⟨rfl, rfl, rfl, by simp, fun j _ hj => heap_setCell_other w ⟨g, k, none⟩ j _ (fun e => hj (by simp [e]))⟩⟩
end Go.Proofs.Ytjhbjfplgmcbpaa
/- How many texts a proof has, in the model: at every two numbers. No condition. -/
namespace Go.Proofs.Ytjhbjfplgmcbpaa
set_option maxRecDepth 2000
open Go.ChangeShapes Go.WideShapes Go.ChangeAt Go.RowKit
open Gt (nb hf pl)

end Go.Proofs.Ytjhbjfplgmcbpaa
/- Whether texts are sums, in the program and in its model; a text cloned. Conditions: at most 2^20 texts; a text of at most 2^20 bytes. -/
namespace Go.Proofs.Ytjhbjfplgmcbpaa
set_option maxRecDepth 2000
open Go.ChangeShapes Go.WideShapes Go.ChangeAt Go.RowKit

set_option maxHeartbeats 4000000 in
set_option maxRecDepth 100000 in
theorem cloneLite_any (s : ByteArray) (w : World) (hlim : s.size ≤ 1048576) :
    Calls Try.prog 76 #[.string s] w fun e w' => e = .returned (.string s) ∧ Below w.heap.size w w' := by
  by_cases h0 : s.size = 0
  · have hs : s = ⟨#[]⟩ := by
      apply ByteArray.ext
      exact Array.eq_empty_of_size_eq_zero h0
    subst hs
    go_enter Try.func76, Try.ntmps76
    go_wp2
    go_ret
    exact ⟨rfl, Below.refl _ _⟩
  · obtain ⟨i0, hi, hz0, hz1, hz2⟩ := info_parts Try.infoByte
    have hinfo : (Try.prog.info? 5).map (·.size) = some 1 := by rw [hi]; simp [hz1]
    have hco : Try.prog.cellsOf 5 = 1 := by simp [Program.cellsOf, hi, hz1]
    obtain ⟨M, hM⟩ : ∃ M, M = madeCells (Value.int .u8 0).cells (((s.size : Nat) : Int).toNat * i0.size) := ⟨_, rfl⟩
    have hMs : M.size = s.size := by rw [hM, size_madeCells, hz1]; simp
    have hmk : ∀ W : World, (Instr.makeSlice 108 (.int .i64 (s.size : Int)) (.int .i64 (s.size : Int))).run Try.prog W = .ok (.slice (some ⟨W.heap.size, 0, none⟩) s.size s.size) (W.alloc (.cells M 5)) := fun W => by
      have h := run_make (P := Try.prog) W 108 5 i0 (.int .u8 0) Try.underlying108 hi hz0 .i64 .i64 (s.size : Int) (s.size : Int) (by omega) (by omega) (by rw [hz2]; omega) (by omega)
      rw [← hM] at h
      simpa using h
    clear hM
    have hcp := Lib.run_copy_row_string (P := Try.prog) (w.alloc (.cells M 5)) 108 9 3 5 w.heap.size 0 s.size s.size s M 5 Try.underlying108 hinfo (heap_alloc_new w _) (Nat.le_refl _) (by omega)
    obtain ⟨Y, hY⟩ : ∃ Y, Y = (M.toList.take 0 ++ Lib.byteCells s.data.toList ++ M.toList.drop (0 + s.size)).toArray := ⟨_, rfl⟩
    rw [← hY] at hcp
    have hYl : Y.toList = Lib.byteCells s.data.toList := by
      rw [hY, List.toList_toArray, List.take_zero, List.nil_append, List.drop_of_length_le (by rw [Array.length_toList]; omega), List.append_nil]
    have hYs : Y.size = s.size := by rw [← Array.length_toList, hYl, Lib.byteCells_length, ← Lib.size_eq]
    have hgY : ((w.alloc (.cells M 5)).setRow w.heap.size Y).heap[w.heap.size]? = some (.cells Y 5 (0, 0)) := setRow_heap _ _ M _ 5 (0, 0) (heap_alloc_new w _)
    have hne : s.data.toList ≠ [] := fun e => h0 (by rw [Lib.size_eq, e]; rfl)
    have hUS := Lib.run_unsafeString_row (P := Try.prog) ((w.alloc (.cells M 5)).setRow w.heap.size Y) 119 3 9 5 Try.underlying119 hco w.heap.size Y.size (by unfold World.shape?; rw [hgY]) s.data.toList hne (by rw [← Lib.size_eq]; omega) (by rw [← Lib.size_eq]; omega)
      (fun j x hx => Lib.cells_of_row hgY Y.size j _ (by rw [List.take_of_length_le (by rw [Array.length_toList]; exact Nat.le_refl _), hYl]; simp [Lib.byteCells, hx]))
    rw [← Lib.size_eq] at hUS
    clear hY
    go_enter Try.func76, Try.ntmps76
    go_wp2
    go_ret
    have hb1 : Below w.heap.size w (w.alloc (.cells M 5)) := (Below.refl _ w).alloc (Nat.le_refl _) _
    have hb2 : Below w.heap.size (w.alloc (.cells M 5)) ((w.alloc (.cells M 5)).setRow w.heap.size Y) := ⟨rfl, rfl, rfl, by simp, fun k hk => setRow_other _ _ _ _ (by omega)⟩
    exact ⟨rfl, Lib.below_freeze (hb1.trans hb2) (p := ⟨w.heap.size, 0, none⟩) (Nat.le_refl _) _⟩
set_option maxHeartbeats 1000000 in
theorem clone_any (s : ByteArray) (w : World) (hlim : s.size ≤ 1048576) :
    Calls Try.prog 65 #[.string s] w fun e w' => e = .returned (.string s) ∧ Below w.heap.size w w' := by
  go_enter Try.func65, Try.ntmps65
  go_wp2_with fail
  refine (cloneLite_any s _ hlim).mono ?_
  rintro e w1 ⟨rfl, b1⟩
  go_wp2
  go_ret
  exact ⟨rfl, b1⟩
end Go.Proofs.Ytjhbjfplgmcbpaa
/- The root that a leaf and a proof lead to, in the program: where they are not so. Conditions: at most 2^20 texts. -/
namespace Go.Proofs.Ytjhbjfplgmcbpaa
set_option maxRecDepth 2000
open Go.ChangeShapes Go.WideShapes Go.ChangeAt Go.RowKit Go.Shelf
open Gt (nb hf nm pl pr jn)

end Go.Proofs.Ytjhbjfplgmcbpaa
/- Rows of 64 texts and a number, as the program has them: what is built, laid, loaded and stored of one, as laws of the walk. No condition but what each says. -/
namespace Go.Proofs.Ytjhbjfplgmcbpaa
set_option maxRecDepth 2000
open Go.RowKit

/-! ### Laws of the walk -/
section
variable {P : Program} {F : Fence} {n : Nat} {ops : Array Oper} {rest : List Oper} {o : Oper} {a : Act} {w : World} {Q : Exit → Act → World → Prop}
end
section
variable {F : Fence} {n : Nat} {ops : Array Oper} {rest : List Oper} {o : Oper} {a : Act} {w : World} {Q : Exit → Act → World → Prop}
end
end Go.Proofs.Ytjhbjfplgmcbpaa
/- The row above a row, in the program. Conditions: at most 64 in the row, each of sixteen bytes. -/
namespace Go.Proofs.Ytjhbjfplgmcbpaa
set_option maxRecDepth 2000
open Go.ChangeShapes Go.WideShapes Go.ChangeAt Go.RowKit
open Gt (nb hf up jn)

end Go.Proofs.Ytjhbjfplgmcbpaa
/- The lowest row of a tree, in the program: what is made of the leaves. Conditions: at most 2^20 texts. -/
namespace Go.Proofs.Ytjhbjfplgmcbpaa
set_option maxRecDepth 2000
open Go.ChangeShapes Go.WideShapes Go.ChangeAt Go.RowKit

end Go.Proofs.Ytjhbjfplgmcbpaa
/- The root that a leaf and a proof lead to, in the program. Conditions: at most 2^20 texts. -/
namespace Go.Proofs.Ytjhbjfplgmcbpaa
set_option maxRecDepth 2000
open Go.ChangeShapes Go.WideShapes Go.ChangeAt Go.RowKit Go.Shelf
open Gt (nb hf nm pl pr jn)

end Go.Proofs.Ytjhbjfplgmcbpaa
/- The root that a leaf and a proof lead to, in the model; what the program answers in one contract; whether it is a given root, in both. Conditions: at most 2^20 texts. -/
namespace Go.Proofs.Ytjhbjfplgmcbpaa
set_option maxRecDepth 2000
open Go.ChangeShapes Go.WideShapes Go.ChangeAt Go.RowKit
open Gt (nb hf nm pl pr jn)

end Go.Proofs.Ytjhbjfplgmcbpaa
/- The rows of a tree from a row up, in the program: the contract of the iterator that tells them. Conditions: one to 64 texts of sixteen bytes. -/
namespace Go.Proofs.Ytjhbjfplgmcbpaa
set_option maxRecDepth 2000
open Go.ChangeShapes Go.WideShapes Go.ChangeAt Go.RowKit Go.Shelf
open Gt (hf up)

end Go.Proofs.Ytjhbjfplgmcbpaa
/- Whether a proof leads to a root, in the program and in its model: what each answers. Conditions: at most 2^20 texts. -/
namespace Go.Proofs.Ytjhbjfplgmcbpaa
set_option maxRecDepth 2000
open Go.ChangeShapes Go.WideShapes Go.ChangeAt Go.RowKit

end Go.Proofs.Ytjhbjfplgmcbpaa
/- The root over leaves, in the program. Conditions: at most 2^20 texts. -/
namespace Go.Proofs.Ytjhbjfplgmcbpaa
set_option maxRecDepth 2000
open Go.ChangeShapes Go.WideShapes Go.ChangeAt Go.RowKit Go.Shelf
open Gt (hf up rt)

end Go.Proofs.Ytjhbjfplgmcbpaa
/- The root over leaves, in the model. Conditions: at most 2^20 texts. -/
namespace Go.Proofs.Ytjhbjfplgmcbpaa
set_option maxRecDepth 2000
open Go.ChangeShapes Go.WideShapes Go.ChangeAt Go.RowKit
open Gt (hf up rt)

end Go.Proofs.Ytjhbjfplgmcbpaa
