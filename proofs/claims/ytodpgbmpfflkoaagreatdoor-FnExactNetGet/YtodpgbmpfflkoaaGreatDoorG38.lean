/- The places and the bodies of pieces, laid out, in the program. Condition: at most 64 pieces. -/
import Derived.Test.YtodpgbmpfflkoaaGreatDoorG34
import Derived.Deep.CutRange
import Derived.Test.YtodpgbmpfflkoaaGreatDoorG26
import Derived.Test.YtodpgbmpfflkoaaGreatDoorG33
namespace Go.Proofs.YtodpgbmpfflkoaaGreatDoor
set_option maxRecDepth 2000
open Go.ChangeShapes Go.WideShapes Go.ChangeAt Go.RowKit

theorem Tryz.infoI3 : (Tryz.prog.info? 3).map (fun i => (i.zero, i.size, i.bytes)) = some (some (.int .i64 0), 1, 8) := by kernel_rfl
theorem makeI (c : Nat) (hc : c ≤ 64) (W : World) : (Instr.makeSlice 23 (.int .i64 (c : Int)) (.int .i64 (c : Int))).run Tryz.prog W = .ok (.slice (some ⟨W.heap.size, 0, none⟩) c c) (W.alloc (.cells (madeCells #[.int .i64 0] (c * 1)) 3)) := by
  obtain ⟨i0, hi, hz0, hz1, hz2⟩ := info_parts Tryz.infoI3
  have hr := run_make (P := Tryz.prog) W 23 3 i0 (.int .i64 0) Tryz.underlying23 hi hz0 .i64 .i64 c c (by omega) (Int.le_refl _) (by rw [hz2]; omega) (by omega)
  simp only [Int.toNat_natCast, hz1] at hr
  exact hr
theorem makeS (c : Nat) (hc : c ≤ 64) (W : World) : (Instr.makeSlice 46 (.int .i64 (c : Int)) (.int .i64 (c : Int))).run Tryz.prog W = .ok (.slice (some ⟨W.heap.size, 0, none⟩) c c) (W.alloc (.cells (madeCells #[.string ByteArray.empty] (c * 1)) 9)) := by
  obtain ⟨i0, hi, hz0, hz1, hz2⟩ := info_parts Tryz.infoStr
  have hr := run_make (P := Tryz.prog) W 46 9 i0 (.string ByteArray.empty) Tryz.underlying46 hi hz0 .i64 .i64 c c (by omega) (Int.le_refl _) (by rw [hz2]; omega) (by omega)
  simp only [Int.toNat_natCast, hz1] at hr
  exact hr
def zL (f : Nat → Int) (n : Nat) : List Value := (List.range n).map fun i => Value.int .i64 (f i)
theorem zL_len (f : Nat → Int) (n : Nat) : (zL f n).length = n := by simp [zL]
theorem zL_get (f : Nat → Int) (n i : Nat) (h : i < n) : (zL f n)[i]? = some (Value.int .i64 (f i)) := by simp [zL, h]
theorem zL_congr {f f' : Nat → Int} {n : Nat} (h : ∀ i, i < n → f i = f' i) : zL f n = zL f' n := by
  unfold zL
  refine List.map_congr_left fun i hi => ?_
  rw [h i (by simpa using hi)]
theorem zL_set (f : Nat → Int) (n k : Nat) (x : Int) (h : k < n) : (zL f n).set k (.int .i64 x) = zL (fun i => if i = k then x else f i) n := by
  apply List.ext_getElem?
  intro j
  rw [List.getElem?_set]
  by_cases hj : j < n
  · by_cases e : k = j
    · subst e
      rw [if_pos rfl, if_pos (by rw [zL_len]; exact h), zL_get _ _ _ h]
      simp
    · rw [if_neg e, zL_get _ _ _ hj, zL_get _ _ _ hj, if_neg (Ne.symm e)]
  · rw [List.getElem?_eq_none (l := zL _ n) (by rw [zL_len]; omega)]
    rw [List.getElem?_eq_none (l := zL (fun i => if i = k then x else f i) n) (by rw [zL_len]; omega)]
    repeat' split
    all_goals first | rfl | (exfalso; simp only [zL_len] at *; omega)
/-- The first j of c places and bodies laid out. -/
def LoI (w : World) (B g1 g2 c j : Nat) (Q : Nat → Pc) : Prop := w.ownsRow B 3 1 (.slice (some ⟨g1, 0, none⟩) c c) c (zL (fun x => if x < j then (Q x).i else 0) c) ∧ OwnT w B (some ⟨g2, 0, none⟩) c c (fun x => if x < j then (Q x).b else ByteArray.empty) ∧ g1 ≠ g2
theorem zeroI (Q : Nat → Pc) (c : Nat) : (madeCells #[.int .i64 0] c).toList = zL (fun x => if x < 0 then (Q x).i else 0) c := by
  rw [toList_madeCells_one]
  apply List.ext_getElem?
  intro j
  by_cases hj : j < c
  · rw [zL_get _ _ _ hj]; simp [hj]
  · rw [List.getElem?_eq_none (by simp; omega), List.getElem?_eq_none (by rw [zL_len]; omega)]
theorem zeroS (Q : Nat → Pc) (c : Nat) : (madeCells #[.string ByteArray.empty] c).toList = sL (fun x => if x < 0 then (Q x).b else ByteArray.empty) c := by
  rw [toList_madeCells_one, ← sL_empty]
  exact sL_congr fun i _ => by simp
theorem LoI.first (w : World) (c : Nat) (Q : Nat → Pc) (hc : c ≤ 64) : LoI ((w.alloc (.cells (madeCells #[.int .i64 0] c) 3)).alloc (.cells (madeCells #[.string ByteArray.empty] c) 9)) w.heap.size w.heap.size (w.heap.size + 1) c 0 Q := by
  refine ⟨?_, ?_, by omega⟩
  · have := World.ownsRow_lit (e := 3) (size := 1) w (madeCells #[.int .i64 0] c) c (Nat.le_refl _) (by unfold maxLen; omega) (by rw [size_madeCells]; omega)
    rw [zeroI Q] at this
    exact World.ownsRow.alloc this _
  · have := World.ownsRow_lit (e := 9) (size := 1) (base := w.heap.size) (w.alloc (.cells (madeCells #[.int .i64 0] c) 3)) (madeCells #[.string ByteArray.empty] c) c (by simp) (by unfold maxLen; omega) (by rw [size_madeCells]; omega)
    rw [zeroS Q] at this
    unfold OwnT
    simpa using this
theorem LoI.second (w : World) (c : Nat) (Q : Nat → Pc) (hc : c ≤ 64) : LoI ((w.alloc (.cells (madeCells #[.string ByteArray.empty] c) 9)).alloc (.cells (madeCells #[.int .i64 0] c) 3)) w.heap.size (w.heap.size + 1) w.heap.size c 0 Q := by
  refine ⟨?_, ?_, by omega⟩
  · have := World.ownsRow_lit (e := 3) (size := 1) (base := w.heap.size) (w.alloc (.cells (madeCells #[.string ByteArray.empty] c) 9)) (madeCells #[.int .i64 0] c) c (by simp) (by unfold maxLen; omega) (by rw [size_madeCells]; omega)
    rw [zeroI Q] at this
    simpa using this
  · have := World.ownsRow_lit (e := 9) (size := 1) w (madeCells #[.string ByteArray.empty] c) c (Nat.le_refl _) (by unfold maxLen; omega) (by rw [size_madeCells]; omega)
    rw [zeroS Q] at this
    exact World.ownsRow.alloc this _
theorem LoI.lt {w : World} {B g1 g2 c j : Nat} {Q : Nat → Pc} (h : LoI w B g1 g2 c j Q) : (B ≤ g1 ∧ g1 < w.heap.size) ∧ (B ≤ g2 ∧ g2 < w.heap.size) := ⟨World.ownsRow.lt h.1 _ rfl, World.ownsRow.lt h.2.1 _ rfl⟩
theorem LoI.alloc {w : World} {B g1 g2 c j : Nat} {Q : Nat → Pc} (h : LoI w B g1 g2 c j Q) (o : Obj) : LoI (w.alloc o) B g1 g2 c j Q := ⟨World.ownsRow.alloc h.1 o, World.ownsRow.alloc h.2.1 o, h.2.2⟩
theorem LoI.cell1 {w : World} {B g1 g2 c j : Nat} {Q : Nat → Pc} (h : LoI w B g1 g2 c j Q) {x : Nat} (hx : x < c) : w.cell? ⟨g1, x, none⟩ = some (.int .i64 (if x < j then (Q x).i else 0)) := by
  rw [World.ownsRow.cellAt h.1 x (by omega), zL_get _ _ _ hx]
theorem LoI.cell2 {w : World} {B g1 g2 c j : Nat} {Q : Nat → Pc} (h : LoI w B g1 g2 c j Q) {x : Nat} (hx : x < c) : w.cell? ⟨g2, x, none⟩ = some (.string (if x < j then (Q x).b else ByteArray.empty)) := by
  rw [World.ownsRow.cellAt h.2.1 x (by omega), sL_get _ _ _ hx]
theorem LoI.set12 {w : World} {B g1 g2 c j : Nat} {Q : Nat → Pc} (h : LoI w B g1 g2 c j Q) (hj : j < c) : LoI ((w.setCell ⟨g1, j, none⟩ (.int .i64 (Q j).i)).setCell ⟨g2, j, none⟩ (.string (Q j).b)) B g1 g2 c (j + 1) Q := by
  have s1 := World.ownsRow.stored h.1 j (.int .i64 (Q j).i)
  have k2 := World.ownsRow.kept h.2.1 s1.2 (.inr (by intro e; exact h.2.2 (by simpa [Value.ownBlock] using e.symm)))
  have s2 := World.ownsRow.stored k2 j (.string (Q j).b)
  have k1 := World.ownsRow.kept s1.1 s2.2 (.inr (by intro e; exact h.2.2 (by simpa [Value.ownBlock] using e)))
  refine ⟨?_, ?_, h.2.2⟩
  · rw [zL_set _ _ _ _ hj] at k1
    rw [zL_congr (f' := fun x => if x < j + 1 then (Q x).i else 0) (fun i _ => by
      by_cases e : i = j
      · simp [e]
      · by_cases e2 : i < j
        · simp [e, e2, show i < j + 1 by omega]
        · simp [e, e2, show ¬ i < j + 1 by omega])] at k1
    exact k1
  · have k3 := s2.1
    rw [sL_set _ _ _ _ hj] at k3
    exact OwnT.congr k3 (fun i _ => by
      by_cases e : i = j
      · simp [e]
      · by_cases e2 : i < j
        · simp [e, e2, show i < j + 1 by omega]
        · simp [e, e2, show ¬ i < j + 1 by omega])
theorem LoI.set21 {w : World} {B g1 g2 c j : Nat} {Q : Nat → Pc} (h : LoI w B g1 g2 c j Q) (hj : j < c) : LoI ((w.setCell ⟨g2, j, none⟩ (.string (Q j).b)).setCell ⟨g1, j, none⟩ (.int .i64 (Q j).i)) B g1 g2 c (j + 1) Q := by
  have s2 := World.ownsRow.stored h.2.1 j (.string (Q j).b)
  have k1 := World.ownsRow.kept h.1 s2.2 (.inr (by intro e; exact h.2.2 (by simpa [Value.ownBlock] using e)))
  have s1 := World.ownsRow.stored k1 j (.int .i64 (Q j).i)
  have k2 := World.ownsRow.kept s2.1 s1.2 (.inr (by intro e; exact h.2.2 (by simpa [Value.ownBlock] using e.symm)))
  refine ⟨?_, ?_, h.2.2⟩
  · have k3 := s1.1
    rw [zL_set _ _ _ _ hj] at k3
    rw [zL_congr (f' := fun x => if x < j + 1 then (Q x).i else 0) (fun i _ => by
      by_cases e : i = j
      · simp [e]
      · by_cases e2 : i < j
        · simp [e, e2, show i < j + 1 by omega]
        · simp [e, e2, show ¬ i < j + 1 by omega])] at k3
    exact k3
  · rw [sL_set _ _ _ _ hj] at k2
    exact OwnT.congr k2 (fun i _ => by
      by_cases e : i = j
      · simp [e]
      · by_cases e2 : i < j
        · simp [e, e2, show i < j + 1 by omega]
        · simp [e, e2, show ¬ i < j + 1 by omega])
theorem LoI.ints {w : World} {B g1 g2 c : Nat} {Q : Nat → Pc} (h : LoI w B g1 g2 c c Q) : IntsAt w (some ⟨g1, 0, none⟩) c ((List.range c).map fun j => (Q j).i) := by
  refine ⟨by simp, fun i hi => ⟨g1, 0, rfl, ?_⟩⟩
  rw [Nat.zero_add, h.cell1 hi]
  simp [hi]
theorem LoI.txts {w : World} {B g1 g2 c : Nat} {Q : Nat → Pc} (h : LoI w B g1 g2 c c Q) : TxtAt w (some ⟨g2, 0, none⟩) c (fun j => (Q j).b) := fun i hi => ⟨g2, 0, rfl, by
  rw [Nat.zero_add, h.cell2 hi]
  simp [hi]⟩
theorem lo_facts {w : World} {B g1 g2 c j : Nat} {Q : Nat → Pc} (h : LoI w B g1 g2 c j Q) (hj : j < c) : (∃ v, w.cell? ⟨g1, j, none⟩ = some v) ∧ w.frozen? ⟨g1, j, none⟩ = false ∧ (∃ v, w.cell? ⟨g2, j, none⟩ = some v) ∧ w.frozen? ⟨g2, j, none⟩ = false ∧
    (∃ v, (w.setCell ⟨g1, j, none⟩ (.int .i64 (Q j).i)).cell? ⟨g2, j, none⟩ = some v) ∧ (w.setCell ⟨g1, j, none⟩ (.int .i64 (Q j).i)).frozen? ⟨g2, j, none⟩ = false ∧
    (∃ v, (w.setCell ⟨g2, j, none⟩ (.string (Q j).b)).cell? ⟨g1, j, none⟩ = some v) ∧ (w.setCell ⟨g2, j, none⟩ (.string (Q j).b)).frozen? ⟨g1, j, none⟩ = false := by
  have s1 := World.ownsRow.stored h.1 j (.int .i64 (Q j).i)
  have k2 := World.ownsRow.kept h.2.1 s1.2 (.inr (by intro e; exact h.2.2 (by simpa [Value.ownBlock] using e.symm)))
  have s2 := World.ownsRow.stored h.2.1 j (.string (Q j).b)
  have k1 := World.ownsRow.kept h.1 s2.2 (.inr (by intro e; exact h.2.2 (by simpa [Value.ownBlock] using e)))
  exact ⟨⟨_, h.cell1 hj⟩, World.ownsRow.frozenAt h.1 j, ⟨_, h.cell2 hj⟩, World.ownsRow.frozenAt h.2.1 j,
    ⟨_, (World.ownsRow.cellAt k2 j (by omega)).trans (sL_get _ _ _ hj)⟩, World.ownsRow.frozenAt k2 j, ⟨_, (World.ownsRow.cellAt k1 j (by omega)).trans (zL_get _ _ _ hj)⟩, World.ownsRow.frozenAt k1 j⟩
set_option maxHeartbeats 4000000 in
theorem laidOut_any (g c cc : Nat) (Q : Nat → Pc) (A : Nat → Option Addr) (C : Nat → Nat) (w : World) (hcell : ∀ j q, j < c → q < 6 → w.cell? ⟨g, j * 6 + q, none⟩ = some (cel (Q j) (.slice (A j) (Q j).m (C j)) q)) (hc : c ≤ 64) :
    Calls Tryz.prog 46 #[.slice (some ⟨g, 0, none⟩) c cc] w fun e w' => ∃ g1 g2, e = .returned (.tuple #[.slice (some ⟨g1, 0, none⟩) c c, .slice (some ⟨g2, 0, none⟩) c c]) ∧ IntsAt w' (some ⟨g1, 0, none⟩) c ((List.range c).map fun j => (Q j).i) ∧ TxtAt w' (some ⟨g2, 0, none⟩) c (fun j => (Q j).b) ∧ Below w.heap.size w w' := by
  have mI := makeI c hc
  have mS := makeS c hc
  go_enter Tryz.func46, Tryz.ntmps46
  have K1 := LoI.first w c Q hc
  have K2 := LoI.second w c Q hc
  have B1 : Below w.heap.size w ((w.alloc (.cells (madeCells #[.int .i64 0] c) 3)).alloc (.cells (madeCells #[.string ByteArray.empty] c) 9)) := ((Below.refl _ _).alloc (Nat.le_refl _) _).alloc (by simp) _
  have B2 : Below w.heap.size w ((w.alloc (.cells (madeCells #[.string ByteArray.empty] c) 9)).alloc (.cells (madeCells #[.int .i64 0] c) 3)) := ((Below.refl _ _).alloc (Nat.le_refl _) _).alloc (by simp) _
  have HK : Hid (LoI ((w.alloc (.cells (madeCells #[.int .i64 0] c) 3)).alloc (.cells (madeCells #[.string ByteArray.empty] c) 9)) w.heap.size w.heap.size (w.heap.size + 1) c 0 Q ∧ LoI ((w.alloc (.cells (madeCells #[.string ByteArray.empty] c) 9)).alloc (.cells (madeCells #[.int .i64 0] c) 3)) w.heap.size (w.heap.size + 1) w.heap.size c 0 Q ∧ Below w.heap.size w ((w.alloc (.cells (madeCells #[.int .i64 0] c) 3)).alloc (.cells (madeCells #[.string ByteArray.empty] c) 9)) ∧ Below w.heap.size w ((w.alloc (.cells (madeCells #[.string ByteArray.empty] c) 9)).alloc (.cells (madeCells #[.int .i64 0] c) 3))) := ⟨K1, K2, B1, B2⟩
  have HCe : Hid (∀ j q, j < c → q < 6 → w.cell? ⟨g, j * 6 + q, none⟩ = some (cel (Q j) (.slice (A j) (Q j).m (C j)) q)) := hcell
  clear K1 K2 B1 B2 hcell
  go_wp2
  go_cut [4, 5] from 8 to 13 (fun v4 v5 wx => ∃ g1 g2, v4 = .slice (some ⟨g1, 0, none⟩) c c ∧ v5 = .slice (some ⟨g2, 0, none⟩) c c ∧ LoI wx w.heap.size g1 g2 c 0 Q ∧ Below w.heap.size w wx)
  case first =>
    go_region
    all_goals
      go_wp2_with fail
      go_meet
    · exact ⟨_, _, rfl, rfl, HK.out.1, HK.out.2.2.1.drew⟩
    · exact ⟨_, _, rfl, rfl, HK.out.2.1, HK.out.2.2.2.drew⟩
  case rest =>
    obtain ⟨g1, g2, rfl, rfl, hlo, hb⟩ := hcut
    have KL : Hid (LoI wc w.heap.size g1 g2 c 0 Q ∧ Below w.heap.size w wc) := ⟨hlo, hb⟩
    clear hlo hb HK mI mS
    go_wp2
    go_loopw [16] (fun vi wr => ∃ j : Nat, j ≤ c ∧ vi = .int .i64 (j : Int) ∧ LoI wr w.heap.size g1 g2 c j Q ∧ Below w.heap.size w wr) (fun vi _ => c - (intOf vi).toNat)
    case atStart => exact ⟨0, Nat.zero_le _, rfl, KL.out.1, KL.out.2⟩
    case round =>
      obtain ⟨j, hjc, rfl, hl, hbel⟩ := hrel
      clear KL
      by_cases hlt : j < c
      · have hji : (j : Int) < (c : Int) := by omega
        have hx := fun q (hq : q < 6) => (hbel.cell (p := ⟨g, j * 6 + q, none⟩) (block_lt_of_cell (HCe.out j q hlt hq))).trans (HCe.out j q hlt hq)
        have lg := hl.lt
        obtain ⟨⟨o1, f1⟩, f2, ⟨o2, f3⟩, f4, ⟨o3, f5⟩, f6, ⟨o4, f7⟩, f8⟩ := lo_facts hl hlt
        have HN : Hid (LoI _ w.heap.size g1 g2 c (j + 1) Q ∧ LoI _ w.heap.size g1 g2 c (j + 1) Q) := ⟨(hl.set12 hlt).alloc (.cells (pcC (Q j).r (Q j).k (Q j).n (Q j).i (Q j).b (.slice (A j) (Q j).m (C j))) 49), (hl.set21 hlt).alloc (.cells (pcC (Q j).r (Q j).k (Q j).n (Q j).i (Q j).b (.slice (A j) (Q j).m (C j))) 49)⟩
        have b12 := (hbel.setCell (p := ⟨g1, j, none⟩) lg.1.1 (.int .i64 (Q j).i)).setCell (p := ⟨g2, j, none⟩) lg.2.1 (.string (Q j).b)
        have b21 := (hbel.setCell (p := ⟨g2, j, none⟩) lg.2.1 (.string (Q j).b)).setCell (p := ⟨g1, j, none⟩) lg.1.1 (.int .i64 (Q j).i)
        have HB : Hid (Below w.heap.size w _ ∧ Below w.heap.size w _) := ⟨(b12.alloc b12.size (.cells (pcC (Q j).r (Q j).k (Q j).n (Q j).i (Q j).b (.slice (A j) (Q j).m (C j))) 49)).drew, (b21.alloc b21.size (.cells (pcC (Q j).r (Q j).k (Q j).n (Q j).i (Q j).b (.slice (A j) (Q j).m (C j))) 49)).drew⟩
        have x0 := hx 0 (by omega)
        have x1 := hx 1 (by omega)
        have x2 := hx 2 (by omega)
        have x3 := hx 3 (by omega)
        have x4 := hx 4 (by omega)
        have x5 := hx 5 (by omega)
        simp only [cel, Nat.add_zero] at x0 x1 x2 x3 x4 x5
        clear hx hl hbel b12 b21
        go_wp2
        go_region
        go_wp2
        go_roundw
        case rel => exact ⟨j + 1, by omega, by go_num, HN.out.1, HB.out.1⟩
        case measure => simp [intOf]; omega
      · obtain rfl : j = c := by omega
        have HL : Hid (LoI wr w.heap.size g1 g2 j j Q) := hl
        clear hl
        go_wp2
        go_ret2
        exact ⟨g1, g2, rfl, HL.out.ints, HL.out.txts, hbel⟩
end Go.Proofs.YtodpgbmpfflkoaaGreatDoor
/- What was picked, made whole, in the program: completed. -/
namespace Go.Proofs.YtodpgbmpfflkoaaGreatDoor
set_option maxRecDepth 2000
open Go.ChangeShapes Go.WideShapes Go.ChangeAt Go.RowKit

/-- The places and the bodies of the first c pieces. -/
def zsQ (c : Nat) (Q : Nat → Pc) : List Int := (List.range c).map fun j => (Q j).i
def sQ (Q : Nat → Pc) (j : Nat) : ByteArray := (Q j).b
/-- The bodies of all places, and their root. -/
noncomputable def alQ (c : Nat) (Q : Nat → Pc) : Nat → ByteArray := bdS (Q 0).k (Q 0).n (zsQ c Q) (sQ Q)
noncomputable def rtQ (c : Nat) (Q : Nat → Pc) : ByteArray := rtS (Q 0).n.toNat (lvs (Q 0).k (Q 0).n.toNat (alQ c Q))
def Cm (root : ByteArray) (c : Nat) (Q : Nat → Pc) : Prop := Rgt (Q 0).k (Q 0).n (zsQ c Q) c (sQ Q) ∧ rtQ c Q = root

set_option maxHeartbeats 4000000 in
theorem completed_any (root : ByteArray) (g c cc : Nat) (Q : Nat → Pc) (A : Nat → Option Addr) (C : Nat → Nat) (w : World) (hcell : ∀ j q, j < c → q < 6 → w.cell? ⟨g, j * 6 + q, none⟩ = some (cel (Q j) (.slice (A j) (Q j).m (C j)) q)) (hc0 : 0 < c) (hc : c ≤ 64) (hS : (Q 0).b.size ≤ 1048576) :
    Calls Tryz.prog 45 #[.string root, .slice (some ⟨g, 0, none⟩) c cc] w fun e w' => Below w.heap.size w w' ∧ ((¬ Cm root c Q ∧ e = .panicked (failC 2)) ∨ (Cm root c Q ∧ ∃ (a2 : Option Addr) (cap2 G : Nat), e = .returned (.agg #[.int .i64 (Q 0).k, .slice a2 (Q 0).n.toNat cap2, .slice (some ⟨G, 0, none⟩) (Q 0).n.toNat (Q 0).n.toNat, .string root]) ∧
      OwnT w' w.heap.size a2 (Q 0).n.toNat cap2 (alQ c Q) ∧ OwnT w' w.heap.size (some ⟨G, 0, none⟩) (Q 0).n.toNat (Q 0).n.toNat (lvs (Q 0).k (Q 0).n.toNat (alQ c Q)))) := by
  obtain ⟨B, HB⟩ : ∃ x, Hid (x = w.heap.size) := ⟨_, rfl⟩
  obtain ⟨w0, HW0⟩ : ∃ x, Hid (x = w.alloc (.cells #[.int .i64 0, .slice none 0 0, .slice none 0 0, .string ⟨#[]⟩] 91)) := ⟨_, rfl⟩
  have HR0 : Hid (Row w0 B 91 #[.int .i64 0, .slice none 0 0, .slice none 0 0, .string ⟨#[]⟩]) := by show Row _ _ _ _; rw [HW0.out, HB.out]; exact Row.new w _ _
  have hb0 : Below w.heap.size w w0 := by rw [HW0.out]; exact (Below.refl _ _).alloc (Nat.le_refl _) _
  have hlt0 : B < w0.heap.size := HR0.out.lt
  have hBw : w.heap.size ≤ B := by rw [HB.out]; exact Nat.le_refl _
  have hs0 := hb0.size
  have HC0 : Hid (∀ j q, j < c → q < 6 → w0.cell? ⟨g, j * 6 + q, none⟩ = some (cel (Q j) (.slice (A j) (Q j).m (C j)) q)) := fun j q h1 h2 => (hb0.cell (p := ⟨g, j * 6 + q, none⟩) (block_lt_of_cell (hcell j q h1 h2))).trans (hcell j q h1 h2)
  have KB0 : Hid (Below w.heap.size w w0) := hb0
  have KLO : Hid _ := laidOut_any g c cc Q A C w0 HC0.out hc
  have HS : Hid ((Q 0).b.size ≤ 1048576) := hS
  have hci : (0 : Int) < (c : Int) := by omega
  clear hb0 hcell hS
  go_enter Tryz.func45, Tryz.ntmps45
  go_wp2_with fail
  rw [← HW0.out, ← HB.out]
  refine Calls.mono KLO.out ?_
  rintro e w1 ⟨g1, g2, rfl, hI1, hT1, hb1⟩
  have x1 := (hb1.cell (p := ⟨g, 0 * 6 + 1, none⟩) (block_lt_of_cell (HC0.out 0 1 hc0 (by omega)))).trans (HC0.out 0 1 hc0 (by omega))
  have x2 := (hb1.cell (p := ⟨g, 0 * 6 + 2, none⟩) (block_lt_of_cell (HC0.out 0 2 hc0 (by omega)))).trans (HC0.out 0 2 hc0 (by omega))
  simp only [cel, Nat.zero_mul, Nat.zero_add] at x1 x2
  have KBD : Hid (∀ W, Below w1.heap.size w1 W → Calls Tryz.prog 69 #[.int .i64 (Q 0).k, .int .i64 (Q 0).n, .slice (some ⟨g1, 0, none⟩) c c, .slice (some ⟨g2, 0, none⟩) c c] W fun e w' => ∃ v, e = .returned (.tuple #[v, .bool (rgt (Q 0).k (Q 0).n (zsQ c Q) c (sQ Q))]) ∧ ResT W w' v (bdR (Q 0).k (Q 0).n (zsQ c Q) c (sQ Q)) (alQ c Q) ∧ Below W.heap.size W w') := fun W hW => bodies_any (Q 0).k (Q 0).n (some ⟨g1, 0, none⟩) c c (zsQ c Q) (some ⟨g2, 0, none⟩) c c (sQ Q) W (hI1.below hW) (hT1.below hW) (by omega) (by omega) (fun _ => HS.out)
  have HR1 : Hid (Row w1 B 91 #[.int .i64 0, .slice none 0 0, .slice none 0 0, .string ⟨#[]⟩]) := HR0.out.below hb1 hlt0
  have KB1 : Hid (Below w.heap.size w w1) := below2 KB0.out hb1
  have lB1 : B < w1.heap.size := HR1.out.lt
  clear hI1 hT1 hb1 KLO HR0 KB0
  go_wp2_with fail
  go_cut [7, 8] from 15 to 28 (fun v7 v8 wx => Hid (Below w1.heap.size w1 wx ∧ ∃ a2 cap2, v8 = .bool (rgt (Q 0).k (Q 0).n (zsQ c Q) c (sQ Q)) ∧ v7 = .slice a2 (bdR (Q 0).k (Q 0).n (zsQ c Q) c (sQ Q)) cap2 ∧ OwnT wx w1.heap.size a2 (bdR (Q 0).k (Q 0).n (zsQ c Q) c (sQ Q)) cap2 (alQ c Q)))
  case first =>
    go_region_with ((go_at_call 69; refine Calls.mono (KBD.out _ ⟨rfl, rfl, rfl, Nat.le_refl _, fun _ _ => rfl⟩) ?_; rintro e w2 ⟨v2, rfl, hR2, hb2⟩; obtain ⟨a2, cap2, rfl, hO2⟩ := hR2; have HF : Hid (Below w1.heap.size w1 w2 ∧ OwnT w2 w1.heap.size a2 (bdR (Q 0).k (Q 0).n (zsQ c Q) c (sQ Q)) cap2 (alQ c Q)) := ⟨below_of_drew hb2, hO2⟩; have z1 := (HF.out.1.cell (p := ⟨g, 1, none⟩) (block_lt_of_cell x1)).trans x1; have z2 := (HF.out.1.cell (p := ⟨g, 2, none⟩) (block_lt_of_cell x2)).trans x2; clear hb2 hO2))
    all_goals
      go_wp2_with fail
      go_meet
      exact ⟨HF.out.1, a2, cap2, rfl, rfl, HF.out.2⟩
  obtain ⟨hb12, a2, cap2, rfl, rfl, hO2⟩ := hcut.out
  clear hcut
  have HR2 : Hid (Row wc B 91 #[.int .i64 0, .slice none 0 0, .slice none 0 0, .string ⟨#[]⟩]) := HR1.out.below hb12 HR1.out.lt
  have y1 := (hb12.cell (p := ⟨g, 1, none⟩) (block_lt_of_cell x1)).trans x1
  have KB2 : Hid (Below w.heap.size w wc) := below2 KB1.out hb12
  have HO2 : Hid (OwnT wc w.heap.size a2 (bdR (Q 0).k (Q 0).n (zsQ c Q) c (sQ Q)) cap2 (alQ c Q)) := OwnT.base hO2 KB1.out.size
  have HO2b : Hid (OwnT wc w1.heap.size a2 (bdR (Q 0).k (Q 0).n (zsQ c Q) c (sQ Q)) cap2 (alQ c Q)) := hO2
  clear hb12 hO2 x1 x2 KBD HR1
  by_cases hr : Rgt (Q 0).k (Q 0).n (zsQ c Q) c (sQ Q)
  case neg =>
    rw [rgt_no hr]
    have KN : Hid _ := need_no 2 wc
    have hno : ¬ Cm root c Q := fun h => hr h.1
    clear y1 HR2
    go_wp2_with fail
    refine Calls.mono KN.out ?_
    rintro e w' ⟨rfl, rfl⟩
    go_wp2
    simp [bodyPost, hno]
    exact KB2.out
  rw [rgt_yes hr]
  have hpar := sprOk_parts hr.1
  have hR : bdR (Q 0).k (Q 0).n (zsQ c Q) c (sQ Q) = (Q 0).n.toNat := by unfold bdR; rw [rgt_yes hr, if_pos rfl]
  rw [hR] at HO2 HO2b ⊢
  have KN : Hid _ := need_ok 2 wc
  have HNL : Hid ((Q 0).n.toNat ≤ 64) := by show (Q 0).n.toNat ≤ 64; omega
  have KBI : Hid (Calls Tryz.prog 70 #[.int .i64 (Q 0).k, .slice a2 (Q 0).n.toNat cap2] wc fun e w' => ∃ G, e = .returned (.agg #[.int .i64 (Q 0).k, .slice a2 (Q 0).n.toNat cap2, .slice (some ⟨G, 0, none⟩) (Q 0).n.toNat (Q 0).n.toNat, .string (rtQ c Q)]) ∧ OwnT w' wc.heap.size (some ⟨G, 0, none⟩) (Q 0).n.toNat (Q 0).n.toNat (lvs (Q 0).k (Q 0).n.toNat (alQ c Q)) ∧ Below wc.heap.size wc w') := bind_any (Q 0).k a2 (Q 0).n.toNat cap2 (alQ c Q) wc (OwnT.at HO2.out) HNL.out (fun i _ => by unfold alQ bdS; rw [bod_size]; exact HS.out)
  have HCm : Hid (Cm root c Q ↔ rtQ c Q = root) := ⟨fun h => h.2, fun h => ⟨hr, h⟩⟩
  generalize rtQ c Q = rt at KBI HCm
  clear hr hR hpar HNL
  go_wp2_with fail
  refine Calls.mono KN.out ?_
  rintro e w' ⟨rfl, rfl⟩
  go_wp2_with fail
  refine Calls.mono KBI.out ?_
  rintro e w3 ⟨G, rfl, hO3, hb3⟩
  obtain ⟨D, HD⟩ : ∃ x, Hid (x = w3.heap.size) := ⟨_, rfl⟩
  obtain ⟨w4, HW4⟩ : ∃ x, Hid (x = w3.alloc (.cells #[.int .i64 (Q 0).k, .slice a2 (Q 0).n.toNat cap2, .slice (some ⟨G, 0, none⟩) (Q 0).n.toNat (Q 0).n.toNat, .string rt] 91)) := ⟨_, rfl⟩
  have HR4 : Hid (Row w4 D 91 #[.int .i64 (Q 0).k, .slice a2 (Q 0).n.toNat cap2, .slice (some ⟨G, 0, none⟩) (Q 0).n.toNat (Q 0).n.toNat, .string rt]) := by show Row _ _ _ _; rw [HW4.out, HD.out]; exact Row.new w3 _ _
  have b34 : Below w3.heap.size w3 w4 := by rw [HW4.out]; exact (Below.refl _ _).alloc (Nat.le_refl _) _
  have b24 := below2 hb3 b34
  have lB := HR2.out.lt
  have HRB : Hid (Row w4 B 91 #[.int .i64 0, .slice none 0 0, .slice none 0 0, .string ⟨#[]⟩]) := HR2.out.below b24 lB
  have KB4 : Hid (Below w.heap.size w w4) := below2 KB2.out b24
  have hGl := World.ownsRow.lt hO3 G rfl
  have hGB : G ≠ B := by omega
  have hA2 : ∀ x, a2 = some x → x.block ≠ B := fun x e => by
    subst e
    have h1 := (World.ownsRow.lt HO2b.out x.block rfl).1
    omega
  have HO4 : Hid (OwnT w4 w.heap.size a2 (Q 0).n.toNat cap2 (alQ c Q)) := HO2.out.below b24
  have HO5 : Hid (OwnT w4 w.heap.size (some ⟨G, 0, none⟩) (Q 0).n.toNat (Q 0).n.toNat (lvs (Q 0).k (Q 0).n.toNat (alQ c Q))) := OwnT.base (hO3.below b34) KB2.out.size
  have q0 := HRB.out.cell 0
  have q1 := HRB.out.cell 1
  have q2 := HRB.out.cell 2
  have q3 := HRB.out.cell 3
  have f0 := HRB.out.free 0
  have f1 := HRB.out.free 1
  have f2 := HRB.out.free 2
  have f3 := HRB.out.free 3
  have r0 := HR4.out.cell 0
  have r1 := HR4.out.cell 1
  have r2 := HR4.out.cell 2
  have r3 := HR4.out.cell 3
  simp at q0 q1 q2 q3 r0 r1 r2 r3
  clear hO3 hb3 b34 b24 y1 KBI KN
  by_cases he : rt = root
  case neg =>
    have nr : (rt.toList == root.toList) = false := ba_ne he
    have hno : ¬ Cm root c Q := fun h => he (HCm.out.1 h)
    have KN : Hid _ := need_no 2 w4
    go_wp2_with fail
    rw [← HW4.out]
    refine Calls.mono KN.out ?_
    rintro e w' ⟨rfl, rfl⟩
    clear q0 q1 q2 q3 r0 r1 r2 r3
    go_wp2
    simp [bodyPost, hno]
    exact KB4.out
  subst he
  have nr := ba_beq rt
  have hyes : Cm rt c Q := HCm.out.2 rfl
  have KN : Hid _ := need_ok 2 w4
  go_wp2_with fail
  rw [← HW4.out, ← HD.out]
  refine Calls.mono KN.out ?_
  rintro e w' ⟨rfl, rfl⟩
  have ZR : Hid (Row ((((w'.setCell ⟨B, 0, none⟩ (.int .i64 (Q 0).k)).setCell ⟨B, 1, none⟩ (.slice a2 (Q 0).n.toNat cap2)).setCell ⟨B, 2, none⟩ (.slice (some ⟨G, 0, none⟩) (Q 0).n.toNat (Q 0).n.toNat)).setCell ⟨B, 3, none⟩ (.string rt)) B 91 #[.int .i64 (Q 0).k, .slice a2 (Q 0).n.toNat cap2, .slice (some ⟨G, 0, none⟩) (Q 0).n.toNat (Q 0).n.toNat, .string rt]) := (((HRB.out.set 0 _).set 1 _).set 2 _).set 3 _
  have set1 : ∀ (W : World) (o : Nat) (v : Value), OwnT W w.heap.size (some ⟨G, 0, none⟩) (Q 0).n.toNat (Q 0).n.toNat (lvs (Q 0).k (Q 0).n.toNat (alQ c Q)) → OwnT (W.setCell ⟨B, o, none⟩ v) w.heap.size (some ⟨G, 0, none⟩) (Q 0).n.toNat (Q 0).n.toNat (lvs (Q 0).k (Q 0).n.toNat (alQ c Q)) := fun W o v hW => own_kept hW (grown_set _ _ _ _) (fun x e => by cases e; exact hGB)
  have set2 : ∀ (W : World) (o : Nat) (v : Value), OwnT W w.heap.size a2 (Q 0).n.toNat cap2 (alQ c Q) → OwnT (W.setCell ⟨B, o, none⟩ v) w.heap.size a2 (Q 0).n.toNat cap2 (alQ c Q) := fun W o v hW => own_kept hW (grown_set _ _ _ _) hA2
  have ZO : Hid (OwnT ((((w'.setCell ⟨B, 0, none⟩ (.int .i64 (Q 0).k)).setCell ⟨B, 1, none⟩ (.slice a2 (Q 0).n.toNat cap2)).setCell ⟨B, 2, none⟩ (.slice (some ⟨G, 0, none⟩) (Q 0).n.toNat (Q 0).n.toNat)).setCell ⟨B, 3, none⟩ (.string rt)) w.heap.size (some ⟨G, 0, none⟩) (Q 0).n.toNat (Q 0).n.toNat (lvs (Q 0).k (Q 0).n.toNat (alQ c Q))) := set1 _ _ _ (set1 _ _ _ (set1 _ _ _ (set1 _ _ _ HO5.out)))
  have ZA : Hid (OwnT ((((w'.setCell ⟨B, 0, none⟩ (.int .i64 (Q 0).k)).setCell ⟨B, 1, none⟩ (.slice a2 (Q 0).n.toNat cap2)).setCell ⟨B, 2, none⟩ (.slice (some ⟨G, 0, none⟩) (Q 0).n.toNat (Q 0).n.toNat)).setCell ⟨B, 3, none⟩ (.string rt)) w.heap.size a2 (Q 0).n.toNat cap2 (alQ c Q)) := set2 _ _ _ (set2 _ _ _ (set2 _ _ _ (set2 _ _ _ HO4.out)))
  clear set1 set2
  go_wp2
  refine bodyPost_ret (v := .agg #[.int .i64 (Q 0).k, .slice a2 (Q 0).n.toNat cap2, .slice (some ⟨G, 0, none⟩) (Q 0).n.toNat (Q 0).n.toNat, .string rt]) (results_cell_row Tryz.results45 _ _ B 91 _ (0, 0) _ (by simp) ZR.out Tryz.underlying91 (by rfl) Tryz.infoCut) rfl ⟨?_, .inr ⟨hyes, a2, cap2, G, rfl, ZA.out, ZO.out⟩⟩
  exact Below.setCell (Below.setCell (Below.setCell (Below.setCell KB4.out hBw _) hBw _) hBw _) hBw _
end Go.Proofs.YtodpgbmpfflkoaaGreatDoor
/- The bodies of all places out of the chosen, in the model: l07Bodies. Condition: 1 to 64 pieces. -/
namespace Go.Proofs.YtodpgbmpfflkoaaGreatDoor
set_option maxRecDepth 2000
open Go.ChangeShapes Go.WideShapes Go.ChangeAt Go.RowKit

theorem zL_snoc (f : Nat → Int) (n : Nat) : zL f (n + 1) = zL f n ++ [Value.int .i64 (f n)] := by
  unfold zL
  rw [List.range_succ, List.map_append]
  rfl
/-- The places and the bodies of the first j, as the model gathers them. -/
def SbI (w : World) (B g1 c1 g2 c2 j : Nat) (Q : Nat → Pc) : Prop := w.ownsRow B 3 1 (.slice (some ⟨g1, 0, none⟩) j c1) j (zL (fun x => (Q x).i) j) ∧ OwnT w B (some ⟨g2, 0, none⟩) j c2 (sQ Q) ∧ g1 ≠ g2
theorem SbI.ints {w : World} {B g1 c1 g2 c2 j : Nat} {Q : Nat → Pc} (h : SbI w B g1 c1 g2 c2 j Q) : IntsAt w (some ⟨g1, 0, none⟩) j (zsQ j Q) := by
  refine ⟨by simp [zsQ], fun i hi => ⟨g1, 0, rfl, ?_⟩⟩
  rw [Nat.zero_add, World.ownsRow.cellAt h.1 i (by omega), zL_get _ _ _ hi]
  simp [zsQ, hi]
theorem own_ne {g1 g2 g3 H j c1 : Nat} (hat : (Value.slice (some ⟨g1, 0, none⟩) j c1).ownBlock = some g3 ∨ g3 = H) (h : g1 ≠ g2) (h2 : g2 < H) : g3 ≠ g2 := by
  rcases hat with e | e
  · have e' : g1 = g3 := by simpa [Value.ownBlock] using e
    omega
  · omega
set_option maxHeartbeats 4000000 in
theorem sBod_any (root : ByteArray) (g c cc : Nat) (Q : Nat → Pc) (A : Nat → Option Addr) (C : Nat → Nat) (w : World) (hcell : ∀ j q, j < c → q < 6 → w.cell? ⟨g, j * 6 + q, none⟩ = some (cel (Q j) (.slice (A j) (Q j).m (C j)) q)) (hc0 : 0 < c) (hc : c ≤ 64) (hS : (Q 0).b.size ≤ 1048576) :
    Calls Tryz.prog 35 #[.string root, .slice (some ⟨g, 0, none⟩) c cc] w fun e w' => Below w.heap.size w w' ∧ ((¬ Cm root c Q ∧ ∃ g', e = .returned (.tuple #[.slice (some ⟨g', 0, none⟩) 0 0, .int .i64 2])) ∨ (Cm root c Q ∧ ∃ v, e = .returned (.tuple #[v, .int .i64 0]) ∧ ResP w w' v (Q 0).n.toNat (cutP (Q 0).k (Q 0).n.toNat (alQ c Q)))) := by
  obtain ⟨i0, hi, hz0, hz1, hz2⟩ := info_parts Tryz.infoInt
  obtain ⟨j0, hj, hy0, hy1, hy2⟩ := info_parts Tryz.infoStr
  have HCe : Hid (∀ j q, j < c → q < 6 → w.cell? ⟨g, j * 6 + q, none⟩ = some (cel (Q j) (.slice (A j) (Q j).m (C j)) q)) := hcell
  have hci : (0 : Int) < (c : Int) := by omega
  clear hcell
  go_enter Tryz.func35, Tryz.ntmps35
  go_wp2
  go_loopw [6, 7, 8] (fun v6 v7 v8 wr => ∃ j g1 c1 g2 c2 : Nat, j ≤ c ∧ v8 = .int .i64 (j : Int) ∧ v6 = .slice (some ⟨g1, 0, none⟩) j c1 ∧ v7 = .slice (some ⟨g2, 0, none⟩) j c2 ∧ SbI wr w.heap.size g1 c1 g2 c2 j Q ∧ Below w.heap.size w wr) (fun _ _ v8 _ => c - (intOf v8).toNat)
  case atStart =>
    refine ⟨0, w.heap.size, 0, w.heap.size + 1, 0, Nat.zero_le _, rfl, rfl, rfl, ⟨World.ownsRow.alloc (World.ownsRow_lit w #[] 0 (Nat.le_refl _) (by unfold maxLen; omega) (by simp)) _, ?_, by omega⟩, ((Below.refl _ _).alloc (Nat.le_refl _) _).alloc (by simp) _⟩
    have := OwnT.base (litT (w.alloc (.cells #[] 3)) (sQ Q)) (B' := w.heap.size) (by simp)
    simpa using this
  case round =>
    obtain ⟨j, g1, c1, g2, c2, hjc, rfl, rfl, rfl, hl, hbel⟩ := hrel
    by_cases hlt : j < c
    · have hji : (j : Int) < (c : Int) := by omega
      have hsz := hbel.size
      have lg1 := World.ownsRow.lt hl.1 g1 rfl
      have lg2 := World.ownsRow.lt hl.2.1 g2 rfl
      have lgs := block_lt_of_cell (HCe.out j 3 hlt (by omega))
      have x3 := (hbel.cell (p := ⟨g, j * 6 + 3, none⟩) (block_lt_of_cell (HCe.out j 3 hlt (by omega)))).trans (HCe.out j 3 hlt (by omega))
      have x4w := HCe.out j 4 hlt (by omega)
      simp only [cel] at x3 x4w
      have hgw : g < w.heap.size := lgs
      obtain ⟨ii, HI⟩ : ∃ x, Hid ((Q j).i = x) := ⟨_, rfl⟩
      obtain ⟨bb, HBB⟩ : ∃ x, Hid ((Q j).b = x) := ⟨_, rfl⟩
      rw [HI.out] at x3
      rw [HBB.out] at x4w
      have hgg := hl.2.2
      have HL : Hid (OwnT wr w.heap.size (some ⟨g2, 0, none⟩) j c2 (sQ Q)) := hl.2.1
      have HBel : Hid (Below w.heap.size w wr) := hbel
      have hl1 := hl.1
      clear hl hbel
      go_wp2_with (first | (guard_hyp KA; at_builtin; refine wpList_append_lies _ (by rfl) _ _ 46 (by rfl) w.heap.size 9 j0 (.string ByteArray.empty) 1 16 Tryz.underlying46 hj hy0 hy1 hy2 rfl (by decide) (.slice (some ⟨g2, 0, none⟩) j c2) j _ (by rfl) (World.ownsRow.alloc KA.out.2.1 _) ⟨w2.heap.size, 0, none⟩ 1 1 [.string bb] (by rfl) (by rfl) (World.news_of_block (cs := #[.string bb]) (t := 9) (fr := (0, 0)) (heap_alloc_new w2 _)) (by simp [Value.oneCell']) (by omega) (by unfold maxLen; omega) (by omega) (by simp; omega) (w2.heap.size + 1) (by simp) ?_; intro g4 c4 w3 hown3 hgrow3 hat3 hltg3) | (at_builtin; refine wpList_append_lies _ (by rfl) _ _ 23 (by rfl) w.heap.size 3 i0 (.int .i64 0) 1 8 Tryz.underlying23 hi hz0 hz1 hz2 rfl (by decide) (.slice (some ⟨g1, 0, none⟩) j c1) j _ (by rfl) (World.ownsRow.alloc hl1 _) ⟨wr.heap.size, 0, none⟩ 1 1 [.int .i64 ii] (by rfl) (by rfl) (World.news_of_block (cs := #[.int .i64 ii]) (t := 3) (fr := (0, 0)) (heap_alloc_new wr _)) (by simp [Value.oneCell']) (by omega) (by unfold maxLen; omega) (by omega) (by simp; omega) (wr.heap.size + 1) (by simp) ?_; intro g3 c3 w2 hown2 hgrow hat hltg; have hb2 : Below w.heap.size w w2 := (HBel.out.alloc hsz _).grown (show World.grownBy _ w2 (some g1) from hgrow) (by simp; omega) (fun x hx => by cases hx; exact lg1.1); have x4 := (hb2.cell (p := ⟨g, j * 6 + 4, none⟩) hgw).trans x4w; have KA : Hid (w2.ownsRow w.heap.size 3 1 (.slice (some ⟨g3, 0, none⟩) (j + 1) c3) (j + 1) (zL (fun x => (Q x).i) j ++ [.int .i64 ii]) ∧ OwnT w2 w.heap.size (some ⟨g2, 0, none⟩) j c2 (sQ Q) ∧ Below w.heap.size w w2) := ⟨hown2, World.ownsRow.kept (World.ownsRow.alloc HL.out _) (show World.grownBy _ w2 (some g1) from hgrow) (.inr (by intro e; exact hgg (by simpa [Value.ownBlock] using e.symm))), hb2⟩; have hg3 : g3 ≠ g2 := own_ne hat hgg (Nat.lt_succ_of_lt lg2.2); have hsz2 := hb2.size; have lg3 := (World.ownsRow.lt hown2 g3 rfl); have lg2' : g2 < w2.heap.size := (World.ownsRow.lt KA.out.2.1 g2 rfl).2; clear hown2 hgrow hat hb2 x3))
      have KF : Hid (SbI w3 w.heap.size g3 c3 g4 c4 (j + 1) Q ∧ Below w.heap.size w w3) := by
        refine ⟨⟨?_, ?_, ?_⟩, (KA.out.2.2.alloc hsz2 _).grown (show World.grownBy _ w3 (some g2) from hgrow3) (by simp; omega) (fun x hx => by cases hx; exact lg2.1)⟩
        · have := World.ownsRow.kept (World.ownsRow.alloc KA.out.1 _) (show World.grownBy _ w3 (some g2) from hgrow3) (.inr (by intro e; exact hg3 (by simpa [Value.ownBlock] using e)))
          rw [zL_snoc, HI.out]
          exact this
        · unfold OwnT
          rw [sL_snoc, show sQ Q j = bb from HBB.out]
          exact hown3
        · rcases hat3 with e | e
          · have e' : g2 = g4 := by simpa [Value.ownBlock] using e
            omega
          · omega
      clear hown3 hgrow3 hat3 KA x4 x4w hl1 HL
      go_roundw
      case rel => exact ⟨j + 1, g3, c3, g4, c4, by omega, by go_num, rfl, rfl, KF.out.1, KF.out.2⟩
      case measure => simp [intOf] <;> omega
    · obtain rfl : j = c := by omega
      have KI : Hid (IntsAt wr (some ⟨g1, 0, none⟩) j (zsQ j Q)) := hl.ints
      have KT : Hid (TxtAt wr (some ⟨g2, 0, none⟩) j (sQ Q)) := OwnT.at hl.2.1
      have KB : Hid (Below w.heap.size w wr) := hbel
      have x1 := (hbel.cell (p := ⟨g, 0 * 6 + 1, none⟩) (block_lt_of_cell (HCe.out 0 1 hc0 (by omega)))).trans (HCe.out 0 1 hc0 (by omega))
      have x2 := (hbel.cell (p := ⟨g, 0 * 6 + 2, none⟩) (block_lt_of_cell (HCe.out 0 2 hc0 (by omega)))).trans (HCe.out 0 2 hc0 (by omega))
      simp only [cel, Nat.zero_mul, Nat.zero_add] at x1 x2
      clear hl hbel hi hz0 hz1 hz2 hj hy0 hy1 hy2
      go_wp2_with fail
      go_quiet (fail)
      go_wp2_with fail
      have KBD : Hid _ := sBodies_any (Q 0).k (Q 0).n (some ⟨g1, 0, none⟩) j c1 (zsQ j Q) (some ⟨g2, 0, none⟩) j c2 (sQ Q) (wr.drewN nq) (KI.out.below (below_drewN (Below.refl _ _) _)) (KT.out.below (below_drewN (Below.refl _ _) _)) (fun _ => hS)
      refine Calls.mono KBD.out ?_
      rintro e w2 ⟨v2, rfl, hR2, hb2⟩
      obtain ⟨a2, cap2, rfl, hO2⟩ := hR2
      have hb12 : Below wr.heap.size wr w2 := below2 (below_drewN (Below.refl _ _) _) hb2
      have KB2 : Hid (Below w.heap.size w w2) := below2 KB.out hb12
      have HO2 : Hid (TxtAt w2 a2 (bdR (Q 0).k (Q 0).n (zsQ j Q) j (sQ Q)) (alQ j Q)) := OwnT.at hO2
      clear hb12 hb2 hO2 x1 x2 KBD KI KT
      by_cases hr : Rgt (Q 0).k (Q 0).n (zsQ j Q) j (sQ Q)
      case neg =>
        rw [rgt_no hr]
        have hno : ¬ Cm root j Q := fun h => hr h.1
        go_wp2
        go_ret2
        exact ⟨KB2.out.alloc KB2.out.size _, .inl ⟨hno, _, rfl⟩⟩
      rw [rgt_yes hr]
      have hpar := sprOk_parts hr.1
      have hR : bdR (Q 0).k (Q 0).n (zsQ j Q) j (sQ Q) = (Q 0).n.toNat := by unfold bdR; rw [rgt_yes hr, if_pos rfl]
      obtain ⟨N, HN⟩ : ∃ x, Hid ((Q 0).n.toNat = x) := ⟨_, rfl⟩
      have hnn : (Q 0).n = (N : Int) := by rw [← HN.out]; exact (Int.toNat_of_nonneg (by omega)).symm
      rw [hR, HN.out] at HO2
      rw [hR, HN.out]
      have hN : N ≤ 64 ∧ 0 < N := by omega
      have hNi : (0 : Int) < (N : Int) := by omega
      have KAL : Hid (Calls Tryz.prog 57 #[.slice a2 N cap2, .int .i64 (Q 0).k, .int .i64 (Q 0).n] w2 fun e w' => ∃ v, e = .returned v ∧ ResP w2 w' v N (cutP (Q 0).k N (alQ j Q)) ∧ Below w2.heap.size w2 w') := by
        show Calls _ _ _ _ _
        rw [hnn]
        exact sAll_any (Q 0).k a2 N cap2 (alQ j Q) w2 HO2.out hN.1 (fun i _ => by unfold alQ bdS; rw [bod_size]; exact hS)
      have HCm : Hid (Cm root j Q ↔ rtQ j Q = root) := ⟨fun h => h.2, fun h => ⟨hr, h⟩⟩
      have HRT : Hid ((cutP (Q 0).k N (alQ j Q) 0).r = rtQ j Q) := by show (cutP (Q 0).k N (alQ j Q) 0).r = rtQ j Q; unfold rtQ; rw [HN.out]; rfl
      clear hpar hR hr hnn
      go_wp2_with fail
      refine Calls.mono KAL.out ?_
      rintro e w3 ⟨v3, rfl, hP, hb3⟩
      obtain ⟨g5, c5, A5, C5, rfl, hO5⟩ := hP
      have y0 := OwnC.cell hO5.1 (i := 0) (q := 0) hN.2 (by omega)
      simp only [cel, Nat.zero_mul, Nat.zero_add] at y0
      rw [HRT.out] at y0
      have KB3 : Hid (Below w.heap.size w w3) := below2 KB2.out hb3
      have KP : Hid (ResP w w3 (.slice (some ⟨g5, 0, none⟩) N c5) N (cutP (Q 0).k N (alQ j Q))) := ⟨g5, c5, A5, C5, rfl, OwnP.base hO5 KB2.out.size⟩
      generalize rtQ j Q = rt at y0 HCm HRT
      clear hO5 hb3 KAL HRT
      by_cases he : rt = root
      · subst he
        have nr := ba_beq rt
        have HY : Hid (Cm rt j Q) := HCm.out.2 rfl
        clear HCm
        go_wp2
        go_ret2
        exact ⟨KB3.out, .inr ⟨HY.out, _, rfl, by rw [HN.out]; exact KP.out⟩⟩
      · have nr : (rt.toList == root.toList) = false := ba_ne he
        go_wp2
        go_ret2
        exact ⟨KB3.out.alloc KB3.out.size _, .inl ⟨fun h => he (HCm.out.1 h), _, rfl⟩⟩
end Go.Proofs.YtodpgbmpfflkoaaGreatDoor
