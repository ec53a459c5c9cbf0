/- The model's copy of a matrix and its rank. Conditions: at most 2^20 rows, at most 2^20 numbers a row. -/
import Derived.Test.YthnjhjgffkilcaaGreatDoorH30
import Derived.Test.YthnjhjgffkilcaaGreatDoorH29
import Derived.Test.YthnjhjgffkilcaaGreatDoorH31
import Derived.Test.YthnjhjgffkilcaaGreatDoorH9
import Derived.Test.YthnjhjgffkilcaaGreatDoorH27
import Derived.Test.YthnjhjgffkilcaaGreatDoorH25
import Derived.Test.YthnjhjgffkilcaaGreatDoorH22
import Derived.Deep.RegionLaw
import Derived.Deep.RegionHeld3
namespace Go.Proofs.YthnjhjgffkilcaaGreatDoor
set_option maxRecDepth 2000
open Go.ChangeShapes Go.WideShapes Go.ChangeAt Go.RowKit

theorem MatI.g {w : World} {B E : Nat} {a : Option Addr} {n cap : Nat} {A : Nat → Option Addr} {W : Nat} {C : Nat → Nat} {F : Nat → Nat → Nat} (h : MatI w B E a n cap A (fun _ => W) C (fun i j => ((F i j : Nat) : Int))) (hW : 0 < W) : ∃ g : Nat → Nat, MatI w B E a n cap (fun i => some ⟨g i, 0, none⟩) (fun _ => W) C (fun i j => ((F i j : Nat) : Int)) := by
  have hx : ∀ i, i < n → ∃ g, A i = some ⟨g, 0, none⟩ := fun i hi => by
    rcases own_shape (h.row i hi) with ⟨_, h0, _⟩ | ⟨g, _, e, _⟩
    · omega
    · exact ⟨g, e⟩
  refine ⟨fun i => if hi : i < n then Classical.choose (hx i hi) else 0, h.congr (fun i hi => ⟨?_, rfl, rfl, fun _ _ => rfl⟩)⟩
  simp only [hi, dif_pos]
  exact Classical.choose_spec (hx i hi)
end Go.Proofs.YthnjhjgffkilcaaGreatDoor
/- The program brings the rows of a matrix of its own into steps; its rank. Conditions: byte numbers, at most 2^20 rows and places. -/
namespace Go.Proofs.YthnjhjgffkilcaaGreatDoor
set_option maxRecDepth 2000
open Go.ChangeShapes Go.WideShapes Go.ChangeAt Go.RowKit

theorem stepEnter : ∀ args w, (callFunc 261 args).run Tryz.prog w = .ok (.enter 261 args) w := enters_of Tryz.func261 (by kernel_rfl) rfl
/-- The four variables, new. -/
def boxes (w : World) (G r cap n : Nat) : World := (((w.alloc (.cells #[.slice (some ⟨G, 0, none⟩) r cap] 256)).alloc (.cells #[.int .i64 (n : Int)] 3)).alloc (.cells #[.int .i64 0] 3)).alloc (.cells #[.int .i64 0] 3)
theorem boxes_below (w : World) (G r cap n : Nat) : Below w.heap.size w (boxes w G r cap n) :=
  ((((Below.refl _ _).alloc (Nat.le_refl _) _).alloc (by simp) _).alloc (by simp; omega) _).alloc (by simp; omega) _
theorem alloc_at (w : World) (o p : Obj) {b : Nat} (h : w.heap[b]? = some p) : (w.alloc o).heap[b]? = some p := by
  have hb := lt_of_block h
  rw [((Below.refl w.heap.size w).alloc (Nat.le_refl _) o).block b hb]
  exact h
theorem boxes_bs {Q : Nat → Prop} {w : World} {B G r cap W n : Nat} {g C : Nat → Nat} {A : Nat → Nat → Nat} (h : MatF w B w.heap.size G r cap g C W A) (hQ : ¬ Q G ∧ (∀ i, i < r → ¬ Q (g i)) ∧ ∀ b, Q b → b < w.heap.size) :
    BS Q (boxes w G r cap n) B w.heap.size G r cap W n (w.heap.size + 1 + 1 + 1) (w.heap.size + 1) (w.heap.size + 1 + 1) w.heap.size A 0 g C := by
  refine ⟨h.below (boxes_below w G r cap n), ?_, ?_, ?_, ?_, hQ.1, fun hh => by have := hQ.2.2 _ hh; omega, fun hh => by have := hQ.2.2 _ hh; omega, hQ.2.1⟩
  · have e : (((w.alloc (.cells #[.slice (some ⟨G, 0, none⟩) r cap] 256)).alloc (.cells #[.int .i64 (n : Int)] 3)).alloc (.cells #[.int .i64 0] 3)).heap.size = w.heap.size + 1 + 1 + 1 := by simp
    rw [← e]
    exact heap_alloc_new _ _
  · have e : (w.alloc (.cells #[.slice (some ⟨G, 0, none⟩) r cap] 256)).heap.size = w.heap.size + 1 := by simp
    rw [← e]
    exact alloc_at _ _ _ (alloc_at _ _ _ (heap_alloc_new _ _))
  · have e : ((w.alloc (.cells #[.slice (some ⟨G, 0, none⟩) r cap] 256)).alloc (.cells #[.int .i64 (n : Int)] 3)).heap.size = w.heap.size + 1 + 1 := by simp
    rw [← e]
    exact alloc_at _ _ _ (heap_alloc_new _ _)
  · exact alloc_at _ _ _ (alloc_at _ _ _ (alloc_at _ _ _ (heap_alloc_new w _)))
set_option maxHeartbeats 2000000 in
theorem bring_q (Q : Nat → Prop) (B G r cap W n : Nat) (g C : Nat → Nat) (A : Nat → Nat → Nat) (w : World) (h : MatF w B w.heap.size G r cap g C W A) (hA : Gm.Byt A) (hn : n ≤ W) (hW : W ≤ 1048576) (hr : r ≤ 1048576) (hQ : ¬ Q G ∧ (∀ i, i < r → ¬ Q (g i)) ∧ ∀ b, Q b → b < w.heap.size) :
    Calls Tryz.prog 234 #[.slice (some ⟨G, 0, none⟩) r cap, .int .i64 (n : Int)] w fun e w' => e = .returned (.int .i64 ((Gm.rd A r n).2 : Int)) ∧ (∃ g' C', MatF w' B w.heap.size G r cap g' C' W (Gm.rd A r n).1) ∧ Chg (fun b => B ≤ b ∧ ¬ Q b) w w' := by
  have hB : B ≤ w.heap.size := by have := h.olt; omega
  have K0 : Hid (BS Q (boxes w G r cap n) B w.heap.size G r cap W n (w.heap.size + 1 + 1 + 1) (w.heap.size + 1) (w.heap.size + 1 + 1) w.heap.size A 0 g C) := boxes_bs h hQ
  have KB0 : Hid (Chg (fun b => B ≤ b ∧ ¬ Q b) w (boxes w G r cap n)) := Chg.of_below _ (boxes_below w G r cap n)
  have KE : Hid (boxes w G r cap n = (((w.alloc (.cells #[.slice (some ⟨G, 0, none⟩) r cap] 256)).alloc (.cells #[.int .i64 (n : Int)] 3)).alloc (.cells #[.int .i64 0] 3)).alloc (.cells #[.int .i64 0] 3)) := rfl
  have KA : Hid (Gm.Byt A) := hA
  have eg := stepEnter
  clear h hA hQ
  go_enter Tryz.func234, Tryz.ntmps234
  go_wp2
  rw [← KE.out]
  clear KE
  obtain ⟨s0, hs0⟩ : ∃ s0, w.heap.size = s0 := ⟨_, rfl⟩
  rw [hs0] at K0 hB ⊢
  have KS : Hid (w.heap.size = s0) := hs0
  clear hs0
  go_loopg [9, 10] n (fun gk _ _ wr => ∃ k g C, k ≤ n ∧ n - k ≤ gk ∧ BS Q wr B s0 G r cap W n (s0 + 1 + 1 + 1) (s0 + 1) (s0 + 1 + 1) s0 A k g C ∧ Chg (fun b => B ≤ b ∧ ¬ Q b) w wr)
  case atStart => exact ⟨0, g, C, Nat.zero_le _, by omega, K0.out, KB0.out⟩
  case round =>
    obtain ⟨k, g1, C1, hk, hgk, hBS, hbel⟩ := hrel
    clear K0 KB0
    have hK := next_any Q B s0 G r cap W n (s0 + 1 + 1 + 1) (s0 + 1) (s0 + 1 + 1) s0 A k g1 C1 wr hBS KA.out hk hn hW hr hB (by omega) (by omega) (by omega) (Nat.le_refl _) (by omega) (by omega) (by omega) (by omega) (by omega) (by omega)
    have KK : Hid _ := hK
    clear hK hBS
    go_wp2_with fail
    refine Calls.mono KK.out ?_
    rintro e w2 (⟨k', g2, C2, h1, h2, rfl, hB2, hb2⟩ | ⟨rfl, hB2, hb2⟩)
    · have KB2 : Hid (BS Q w2 B s0 G r cap W n (s0 + 1 + 1 + 1) (s0 + 1) (s0 + 1 + 1) s0 A k' g2 C2) := hB2
      have KL2 : Hid (Chg (fun b => B ≤ b ∧ ¬ Q b) w w2) := hbel.trans hb2
      clear hB2 hb2 hbel KK
      go_wp2
      go_roundg (n - k')
      case measure => omega
      case rel => exact ⟨k', g2, C2, h2, Nat.le_refl _, KB2.out, KL2.out⟩
    · have cs := cell_of_one hB2.st
      have KB2 : Hid (BS Q w2 B s0 G r cap W n (s0 + 1 + 1 + 1) (s0 + 1) (s0 + 1 + 1) s0 A n g1 C1) := hB2
      have KL2 : Hid (Chg (fun b => B ≤ b ∧ ¬ Q b) w w2) := hbel.trans hb2
      clear hB2 hb2 hbel KK
      go_wp2
      go_ret
      refine ⟨rfl, ⟨g1, C1, ?_⟩, KL2.out⟩
      first | exact KB2.out.mat | (rw [KS.out]; exact KB2.out.mat)
end Go.Proofs.YthnjhjgffkilcaaGreatDoor
/- For every input: a matrix turned twice is itself, a product turned is that of the turned ones the other way round, no rank is above a side, and the program's answers are the model's. No condition. -/
namespace Go.Proofs.YthnjhjgffkilcaaGreatDoor
set_option maxRecDepth 2000
open Go.ChangeShapes Go.WideShapes Go.ChangeAt Go.RowKit

theorem rk_congr {A B : Nat → Nat → Nat} (hA : Gm.Byt A) (hB : Gm.Byt B) {r W : Nat} (h : ∀ i j, i < r → j < W → A i j = B i j) : Gm.rk A r W = Gm.rk B r W := by
  apply Nat.le_antisymm
  · obtain ⟨X, Y, hh⟩ := Gm.rk_fac hB r W
    exact Gm.rk_le hA (X := X) (Y := Y) (fun i j hi hj => (h i j hi hj).trans (hh i j hi hj))
  · obtain ⟨X, Y, hh⟩ := Gm.rk_fac hA r W
    exact Gm.rk_le hB (X := X) (Y := Y) (fun i j hi hj => (h i j hi hj).symm.trans (hh i j hi hj))
theorem bZ_at {r c : Nat} {F : Nat → Nat → Nat} {i j : Nat} (hi : i < r) (hj : j < c) (hF : F i j < 256) : bZ r (fun _ => c) (fun i j => ((F i j : Nat) : Int)) i j = F i j := by
  unfold bZ cZ
  rw [if_pos ⟨hi, hj⟩, Int.toNat_natCast, Nat.mod_eq_of_lt hF]
theorem okM_of {r c : Nat} {F : Nat → Nat → Nat} (h1 : 1 ≤ r) (h2 : r ≤ 16) (h3 : 1 ≤ c) (h4 : c ≤ 16) (hF : Gm.Byt F) : OkM r (fun _ => c) (fun i j => ((F i j : Nat) : Int)) :=
  ⟨h1, h2, h3, h4, fun i _ => ⟨rfl, fun j _ => isB_ofNat (hF i j)⟩⟩
theorem ResM.at {w w' : World} {v : Value} {r c : Nat} {F : Nat → Nat → Nat} (h : ResM w w' v r c F) : ∃ a cap, v = .slice a r cap ∧ MatAt w' a r (fun _ => c) (fun i j => ((F i j : Nat) : Int)) := by
  obtain ⟨a, cap, A, C, rfl, hM⟩ := h
  exact ⟨a, cap, rfl, hM.at⟩
end Go.Proofs.YthnjhjgffkilcaaGreatDoor
/- The program's inverse of a matrix. Conditions: at most 2^20 rows, at most 2^20 numbers a row. -/
namespace Go.Proofs.YthnjhjgffkilcaaGreatDoor
set_option maxRecDepth 2000
open Go.ChangeShapes Go.WideShapes Go.ChangeAt Go.RowKit

set_option maxHeartbeats 1000000 in
theorem inv1_any (pb sb n c i j : Nat) (F : Nat → Nat → Nat) (w : World) (h : RdU w pb n c F) (hs : w.cell? ⟨sb, 0, none⟩ = some (.int .i64 (n : Int))) (hi : i < n) (hj : n + j < c) (hc : c ≤ 1000) :
    Calls Tryz.prog 235 #[.int .i64 (i : Int), .int .i64 (j : Int), .pointer (some ⟨pb, 0, none⟩), .pointer (some ⟨sb, 0, none⟩)] w fun e w' => e = .returned (.int .u8 ((F i (n + j) : Nat) : Int)) ∧ Below w.heap.size w w' := by
  obtain ⟨G, cap, hp, hr⟩ := h
  obtain ⟨g, cc, hcl, he⟩ := hr i hi
  have hel := he (n + j) hj
  have hi' : (i : Int) < (n : Int) := by omega
  have hj' : (n : Int) + (j : Int) < (c : Int) := by omega
  have hw : IntKind.i64.wrap ((n : Int) + (j : Int)) = ((n + j : Nat) : Int) := by rw [IntKind.wrap_i64]; omega
  clear he hr
  generalize F i (n + j) = X at hel
  go_enter Tryz.func235, Tryz.ntmps235
  go_wp2
  go_quiet (fail)
  go_wp2
  go_ret
  exact ⟨rfl, below_drewN (Below.refl _ _) _⟩
theorem invEnter : ∀ args w, (callFunc 235 args).run Tryz.prog w = .ok (.enter 235 args) w := enters_of Tryz.func235 (by kernel_rfl) rfl
theorem invFill {pb sb n c : Nat} {F : Nat → Nat → Nat} {w : World} (h : RdU w pb n c F) (hs : w.cell? ⟨sb, 0, none⟩ = some (.int .i64 (n : Int))) (hc : c = n + n) (hn : n ≤ 16) : FillBy 235 #[.pointer (some ⟨pb, 0, none⟩), .pointer (some ⟨sb, 0, none⟩)] n n (fun i j => F i (n + j)) w := fun W i j hb hi hj =>
  inv1_any pb sb n c i j F W (h.below hb) ((hb.cell (p := ⟨sb, 0, none⟩) (block_lt_of_cell hs)).trans hs) hi (by omega) (by omega)
/-- The unit laid beside the matrix, up to place 'q' of row 'k'. -/
def wid (n k q i : Nat) : Nat := if i < k then n + n else if i = k then n + q else n
theorem aug_snoc (A : Nat → Nat → Nat) (n k q : Nat) : ((zI (fun j => ((Gm.aug A n k j : Nat) : Int)) (n + q)).map (Value.int .u8)) ++ [.int .u8 ((Gm.dl k q : Nat) : Int)] = (zI (fun j => ((Gm.aug A n k j : Nat) : Int)) (n + q + 1)).map (Value.int .u8) := by
  unfold zI
  rw [List.range_succ, List.map_append, List.map_append]
  have e : Gm.aug A n k (n + q) = Gm.dl k q := by unfold Gm.aug; rw [if_neg (by omega), show n + q - n = q by omega]
  simp [e]
/-- Whether there is an inverse. -/
def InvOk (n : Nat) (L : Nat → Nat) (Z : Nat → Nat → Int) : Prop := OkM n L Z ∧ n = L 0 ∧ Gm.rk (bZ n L Z) n n = n
noncomputable def ivOk (n : Nat) (L : Nat → Nat) (Z : Nat → Nat → Int) : Bool := @decide (InvOk n L Z) (Classical.propDecidable _)
theorem ivOk_yes {n : Nat} {L : Nat → Nat} {Z : Nat → Nat → Int} (h : InvOk n L Z) : ivOk n L Z = true := by unfold ivOk; exact @decide_eq_true _ (Classical.propDecidable _) h
theorem ivOk_no {n : Nat} {L : Nat → Nat} {Z : Nat → Nat → Int} (h : ¬ InvOk n L Z) : ivOk n L Z = false := by unfold ivOk; exact @decide_eq_false _ (Classical.propDecidable _) h
noncomputable def ivR (n : Nat) (L : Nat → Nat) (Z : Nat → Nat → Int) : Nat := if ivOk n L Z = true then n else 0
theorem ivR_yes {n : Nat} {L : Nat → Nat} {Z : Nat → Nat → Int} (h : InvOk n L Z) : ivR n L Z = n := by unfold ivR; rw [if_pos (ivOk_yes h)]
theorem ivR_no {n : Nat} {L : Nat → Nat} {Z : Nat → Nat → Int} (h : ¬ InvOk n L Z) : ivR n L Z = 0 := by unfold ivR; rw [if_neg (by rw [ivOk_no h]; simp)]
theorem MatU.g {w : World} {B E : Nat} {a : Option Addr} {n cap : Nat} {A : Nat → Option Addr} {W : Nat} {C : Nat → Nat} {F : Nat → Nat → Nat} (h : MatU w B E a n cap A (fun _ => W) C (fun i j => ((F i j : Nat) : Int))) (hW : 0 < W) : ∃ g : Nat → Nat, MatU w B E a n cap (fun i => some ⟨g i, 0, none⟩) (fun _ => W) C (fun i j => ((F i j : Nat) : Int)) := by
  have hx : ∀ i, i < n → ∃ g, A i = some ⟨g, 0, none⟩ := fun i hi => by
    rcases own_shape (h.row i hi) with ⟨_, h0, _⟩ | ⟨g, _, e, _⟩
    · omega
    · exact ⟨g, e⟩
  refine ⟨fun i => if hi : i < n then Classical.choose (hx i hi) else 0, h.congr (fun i hi => ⟨?_, rfl, rfl, fun _ _ => rfl⟩)⟩
  simp only [hi, dif_pos]
  exact Classical.choose_spec (hx i hi)
set_option maxRecDepth 100000 in
set_option maxHeartbeats 4000000 in
theorem inv_any' (a : Option Addr) (n ca : Nat) (L : Nat → Nat) (Z : Nat → Nat → Int) (w : World) (h : MatAt w a n L Z) (hL : ∀ i, i < n → L i ≤ 1048576) :
    Calls Tryz.prog 189 #[.slice a n ca] w fun e w' => ∃ v, e = .returned (.tuple #[v, .bool (ivOk n L Z)]) ∧ ResM w w' v (ivR n L Z) n (Gm.iv (bZ n L Z) n) ∧ Below w.heap.size w w' := by
  by_cases ok : OkM n L Z
  case neg =>
    have KR : Hid _ := readM_no a n ca L Z w h hL ok
    rw [ivOk_no (fun hh => ok hh.1), ivR_no (fun hh => ok hh.1)]
    clear h hL ok
    go_enter Tryz.func189, Tryz.ntmps189
    go_wp2_with fail
    refine Calls.mono KR.out ?_
    rintro e w2 ⟨rfl, hb2⟩
    go_wp2
    go_quiet (fail)
    go_wp2
    go_ret2
    exact ⟨_, rfl, ResM.none _ _ _ _, below_drewN (below2 hb2 ((Below.refl _ _).alloc (Nat.le_refl _) _)) _⟩
  have KR : Hid _ := readM_b a n ca L Z w h ok
  have hn1 : 1 ≤ n := ok.1
  have hn2 : n ≤ 16 := ok.2.1
  have hl1 : 1 ≤ L 0 := ok.2.2.1
  have hl2 : L 0 ≤ 16 := ok.2.2.2.1
  have KBY : Hid (Gm.Byt (bZ n L Z)) := bZ_byt n L Z
  have KY : Hid (n = L 0 → Gm.rk (bZ n L Z) n n = n → ivOk n L Z = true ∧ ivR n L Z = n) := fun e1 e2 => ⟨ivOk_yes ⟨ok, e1, e2⟩, ivR_yes ⟨ok, e1, e2⟩⟩
  have KN : Hid (¬ (n = L 0 ∧ Gm.rk (bZ n L Z) n n = n) → ivOk n L Z = false ∧ ivR n L Z = 0) := fun hno => ⟨ivOk_no (fun hh => hno hh.2), ivR_no (fun hh => hno hh.2)⟩
  generalize ivOk n L Z = okf at KY KN
  generalize ivR n L Z = R at KY KN
  generalize bZ n L Z = P at KR KBY KY KN
  clear h hL ok
  generalize L 0 = l at *
  by_cases hnl : n = l
  case neg =>
    obtain ⟨rfl, rfl⟩ := KN.out (fun hh => hnl hh.1)
    have hne : ((n : Int) != (l : Int)) = true := by simp; omega
    have hn0' : 0 < n := by omega
    go_enter Tryz.func189, Tryz.ntmps189
    go_wp2_with fail
    refine Calls.mono KR.out ?_
    rintro e w2 ⟨rfl, ⟨g, hM⟩, hb2⟩
    have hb3 : Below w2.heap.size w2 (w2.alloc (.cells #[.slice (some ⟨w.heap.size, 0, none⟩) n n] 256)) := (Below.refl _ _).alloc (Nat.le_refl _) _
    have hp := boxed w2 (.slice (some ⟨w.heap.size, 0, none⟩) n n) 256
    have hd0 := (hM.below hb3).hdr (i := 0) (by omega)
    clear hM
    generalize g 0 = g0 at hd0
    go_wp2
    go_quiet (fail)
    go_wp2
    go_ret2
    exact ⟨_, rfl, ResM.none _ _ _ _, below_drewN (below2 hb2 hb3) _⟩
  subst hnl
  obtain ⟨i0, hi, hz0, hz1, hz2⟩ := info_parts Tryz.infoElem
  have hn0' : 0 < n := by omega
  have hne : ((n : Int) != (n : Int)) = false := by simp
  go_enter Tryz.func189, Tryz.ntmps189
  go_wp2_with fail
  refine Calls.mono KR.out ?_
  rintro e w2 ⟨rfl, ⟨g, hM⟩, hb2⟩
  have hb3 : Below w2.heap.size w2 (w2.alloc (.cells #[.slice (some ⟨w.heap.size, 0, none⟩) n n] 256)) := (Below.refl _ _).alloc (Nat.le_refl _) _
  have hp := boxed w2 (.slice (some ⟨w.heap.size, 0, none⟩) n n) 256
  have hph := heap_alloc_new w2 (.cells #[.slice (some ⟨w.heap.size, 0, none⟩) n n] 256)
  have hM3 := (hM.below hb3).wide hb3.size
  have hd0 := hM3.hdr (i := 0) (by omega)
  have KM3 : Hid (MatU (w2.alloc (.cells #[.slice (some ⟨w.heap.size, 0, none⟩) n n] 256)) w.heap.size (w2.alloc (.cells #[.slice (some ⟨w.heap.size, 0, none⟩) n n] 256)).heap.size (some ⟨w.heap.size, 0, none⟩) n n (fun i => some ⟨g i, 0, none⟩) (fun _ => n) (fun _ => n) (fun i j => ((P i j : Nat) : Int))) := hM3
  have KB3 : Hid (Below w.heap.size w (w2.alloc (.cells #[.slice (some ⟨w.heap.size, 0, none⟩) n n] 256))) := below2 hb2 hb3
  have hs2 := hb2.size
  have hsz3 : (w2.alloc (.cells #[.slice (some ⟨w.heap.size, 0, none⟩) n n] 256)).heap.size = w2.heap.size + 1 := by simp
  clear hM hM3 KR hb2 hb3
  generalize g 0 = g0 at hd0
  obtain ⟨pb, hpb⟩ : ∃ pb, w2.heap.size = pb := ⟨_, rfl⟩
  rw [hpb] at hp hph hs2 hsz3
  obtain ⟨W3, hW3⟩ : ∃ W3, w2.alloc (.cells #[.slice (some ⟨w.heap.size, 0, none⟩) n n] 256) = W3 := ⟨_, rfl⟩
  rw [hW3] at hp hph hd0 KM3 KB3 hsz3
  have KW3 : Hid (w2.alloc (.cells #[.slice (some ⟨w.heap.size, 0, none⟩) n n] 256) = W3) := hW3
  clear hW3
  have HQ : Hid (∀ m, MatU ((W3.drewN m).alloc (.cells #[.int .i64 (n : Int)] 3)) w.heap.size ((W3.drewN m).alloc (.cells #[.int .i64 (n : Int)] 3)).heap.size (some ⟨w.heap.size, 0, none⟩) n n (fun i => some ⟨g i, 0, none⟩) (wid n 0 0) (fun _ => n) (fun i j => ((Gm.aug P n i j : Nat) : Int)) ∧ ((W3.drewN m).alloc (.cells #[.int .i64 (n : Int)] 3)).heap[pb]? = some (.cells #[.slice (some ⟨w.heap.size, 0, none⟩) n n] 256 (0, 0)) ∧ ((W3.drewN m).alloc (.cells #[.int .i64 (n : Int)] 3)).heap[pb + 1]? = some (.cells #[.int .i64 (n : Int)] 3 (0, 0)) ∧ Below w.heap.size w ((W3.drewN m).alloc (.cells #[.int .i64 (n : Int)] 3))) := fun m => by
    have hx : Below W3.heap.size W3 ((W3.drewN m).alloc (.cells #[.int .i64 (n : Int)] 3)) := (below_drewN (Below.refl _ _) m).alloc (Nat.le_refl _) _
    refine ⟨((KM3.out.below hx).wide hx.size).congr (fun i hi => ⟨rfl, ?_, rfl, fun j hj => ?_⟩), ?_, ?_, below2 KB3.out hx⟩
    · unfold wid; rw [if_neg (by omega)]; split <;> omega
    · unfold Gm.aug; rw [if_pos hj]
    · rw [hx.block pb (by omega)]; exact hph
    · have h1 := heap_alloc_new (W3.drewN m) (.cells #[.int .i64 (n : Int)] 3)
      rw [show (W3.drewN m).heap.size = pb + 1 from hsz3] at h1
      exact h1
  obtain ⟨sb, hsb⟩ : ∃ sb, pb + 1 = sb := ⟨_, rfl⟩
  have hsz4 : W3.heap.size = sb := by omega
  rw [hsb] at HQ
  have hpsb : pb < sb := by omega
  clear KM3 KB3 hsz3 hsb
  go_wp2
  rw [KW3.out]
  go_quiet (fail)
  clear KW3 hd0 hph
  have hpl3 := block_lt_of_cell hp
  have hp4 : ∀ m, ((W3.drewN m).alloc (.cells #[.int .i64 (n : Int)] 3)).cell? ⟨pb, 0, none⟩ = some (.slice (some ⟨w.heap.size, 0, none⟩) n n) := fun m => (((below_drewN (Below.refl W3.heap.size W3) m).alloc (Nat.le_refl _) (.cells #[.int .i64 (n : Int)] 3)).cell (p := ⟨pb, 0, none⟩) hpl3).trans hp
  go_wp2
  clear hsz4 hpb hp hp4 hpl3
  go_loopw [29] (fun v wr => ∃ (k : Nat) (A : Nat → Option Addr) (C : Nat → Nat), k ≤ n ∧ v = .int .i64 (k : Int) ∧ MatU wr w.heap.size wr.heap.size (some ⟨w.heap.size, 0, none⟩) n n A (wid n k 0) C (fun i j => ((Gm.aug P n i j : Nat) : Int)) ∧ wr.heap[pb]? = some (.cells #[.slice (some ⟨w.heap.size, 0, none⟩) n n] 256 (0, 0)) ∧ wr.heap[sb]? = some (.cells #[.int .i64 (n : Int)] 3 (0, 0)) ∧ Below w.heap.size w wr) (fun v _ => n - (intOf v).toNat)
  case atStart => exact ⟨0, _, _, Nat.zero_le _, rfl, HQ.out _⟩
  case round =>
    obtain ⟨k, A, C, hk, rfl, hM, hpb, hsb, hbel⟩ := hrel
    clear HQ
    have cp := cell_of_one hpb
    have cs := cell_of_one hsb
    by_cases hlt : k < n
    · have hki : (k : Int) < (n : Int) := by omega
      have KM : Hid (MatU wr w.heap.size wr.heap.size (some ⟨w.heap.size, 0, none⟩) n n A (wid n k 0) C (fun i j => ((Gm.aug P n i j : Nat) : Int))) := hM
      have KPB : Hid (wr.heap[pb]? = some (.cells #[.slice (some ⟨w.heap.size, 0, none⟩) n n] 256 (0, 0))) := hpb
      have KSB : Hid (wr.heap[sb]? = some (.cells #[.int .i64 (n : Int)] 3 (0, 0))) := hsb
      have KBe : Hid (Below w.heap.size w wr) := hbel
      clear hM hpb hsb hbel
      go_wp2
      clear cp cs
      go_loopw [33] (fun v wr => ∃ (q : Nat) (A : Nat → Option Addr) (C : Nat → Nat), q ≤ n ∧ v = .int .i64 (q : Int) ∧ MatU wr w.heap.size wr.heap.size (some ⟨w.heap.size, 0, none⟩) n n A (wid n k q) C (fun i j => ((Gm.aug P n i j : Nat) : Int)) ∧ wr.heap[pb]? = some (.cells #[.slice (some ⟨w.heap.size, 0, none⟩) n n] 256 (0, 0)) ∧ wr.heap[sb]? = some (.cells #[.int .i64 (n : Int)] 3 (0, 0)) ∧ Below w.heap.size w wr) (fun v _ => n - (intOf v).toNat)
      case atStart => exact ⟨0, _, _, Nat.zero_le _, rfl, KM.out, KPB.out, KSB.out, KBe.out⟩
      case round =>
        obtain ⟨q, A, C, hq, rfl, hM, hpb, hsb, hbel⟩ := hrel
        clear KM KPB KSB KBe
        by_cases hqn : q < n
        · have hqi : (q : Int) < (n : Int) := by omega
          have cp := cell_of_one hpb
          have hwk : wid n k q k = n + q := by unfold wid; rw [if_neg (by omega), if_pos rfl]
          obtain ⟨gk, hgk, hgkl, hgt⟩ : ∃ gk, A k = some ⟨gk, 0, none⟩ ∧ gk < wr.heap.size ∧ ∃ cur, wr.heap[gk]? = some (.cells cur 155 (0, 0)) := by
            rcases own_shape (hM.row k hlt) with ⟨_, h0, _⟩ | ⟨gk, cur, e, _, hg, _⟩
            · omega
            · exact ⟨gk, e, (hM.glt hlt e).2, cur, hg⟩
          obtain ⟨cur, hcur⟩ := hgt
          have hpg : pb ≠ gk := fun e => by rw [e, hcur] at hpb; cases hpb
          have hsg : sb ≠ gk := fun e => by rw [e, hcur] at hsb; cases hsb
          have hpG : pb ≠ w.heap.size := fun e => by
            rcases own_shape hM.out with ⟨h', _⟩ | ⟨g2, c2, e2, _, hg2, _⟩
            · cases h'
            · cases e2
              rw [e, hg2] at hpb
              cases hpb
          have hsG : sb ≠ w.heap.size := fun e => by
            rcases own_shape hM.out with ⟨h', _⟩ | ⟨g2, c2, e2, _, hg2, _⟩
            · cases h'
            · cases e2
              rw [e, hg2] at hsb
              cases hsb
          have hhd := hM.hdr hlt
          have hrow := hM.row k hlt
          rw [hwk] at hhd hrow
          rw [hgk] at hhd hrow
          have hGl := hM.olt.2
          have hpl := (Array.getElem?_eq_some_iff.1 hpb).1
          have hsl := (Array.getElem?_eq_some_iff.1 hsb).1
          have KM : Hid (MatU wr w.heap.size wr.heap.size (some ⟨w.heap.size, 0, none⟩) n n A (wid n k q) C (fun i j => ((Gm.aug P n i j : Nat) : Int))) := hM
          have KPB : Hid (wr.heap[pb]? = some (.cells #[.slice (some ⟨w.heap.size, 0, none⟩) n n] 256 (0, 0))) := hpb
          have KSB : Hid (wr.heap[sb]? = some (.cells #[.int .i64 (n : Int)] 3 (0, 0))) := hsb
          have KBe : Hid (Below w.heap.size w wr) := hbel
          have KGK : Hid (A k = some ⟨gk, 0, none⟩) := hgk
          have KROW : Hid (wr.ownsRow w.heap.size 155 1 (.slice (some ⟨gk, 0, none⟩) (n + q) (C k)) (n + q) ((zI (fun j => ((Gm.aug P n k j : Nat) : Int)) (n + q)).map (Value.int .u8))) := hrow
          have hszw := hbel.size
          clear hM hpb hsb hbel hgk hrow hcur
          obtain ⟨ck, hck⟩ : ∃ ck, C k = ck := ⟨_, rfl⟩
          obtain ⟨d, hd⟩ : ∃ d, Gm.dl k q = d := ⟨_, rfl⟩
          have KU : Hid (∀ W : World, Calls Tryz.prog 143 #[.int .i64 (k : Int), .int .i64 (q : Int)] W fun e w' => e = .returned (.int .u8 (d : Int)) ∧ w' = W) := by rw [← hd]; exact fun W => unitAt_any k q W
          have KD : Hid (Gm.dl k q = d) := hd
          rw [hck] at hhd KROW
          clear hck hd
          go_wp2_with fail
          go_region_law ((first | (refine step_append_lies _ (by rfl) _ _ _ (by rfl) w.heap.size 155 i0 _ 1 1 Tryz.underlying259 hi hz0 hz1 hz2 rfl (by omega) (.slice (some ⟨gk, 0, none⟩) (n + q) ck) (n + q) _ (by rfl) ((World.ownsRow.alloc KROW.out _).drew) ⟨wr.heap.size, 0, none⟩ 1 1 [.int .u8 (d : Int)] (by rfl) (by rfl) (World.news_of_block (cs := #[.int .u8 (d : Int)]) (t := 155) (fr := (0, 0)) (heap_alloc_new wr _)) (by simp [Value.oneCell']) (by omega) (by unfold maxLen; omega) (by omega) (by simp; omega) (wr.heap.size + 1) (by simp) ?_; intro g2 cap3 w6 hown6 hgrow6 hat6 hltg6; have hba : Below wr.heap.size wr (wr.drew.alloc (.cells #[.int .u8 (d : Int)] 155)) := ((Below.refl _ _).drew).alloc (Nat.le_refl _) _; have hgrow6' : (wr.drew.alloc (.cells #[.int .u8 (d : Int)] 155)).grownBy w6 (some gk) := hgrow6; have cp6 := hgrow6'.cell ((hba.cell (p := ⟨pb, 0, none⟩) hpl).trans cp) (by simp; exact hpg); have hsz6 : wr.heap.size + 1 ≤ w6.heap.size := (by have := hgrow6'.size; simpa using this); have h7 := MatZ.grew (z := fun j => ((Gm.aug P n k j : Nat) : Int)) (E' := w6.heap.size) teNe (KM.out.below hba) hlt KGK.out hgrow6' (by rw [← aug_snoc, KD.out]; exact hown6) (by rcases hat6 with e | e; cases e; exact .inl rfl; right; rw [e]; simp) (by omega) hltg6; obtain ⟨hold7, hfr7, HM7', HG7'⟩ := h7; have HM7 : Hid _ := HM7'; have HG7 : Hid _ := HG7'; rw [KGK.out] at hold7; clear HM7' HG7' hown6 hgrow6) | (go_simp; go_wp2_with (go_at_call 143; refine (KU.out _).mono ?_; rintro e w5 ⟨rfl, hw5⟩; obtain rfl := hw5.symm))))
          all_goals
            have KE : Hid (wr.heap.size ≤ w6.heap.size) := Nat.le_of_succ_le hsz6
            have HM8 : Hid (MatU (w6.setCell ⟨w.heap.size, k, none⟩ (.slice (some ⟨g2, 0, none⟩) (n + q + 1) cap3)) w.heap.size (w6.setCell ⟨w.heap.size, k, none⟩ (.slice (some ⟨g2, 0, none⟩) (n + q + 1) cap3)).heap.size (some ⟨w.heap.size, 0, none⟩) n n (fun j => if j = k then some ⟨g2, 0, none⟩ else A j) (wid n k (q + 1)) (fun j => if j = k then cap3 else C j) (fun i j => ((Gm.aug P n i j : Nat) : Int))) :=
              (HM7.out.wide HG7.out.size).congr (fun i hi => ⟨rfl, by
                unfold wid
                by_cases e : i = k
                · rw [if_pos e, if_neg (by omega), if_pos e]; omega
                · rw [if_neg e]
                  by_cases e2 : i < k
                  · rw [if_pos e2, if_pos e2]
                  · rw [if_neg e2, if_neg e, if_neg e2, if_neg e], rfl, fun j _ => by
                by_cases e : i = k
                · rw [if_pos e, e]
                · rw [if_neg e]⟩)
            have HPB : Hid ((w6.setCell ⟨w.heap.size, k, none⟩ (.slice (some ⟨g2, 0, none⟩) (n + q + 1) cap3)).heap[pb]? = some (.cells #[.slice (some ⟨w.heap.size, 0, none⟩) n n] 256 (0, 0))) := by
              show _ = _
              rw [HG7.out.block pb (by omega) (by simp; exact hpG), hgrow6'.block pb (by simp; omega) (by simp; exact hpg), hba.block pb hpl]
              exact KPB.out
            have HSB : Hid ((w6.setCell ⟨w.heap.size, k, none⟩ (.slice (some ⟨g2, 0, none⟩) (n + q + 1) cap3)).heap[sb]? = some (.cells #[.int .i64 (n : Int)] 3 (0, 0))) := by
              show _ = _
              rw [HG7.out.block sb (by omega) (by simp; exact hsG), hgrow6'.block sb (by simp; omega) (by simp; exact hsg), hba.block sb hsl]
              exact KSB.out
            have HBe : Hid (Below w.heap.size w (w6.setCell ⟨w.heap.size, k, none⟩ (.slice (some ⟨g2, 0, none⟩) (n + q + 1) cap3))) := ((below2 KBe.out hba).grown hgrow6' (by simp; omega) (fun j hj => by cases hj; exact (KM.out.glt hlt KGK.out).1)).setCell (Nat.le_refl _) _
            clear HM7 HG7 hgrow6' hba cp6 hold7 hfr7 cp KM KPB KSB KBe KROW KU KE
            go_wp2
            go_roundw
            case rel => exact ⟨q + 1, _, _, by omega, by go_num, HM8.out, HPB.out, HSB.out, HBe.out⟩
            case measure => simp [intOf] <;> omega
        · obtain rfl : q = n := by omega
          have HM8 : Hid (MatU wr w.heap.size wr.heap.size (some ⟨w.heap.size, 0, none⟩) q q A (wid q (k + 1) 0) C (fun i j => ((Gm.aug P q i j : Nat) : Int))) := hM.congr (fun i hi => ⟨rfl, by
            unfold wid
            by_cases e : i < k
            · rw [if_pos e, if_pos (by omega)]
            · rw [if_neg e]
              by_cases e2 : i = k
              · rw [if_pos e2, if_pos (by omega)]
              · rw [if_neg e2, if_neg (by omega)]
                split <;> omega, rfl, fun j _ => rfl⟩)
          have HPB : Hid (wr.heap[pb]? = some (.cells #[.slice (some ⟨w.heap.size, 0, none⟩) q q] 256 (0, 0))) := hpb
          have HSB : Hid (wr.heap[sb]? = some (.cells #[.int .i64 (q : Int)] 3 (0, 0))) := hsb
          clear hM hpb hsb
          go_wp2
          go_roundw
          case rel => exact ⟨k + 1, _, _, by omega, by go_num, HM8.out, HPB.out, HSB.out, hbel⟩
          case measure => simp [intOf] <;> omega
    · obtain rfl : k = n := by omega
      have hki : ¬ (k : Int) < (k : Int) := by omega
      have hMF : MatU wr w.heap.size wr.heap.size (some ⟨w.heap.size, 0, none⟩) k k A (fun _ => k + k) C (fun i j => ((Gm.aug P k i j : Nat) : Int)) := hM.congr (fun i hi => ⟨rfl, by unfold wid; rw [if_pos hi], rfl, fun j _ => rfl⟩)
      obtain ⟨g1, hMg⟩ := MatU.g hMF (by omega)
      have hnq : ¬ (w.heap.size = pb ∨ w.heap.size = sb) ∧ (∀ i, i < k → ¬ (g1 i = pb ∨ g1 i = sb)) ∧ ∀ b, (b = pb ∨ b = sb) → b < wr.drew.heap.size := by
        refine ⟨fun e => ?_, fun i hi e => ?_, fun b e => ?_⟩
        · rcases own_shape hMg.out with ⟨h', _⟩ | ⟨g2, c2, e2, _, hg2, _⟩
          · cases h'
          · cases e2
            rcases e with e | e
            · rw [← e, hg2] at hpb; cases hpb
            · rw [← e, hg2] at hsb; cases hsb
        · rcases own_shape (hMg.row i hi) with ⟨h', _⟩ | ⟨g2, c2, e2, _, hg2, _⟩
          · cases h'
          · cases e2
            rcases e with e | e
            · rw [← e, hg2] at hpb; cases hpb
            · rw [← e, hg2] at hsb; cases hsb
        · rcases e with rfl | rfl
          · exact (Array.getElem?_eq_some_iff.1 hpb).1
          · exact (Array.getElem?_eq_some_iff.1 hsb).1
      have KBr : Hid _ := bring_q (fun b => b = pb ∨ b = sb) w.heap.size w.heap.size k k (k + k) k g1 C (Gm.aug P k) wr.drew (show MatF wr.drew w.heap.size wr.drew.heap.size w.heap.size k k g1 C (k + k) (Gm.aug P k) from ⟨hMg.out, hMg.oE, hMg.row, hMg.rE, hMg.apart⟩) (Gm.aug_byt KBY.out k) (by omega) (by omega) (by omega) hnq
      rw [Gm.rk_aug] at KBr
      have KPB : Hid (wr.heap[pb]? = some (.cells #[.slice (some ⟨w.heap.size, 0, none⟩) k k] 256 (0, 0))) := hpb
      have KSB : Hid (wr.heap[sb]? = some (.cells #[.int .i64 (k : Int)] 3 (0, 0))) := hsb
      have KIV : Hid (∀ i j, Gm.iv P k i j = (Gm.rd (Gm.aug P k) k k).1 i (k + j)) := fun _ _ => rfl
      have hrl := Gm.rk_r KBY.out k k
      have KIB : Hid (Gm.Byt (Gm.iv P k)) := Gm.iv_byt KBY.out k
      have hszw := hbel.size
      clear hM hMF hMg hnq hpb hsb
      generalize Gm.rk P k k = R0 at KBr hrl KY KN
      generalize (Gm.rd (Gm.aug P k) k k).1 = FF at KBr KIV
      by_cases hR : R0 = k
      · have hR0 : ¬ (R0 : Int) < (k : Int) := by omega
        obtain ⟨rfl, ho2⟩ := KY.out (by trivial) hR
        have ho3 := ho2.symm
        clear ho2
        subst ho3
        go_wp2_with fail
        go_region_held3 (fun w' => w'.cell? ⟨pb, 0, none⟩ = some (.slice (some ⟨w.heap.size, 0, none⟩) k k) ∧ w'.cell? ⟨sb, 0, none⟩ = some (.int .i64 (k : Int))) (go_keep) ((go_at_call 234; refine Calls.mono KBr.out ?_; rintro e w5 ⟨rfl, ⟨g5, C5, hM5⟩, hch⟩; have hpb5 := hch.at KPB.out (by simp); have hsb5 := hch.at KSB.out (by simp); have cp5 := cell_of_one hpb5; have cs5 := cell_of_one hsb5; have KM5 : Hid _ := hM5; have hb5 : Below w.heap.size wr w5 := ⟨hch.os, hch.tape, hch.output, hch.size, fun j hj => hch.block j (Nat.lt_of_lt_of_le hj hszw) (fun h => absurd h.1 (Nat.not_le_of_lt hj))⟩; clear hM5 hpb5 hsb5 hch))
        all_goals
          have hRd : RdU w5 pb k (k + k) FF := MatU.rd KM5.out (Below.refl _ _) cp5
          have KF : Hid _ := filled_any 235 #[.pointer (some ⟨pb, 0, none⟩), .pointer (some ⟨sb, 0, none⟩)] invEnter k k (fun i j => FF i (k + j)) w5 (invFill hRd cs5 rfl hn2) (fun i j => by rw [← KIV.out]; exact KIB.out i j) (by omega) (by omega)
          have hs5 := hb5.size
          clear hRd KM5 KBr
          go_wp2_with fail
          refine Calls.mono KF.out ?_
          rintro e w6 ⟨rfl, ⟨A6, hM6⟩, hb6⟩
          have KM : Hid (MatI w6 w5.heap.size w6.heap.size (some ⟨w5.heap.size, 0, none⟩) k k A6 (fun _ => k) (fun _ => k) (fun i j => ((Gm.iv P k i j : Nat) : Int))) := hM6.congr (fun i _ => ⟨rfl, rfl, rfl, fun j _ => by rw [KIV.out]⟩)
          clear hM6 KF
          go_wp2
          go_ret2
          exact ⟨_, rfl, ResM.mk KM.out (Nat.le_trans hszw hs5), below2 (hbel.trans hb5) hb6⟩
      · have hR0 : (R0 : Int) < (k : Int) := by omega
        obtain ⟨rfl, rfl⟩ := KN.out (fun hh => hR hh.2)
        go_wp2_with fail
        go_region_held3 (fun w' => w'.cell? ⟨pb, 0, none⟩ = some (.slice (some ⟨w.heap.size, 0, none⟩) k k) ∧ w'.cell? ⟨sb, 0, none⟩ = some (.int .i64 (k : Int))) (go_keep) ((go_at_call 234; refine Calls.mono KBr.out ?_; rintro e w5 ⟨rfl, _, hch⟩; have hpb5 := hch.at KPB.out (by simp); have hsb5 := hch.at KSB.out (by simp); have cp5 := cell_of_one hpb5; have cs5 := cell_of_one hsb5; have hb5 : Below w.heap.size wr w5 := ⟨hch.os, hch.tape, hch.output, hch.size, fun j hj => hch.block j (Nat.lt_of_lt_of_le hj hszw) (fun h => absurd h.1 (Nat.not_le_of_lt hj))⟩; clear hpb5 hsb5 hch))
        all_goals
          go_wp2
          go_ret2
          exact ⟨_, rfl, ResM.none _ _ _ _, hbel.trans hb5⟩
end Go.Proofs.YthnjhjgffkilcaaGreatDoor
