/- The program brings the rows of a matrix of its own into steps; its rank. Conditions: byte numbers, at most 2^20 rows and places. -/
import Derived.Test.YtojklpahobmleaaMNext
import Derived.Test.YtojklpahobmleaaMRankS
namespace Go.Proofs.Ytojklpahobmleaa
open Go.ChangeShapes Go.WideShapes Go.ChangeAt Go.RowKit

theorem stepEnter : ∀ args w, (callFunc 76 args).run Try.prog w = .ok (.enter 76 args) w := enters_of Try.func76 (by kernel_rfl) rfl
/-- The four variables, new. -/
def boxes (w : World) (G r cap n : Nat) : World := (((w.alloc (.cells #[.slice (some ⟨G, 0, none⟩) r cap] 55)).alloc (.cells #[.int .i64 (n : Int)] 3)).alloc (.cells #[.int .i64 0] 3)).alloc (.cells #[.int .i64 0] 3)
theorem boxes_size (w : World) (G r cap n : Nat) : (boxes w G r cap n).heap.size = w.heap.size + 4 := by simp [boxes]
theorem boxes_below (w : World) (G r cap n : Nat) : Below w.heap.size w (boxes w G r cap n) :=
  ((((Below.refl _ _).alloc (Nat.le_refl _) _).alloc (by simp) _).alloc (by simp; omega) _).alloc (by simp; omega) _
theorem alloc_at (w : World) (o p : Obj) {b : Nat} (h : w.heap[b]? = some p) : (w.alloc o).heap[b]? = some p := by
  have hb := lt_of_block h
  rw [((Below.refl w.heap.size w).alloc (Nat.le_refl _) o).block b hb]
  exact h
theorem boxes_bs {w : World} {B G r cap W n : Nat} {g C : Nat → Nat} {A : Nat → Nat → Nat} (h : MatF w B w.heap.size G r cap g C W A) :
    BS (boxes w G r cap n) B w.heap.size G r cap W n (w.heap.size + 1 + 1 + 1) (w.heap.size + 1) (w.heap.size + 1 + 1) w.heap.size A 0 g C := by
  refine ⟨h.below (boxes_below w G r cap n), ?_, ?_, ?_, ?_⟩
  · have e : (((w.alloc (.cells #[.slice (some ⟨G, 0, none⟩) r cap] 55)).alloc (.cells #[.int .i64 (n : Int)] 3)).alloc (.cells #[.int .i64 0] 3)).heap.size = w.heap.size + 1 + 1 + 1 := by simp
    rw [← e]
    exact heap_alloc_new _ _
  · have e : (w.alloc (.cells #[.slice (some ⟨G, 0, none⟩) r cap] 55)).heap.size = w.heap.size + 1 := by simp
    rw [← e]
    exact alloc_at _ _ _ (alloc_at _ _ _ (heap_alloc_new _ _))
  · have e : ((w.alloc (.cells #[.slice (some ⟨G, 0, none⟩) r cap] 55)).alloc (.cells #[.int .i64 (n : Int)] 3)).heap.size = w.heap.size + 1 + 1 := by simp
    rw [← e]
    exact alloc_at _ _ _ (heap_alloc_new _ _)
  · exact alloc_at _ _ _ (alloc_at _ _ _ (alloc_at _ _ _ (heap_alloc_new w _)))
set_option maxHeartbeats 2000000 in
theorem bring_any (B G r cap W n : Nat) (g C : Nat → Nat) (A : Nat → Nat → Nat) (w : World) (h : MatF w B w.heap.size G r cap g C W A) (hA : Gm.Byt A) (hn : n ≤ W) (hW : W ≤ 1048576) (hr : r ≤ 1048576) :
    Calls Try.prog 50 #[.slice (some ⟨G, 0, none⟩) r cap, .int .i64 (n : Int)] w fun e w' => e = .returned (.int .i64 ((Gm.rd A r n).2 : Int)) ∧ (∃ g' C', MatF w' B w.heap.size G r cap g' C' W (Gm.rd A r n).1) ∧ Below B w w' := by
  have hB : B ≤ w.heap.size := by have := h.olt; omega
  have K0 : Hid (BS (boxes w G r cap n) B w.heap.size G r cap W n (w.heap.size + 1 + 1 + 1) (w.heap.size + 1) (w.heap.size + 1 + 1) w.heap.size A 0 g C) := boxes_bs h
  have KB0 : Hid (Below B w (boxes w G r cap n)) := (boxes_below w G r cap n).mono hB
  have KE : Hid (boxes w G r cap n = (((w.alloc (.cells #[.slice (some ⟨G, 0, none⟩) r cap] 55)).alloc (.cells #[.int .i64 (n : Int)] 3)).alloc (.cells #[.int .i64 0] 3)).alloc (.cells #[.int .i64 0] 3)) := rfl
  have KA : Hid (Gm.Byt A) := hA
  have eg := stepEnter
  clear h hA
  go_enter Try.func50, Try.ntmps50
  go_wp2
  rw [← KE.out]
  clear KE
  obtain ⟨s0, hs0⟩ : ∃ s0, w.heap.size = s0 := ⟨_, rfl⟩
  rw [hs0] at K0 hB ⊢
  have KS : Hid (w.heap.size = s0) := hs0
  clear hs0
  go_loopg [9, 10] n (fun gk _ _ wr => ∃ k g C, k ≤ n ∧ n - k ≤ gk ∧ BS wr B s0 G r cap W n (s0 + 1 + 1 + 1) (s0 + 1) (s0 + 1 + 1) s0 A k g C ∧ Below B w wr)
  case atStart => exact ⟨0, g, C, Nat.zero_le _, by omega, K0.out, KB0.out⟩
  case round =>
    obtain ⟨k, g1, C1, hk, hgk, hBS, hbel⟩ := hrel
    clear K0 KB0
    have hK := next_any B s0 G r cap W n (s0 + 1 + 1 + 1) (s0 + 1) (s0 + 1 + 1) s0 A k g1 C1 wr hBS KA.out hk hn hW hr hB (by omega) (by omega) (by omega) (Nat.le_refl _) (by omega) (by omega) (by omega) (by omega) (by omega) (by omega)
    have KK : Hid _ := hK
    clear hK hBS
    go_wp2_with fail
    refine Calls.mono KK.out ?_
    rintro e w2 (⟨k', g2, C2, h1, h2, rfl, hB2, hb2⟩ | ⟨rfl, hB2, hb2⟩)
    · have KB2 : Hid (BS w2 B s0 G r cap W n (s0 + 1 + 1 + 1) (s0 + 1) (s0 + 1 + 1) s0 A k' g2 C2) := hB2
      have KL2 : Hid (Below B w w2) := hbel.trans hb2
      clear hB2 hb2 hbel KK
      go_wp2
      go_roundg (n - k')
      case measure => omega
      case rel => exact ⟨k', g2, C2, h2, Nat.le_refl _, KB2.out, KL2.out⟩
    · have cs := cell_of_one hB2.st
      have KB2 : Hid (BS w2 B s0 G r cap W n (s0 + 1 + 1 + 1) (s0 + 1) (s0 + 1 + 1) s0 A n g1 C1) := hB2
      have KL2 : Hid (Below B w w2) := hbel.trans hb2
      clear hB2 hb2 hbel KK
      go_wp2
      go_ret
      refine ⟨rfl, ⟨g1, C1, ?_⟩, KL2.out⟩
      first | exact KB2.out.mat | (rw [KS.out]; exact KB2.out.mat)
set_option maxHeartbeats 2000000 in
theorem rank_any (a : Option Addr) (n ca : Nat) (L : Nat → Nat) (Z : Nat → Nat → Int) (w : World) (h : MatAt w a n L Z) (hL : ∀ i, i < n → L i ≤ 1048576) :
    Calls Try.prog 19 #[.slice a n ca] w fun e w' => e = .returned (.int .i64 (rankI n L Z)) ∧ Below w.heap.size w w' := by
  by_cases ok : OkM n L Z
  · have hR : rankI n L Z = ((Gm.rk (bZ n L Z) n (L 0) : Nat) : Int) := by unfold rankI; rw [if_pos (okM_yes ok)]
    rw [hR]
    have KR : Hid _ := readM_b a n ca L Z w h ok
    have KBY : Hid (Gm.Byt (bZ n L Z)) := bZ_byt n L Z
    have hn0' : 0 < n := by have := ok.1; omega
    have hn2 : n ≤ 16 := ok.2.1
    have hl2 : L 0 ≤ 16 := ok.2.2.2.1
    generalize bZ n L Z = P at KR KBY
    generalize L 0 = l at *
    clear h hL ok hR
    go_enter Try.func19, Try.ntmps19
    go_wp2_with fail
    refine Calls.mono KR.out ?_
    rintro e w2 ⟨rfl, ⟨g, hM⟩, hb2⟩
    have hd0 := hM.hdr (i := 0) (by omega)
    have KM : Hid _ := hM
    clear hM KR
    generalize g 0 = g0 at hd0
    go_wp2_with fail
    refine Calls.mono (bring_any _ _ n n l l g _ P w2 KM.out KBY.out (Nat.le_refl _) (by omega) (by omega)) ?_
    rintro e w3 ⟨rfl, _, hb3⟩
    clear KM
    go_wp2
    go_ret
    exact ⟨rfl, hb2.trans hb3⟩
  · have hR : rankI n L Z = -1 := by unfold rankI; rw [if_neg (by rw [okM_no ok]; simp)]
    rw [hR]
    have KR : Hid _ := readM_no a n ca L Z w h hL ok
    clear h hL ok hR
    go_enter Try.func19, Try.ntmps19
    go_wp2_with fail
    refine Calls.mono KR.out ?_
    rintro e w2 ⟨rfl, hb2⟩
    go_wp2
    go_ret
    exact ⟨rfl, hb2⟩
end Go.Proofs.Ytojklpahobmleaa
