/- The program's functions that answer with a matrix made of others: turned, rows picked out, a product. Conditions: at most 2^20 rows, at most 2^20 numbers a row. -/
import Derived.Test.YtojklpahobmleaaMFill
namespace Go.Proofs.Ytojklpahobmleaa
open Go.ChangeShapes Go.WideShapes Go.ChangeAt Go.RowKit

/-- A variable that holds a matrix of byte numbers. -/
def RdU (w : World) (pb r c : Nat) (F : Nat → Nat → Nat) : Prop :=
  ∃ G cap, w.cell? ⟨pb, 0, none⟩ = some (.slice (some ⟨G, 0, none⟩) r cap) ∧ ∀ i, i < r → ∃ g cc, w.cell? ⟨G, i, none⟩ = some (.slice (some ⟨g, 0, none⟩) c cc) ∧ ∀ j, j < c → w.cell? ⟨g, j, none⟩ = some (.int .u8 ((F i j : Nat) : Int))
theorem RdU.below {w w' : World} {pb r c : Nat} {F : Nat → Nat → Nat} (h : RdU w pb r c F) (hb : Below w.heap.size w w') : RdU w' pb r c F := by
  obtain ⟨G, cap, hp, hr⟩ := h
  refine ⟨G, cap, (hb.cell (p := ⟨pb, 0, none⟩) (block_lt_of_cell hp)).trans hp, fun i hi => ?_⟩
  obtain ⟨g, cc, hc, he⟩ := hr i hi
  exact ⟨g, cc, (hb.cell (p := ⟨G, i, none⟩) (block_lt_of_cell hc)).trans hc, fun j hj => (hb.cell (p := ⟨g, j, none⟩) (block_lt_of_cell (he j hj))).trans (he j hj)⟩
theorem MatU.rd {w w' : World} {B E G r cap c pb : Nat} {g : Nat → Nat} {C : Nat → Nat} {F : Nat → Nat → Nat} (h : MatU w B E (some ⟨G, 0, none⟩) r cap (fun i => some ⟨g i, 0, none⟩) (fun _ => c) C (fun i j => ((F i j : Nat) : Int))) (hb : Below w.heap.size w w') (hp : w'.cell? ⟨pb, 0, none⟩ = some (.slice (some ⟨G, 0, none⟩) r cap)) : RdU w' pb r c F := by
  have h' := h.below hb
  exact ⟨G, cap, hp, fun i hi => ⟨g i, C i, h'.hdr hi, fun j hj => h'.elt hi rfl hj⟩⟩
theorem held1 (w : World) (v u : Value) (t : TypeId) : ((w.alloc (.cells #[u] t)).setCell ⟨w.heap.size, 0, none⟩ v).cell? ⟨w.heap.size, 0, none⟩ = some v := cell_of_one (one_setCell (heap_alloc_new w _))
theorem held1_below (w : World) (v u : Value) (t : TypeId) : Below w.heap.size w ((w.alloc (.cells #[u] t)).setCell ⟨w.heap.size, 0, none⟩ v) := ((Below.refl _ _).alloc (Nat.le_refl _) _).setCell (Nat.le_refl _) _

set_option maxHeartbeats 1000000 in
theorem turned1_any (pb r c i j : Nat) (F : Nat → Nat → Nat) (w : World) (h : RdU w pb r c F) (hi : i < c) (hj : j < r) :
    Calls Try.prog 67 #[.int .i64 (i : Int), .int .i64 (j : Int), .pointer (some ⟨pb, 0, none⟩)] w fun e w' => e = .returned (.int .u8 ((F j i : Nat) : Int)) ∧ Below w.heap.size w w' := by
  obtain ⟨G, cap, hp, hr⟩ := h
  obtain ⟨g, cc, hc, he⟩ := hr j hj
  have hel := he i hi
  have hi' : (i : Int) < (c : Int) := by omega
  have hj' : (j : Int) < (r : Int) := by omega
  clear he hr
  generalize F j i = X at hel
  go_enter Try.func67, Try.ntmps67
  go_wp2
  go_ret
  exact ⟨rfl, Below.refl _ _⟩
theorem turnedEnter : ∀ args w, (callFunc 67 args).run Try.prog w = .ok (.enter 67 args) w := enters_of Try.func67 (by kernel_rfl) rfl
theorem turnedFill {pb r c : Nat} {F : Nat → Nat → Nat} {w : World} (h : RdU w pb r c F) : FillBy 67 #[.pointer (some ⟨pb, 0, none⟩)] c r (fun i j => F j i) w := fun W i j hb hi hj =>
  turned1_any pb r c i j F W (h.below hb) hi hj
theorem cZ_byt {n : Nat} {L : Nat → Nat} {Z : Nat → Nat → Int} (ok : OkM n L Z) : ∀ i j, i < n → j < L 0 → cZ Z i j < 256 := fun i j hi hj => by
  obtain ⟨X, hX, e⟩ := isB_nat ((ok.2.2.2.2 i hi).2 j hj)
  unfold cZ
  rw [e]
  simpa using hX
/-- The numbers of a matrix, 0 beyond it. -/
def bZ (n : Nat) (L : Nat → Nat) (Z : Nat → Nat → Int) (i j : Nat) : Nat := if i < n ∧ j < L 0 then cZ Z i j % 256 else 0
theorem bZ_byt (n : Nat) (L : Nat → Nat) (Z : Nat → Nat → Int) : Gm.Byt (bZ n L Z) := fun i j => by unfold bZ; split <;> omega
theorem bZ_eq {n : Nat} {L : Nat → Nat} {Z : Nat → Nat → Int} (ok : OkM n L Z) {i j : Nat} (hi : i < n) (hj : j < L 0) : bZ n L Z i j = cZ Z i j := by
  unfold bZ
  rw [if_pos ⟨hi, hj⟩, Nat.mod_eq_of_lt (cZ_byt ok i j hi hj)]
/-- Reading, with its numbers as byte numbers. -/
theorem readM_b (a : Option Addr) (n cap : Nat) (L : Nat → Nat) (Z : Nat → Nat → Int) (w : World) (h : MatAt w a n L Z) (ok : OkM n L Z) :
    Calls Try.prog 48 #[.slice a n cap] w fun e w' => e = .returned (.tuple #[.slice (some ⟨w.heap.size, 0, none⟩) n n, .bool true]) ∧ (∃ g : Nat → Nat, MatU w' w.heap.size w'.heap.size (some ⟨w.heap.size, 0, none⟩) n n (fun i => some ⟨g i, 0, none⟩) (fun _ => L 0) (fun _ => L 0) (fun i j => ((bZ n L Z i j : Nat) : Int))) ∧ Below w.heap.size w w' := by
  refine Calls.mono (readM_yes a n cap L Z w h ok) ?_
  rintro e w' ⟨rfl, ⟨g, hM⟩, hb⟩
  exact ⟨rfl, ⟨g, hM.congr (fun i hi => ⟨rfl, rfl, rfl, fun j hj => by rw [bZ_eq ok hi hj]⟩)⟩, hb⟩
noncomputable def turnR (n : Nat) (L : Nat → Nat) (Z : Nat → Nat → Int) : Nat := if okM n L Z = true then L 0 else 0
set_option maxHeartbeats 1000000 in
theorem turned_any (a : Option Addr) (n cap : Nat) (L : Nat → Nat) (Z : Nat → Nat → Int) (w : World) (h : MatAt w a n L Z) (hL : ∀ i, i < n → L i ≤ 1048576) :
    Calls Try.prog 27 #[.slice a n cap] w fun e w' => ∃ v, e = .returned (.tuple #[v, .bool (okM n L Z)]) ∧ ResM w w' v (turnR n L Z) n (fun i j => bZ n L Z j i) ∧ Below w.heap.size w w' := by
  by_cases ok : OkM n L Z
  · have KR : Hid _ := readM_b a n cap L Z w h ok
    have hn : 1 ≤ n ∧ n ≤ 16 ∧ 1 ≤ L 0 ∧ L 0 ≤ 16 := ⟨ok.1, ok.2.1, ok.2.2.1, ok.2.2.2.1⟩
    have hbt := bZ_byt n L Z
    have hR : turnR n L Z = L 0 := by unfold turnR; rw [if_pos (okM_yes ok)]
    rw [okM_yes ok, hR]
    generalize bZ n L Z = F at KR hbt
    clear h hL ok hR
    generalize L 0 = l at hn KR
    obtain ⟨hn1, hn2, hl1, hl2⟩ := hn
    have hn0 : (0 : Int) < (n : Int) := by omega
    have hn0' : 0 < n := by omega
    have KT : Hid (Gm.Byt F) := hbt
    clear hbt
    go_enter Try.func27, Try.ntmps27
    go_wp2_with fail
    refine Calls.mono KR.out ?_
    rintro e w2 ⟨rfl, ⟨g, hM⟩, hb2⟩
    have hp := boxed w2 (.slice (some ⟨w.heap.size, 0, none⟩) n n) 55
    have hb3 : Below w2.heap.size w2 (w2.alloc (.cells #[.slice (some ⟨w.heap.size, 0, none⟩) n n] 55)) := (Below.refl _ _).alloc (Nat.le_refl _) _
    have hRd := MatU.rd hM hb3 hp
    have hd0 := (hM.below hb3).hdr (i := 0) (by omega)
    clear hM
    go_wp2_with fail
    generalize w2.alloc (.cells #[.slice (some ⟨w.heap.size, 0, none⟩) n n] 55) = W at *
    have KF : Hid _ := filled_any 67 #[.pointer (some ⟨w2.heap.size, 0, none⟩)] turnedEnter l n (fun i j => F j i) W.drew (turnedFill (hRd.below ⟨rfl, rfl, rfl, Nat.le_refl _, fun _ _ => rfl⟩)) (fun i j => KT.out j i) (by omega) (by omega)
    clear hRd
    have hpl := block_lt_of_cell hp
    have hdl := block_lt_of_cell hd0
    generalize g 0 = g0 at hd0
    go_region_held3 (fun w' => w'.cell? ⟨w2.heap.size, 0, none⟩ = some (.slice (some ⟨w.heap.size, 0, none⟩) n n) ∧ w'.cell? ⟨w.heap.size, 0, none⟩ = some (.slice (some ⟨g0, 0, none⟩) l l)) (go_keep) ((go_at_call 51; refine Calls.mono KF.out ?_; rintro e w5 ⟨rfl, ⟨A5, hM5⟩, hb5'⟩; have hb5 := below_of_drew hb5'; have KM : Hid _ := hM5; clear hb5' hM5; have hp5 := (hb5.cell (p := ⟨w2.heap.size, 0, none⟩) hpl).trans hp; have hd5 := (hb5.cell (p := ⟨w.heap.size, 0, none⟩) hdl).trans hd0))
    all_goals
      go_wp2
      go_ret2
      exact ⟨_, rfl, ResM.mk KM.out (Nat.le_trans hb2.size hb3.size), below2 (below2 hb2 hb3) hb5⟩
  · have KR : Hid _ := readM_no a n cap L Z w h hL ok
    have hR : turnR n L Z = 0 := by unfold turnR; rw [if_neg (by rw [okM_no ok]; simp)]
    rw [okM_no ok, hR]
    clear h hL ok
    go_enter Try.func27, Try.ntmps27
    go_wp2_with fail
    refine Calls.mono KR.out ?_
    rintro e w2 ⟨rfl, hb2⟩
    go_wp2
    go_ret2
    exact ⟨_, rfl, ResM.none _ _ _ _, below2 hb2 ((Below.refl _ _).alloc (Nat.le_refl _) _)⟩
end Go.Proofs.Ytojklpahobmleaa
