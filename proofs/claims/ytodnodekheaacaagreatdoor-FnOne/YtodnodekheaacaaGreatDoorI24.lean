import Derived.Test.YtodnodekheaacaaGreatDoorI19
import Derived.Test.YtodnodekheaacaaGreatDoorI18
import Derived.Test.YtodnodekheaacaaGreatDoorI6
import Derived.Test.YtodnodekheaacaaGreatDoorI14
import Derived.Deep.RegionLaw
import Derived.Deep.RegionHeld3
set_option maxHeartbeats 8000000
set_option maxRecDepth 2000
open Go.ChangeShapes Go.WideShapes Go.ChangeAt Go.RowKit
namespace Go.Proofs.YtodnodekheaacaaGreatDoor
theorem MatI.g {w : World} {B E : Nat} {a : Option Addr} {n cap : Nat} {A : Nat → Option Addr} {W : Nat} {C : Nat → Nat} {F : Nat → Nat → Nat} (h : MatI w B E a n cap A (fun _ => W) C (fun i j => ((F i j : Nat) : Int))) (hW : 0 < W) : ∃ g : Nat → Nat, MatI w B E a n cap (fun i => some ⟨g i, 0, none⟩) (fun _ => W) C (fun i j => ((F i j : Nat) : Int)) := by
 have hx : ∀ i, i < n → ∃ g, A i = some ⟨g, 0, none⟩ := fun i hi => by
  rcases own_shape (h.row i hi) with ⟨_, h0, _⟩ | ⟨g, _, e, _⟩
  ·omega
  ·exact ⟨g, e⟩
 refine ⟨fun i => if hi : i < n then Classical.choose (hx i hi) else 0, h.congr (fun i hi => ⟨?_, rfl, rfl, fun _ _ => rfl⟩)⟩
 simp only [hi, dif_pos]
 exact Classical.choose_spec (hx i hi)
theorem stepEnter : ∀ args w, (callFunc 161 args).run Tryz.prog w = .ok (.enter 161 args) w := enters_of Tryz.func161 (by kernel_rfl) rfl
def boxes (w : World) (G r cap n : Nat) : World := (((w.alloc (.cells #[.slice (some ⟨G, 0, none⟩) r cap] 186)).alloc (.cells #[.int .i64 (n : Int)] 3)).alloc (.cells #[.int .i64 0] 3)).alloc (.cells #[.int .i64 0] 3)
theorem boxes_below (w : World) (G r cap n : Nat) : Below w.heap.size w (boxes w G r cap n) :=
 ((((Below.refl _ _).alloc (Nat.le_refl _) _).alloc (by simp) _).alloc (by simp; omega) _).alloc (by simp; omega) _
theorem alloc_at (w : World) (o p : Obj) {b : Nat} (h : w.heap[b]? = some p) : (w.alloc o).heap[b]? = some p := by
 have hb := lt_of_block h
 rw [((Below.refl w.heap.size w).alloc (Nat.le_refl _) o).block b hb]
 exact h
theorem boxes_bs {Q : Nat → Prop} {w : World} {B G r cap W n : Nat} {g C : Nat → Nat} {A : Nat → Nat → Nat} (h : MatF w B w.heap.size G r cap g C W A) (hQ : ¬ Q G ∧ (∀ i, i < r → ¬ Q (g i)) ∧ ∀ b, Q b → b < w.heap.size) :
  BS Q (boxes w G r cap n) B w.heap.size G r cap W n (w.heap.size + 1 + 1 + 1) (w.heap.size + 1) (w.heap.size + 1 + 1) w.heap.size A 0 g C := by
 refine ⟨h.below (boxes_below w G r cap n), ?_, ?_, ?_, ?_, hQ.1, fun hh => by have := hQ.2.2 _ hh; omega, fun hh => by have := hQ.2.2 _ hh; omega, hQ.2.1⟩
 ·have e : (((w.alloc (.cells #[.slice (some ⟨G, 0, none⟩) r cap] 186)).alloc (.cells #[.int .i64 (n : Int)] 3)).alloc (.cells #[.int .i64 0] 3)).heap.size = w.heap.size + 1 + 1 + 1 := by simp
  rw [← e]
  exact heap_alloc_new _ _
 ·have e : (w.alloc (.cells #[.slice (some ⟨G, 0, none⟩) r cap] 186)).heap.size = w.heap.size + 1 := by simp
  rw [← e]
  exact alloc_at _ _ _ (alloc_at _ _ _ (heap_alloc_new _ _))
 ·have e : ((w.alloc (.cells #[.slice (some ⟨G, 0, none⟩) r cap] 186)).alloc (.cells #[.int .i64 (n : Int)] 3)).heap.size = w.heap.size + 1 + 1 := by simp
  rw [← e]
  exact alloc_at _ _ _ (heap_alloc_new _ _)
 ·exact alloc_at _ _ _ (alloc_at _ _ _ (alloc_at _ _ _ (heap_alloc_new w _)))
theorem bring_q (Q : Nat → Prop) (B G r cap W n : Nat) (g C : Nat → Nat) (A : Nat → Nat → Nat) (w : World) (h : MatF w B w.heap.size G r cap g C W A) (hA : Gm.Byt A) (hn : n ≤ W) (hW : W ≤ 1048576) (hr : r ≤ 1048576) (hQ : ¬ Q G ∧ (∀ i, i < r → ¬ Q (g i)) ∧ ∀ b, Q b → b < w.heap.size) :
  Calls Tryz.prog 140 #[.slice (some ⟨G, 0, none⟩) r cap, .int .i64 (n : Int)] w fun e w' => e = .returned (.int .i64 ((Gm.rd A r n).2 : Int)) ∧ (∃ g' C', MatF w' B w.heap.size G r cap g' C' W (Gm.rd A r n).1) ∧ Chg (fun b => B ≤ b ∧ ¬ Q b) w w' := by
 have hB : B ≤ w.heap.size := by have := h.olt; omega
 have K0 : Hid (BS Q (boxes w G r cap n) B w.heap.size G r cap W n (w.heap.size + 1 + 1 + 1) (w.heap.size + 1) (w.heap.size + 1 + 1) w.heap.size A 0 g C) := boxes_bs h hQ
 have KB0 : Hid (Chg (fun b => B ≤ b ∧ ¬ Q b) w (boxes w G r cap n)) := Chg.of_below _ (boxes_below w G r cap n)
 have KE : Hid (boxes w G r cap n = (((w.alloc (.cells #[.slice (some ⟨G, 0, none⟩) r cap] 186)).alloc (.cells #[.int .i64 (n : Int)] 3)).alloc (.cells #[.int .i64 0] 3)).alloc (.cells #[.int .i64 0] 3)) := rfl
 have KA : Hid (Gm.Byt A) := hA
 have eg := stepEnter
 clear h hA hQ
 go_enter Tryz.func140, Tryz.ntmps140
 go_wp2
 rw [← KE.out]
 clear KE
 obtain ⟨s0, hs0⟩ : ∃ s0, w.heap.size = s0 := ⟨_, rfl⟩
 rw [hs0] at K0 hB ⊢
 have KS : Hid (w.heap.size = s0) := hs0
 clear hs0
 go_loopg [9, 10] n (fun gk _ _ wr => ∃ k g C, k ≤ n ∧ n - k ≤ gk ∧ BS Q wr B s0 G r cap W n (s0 + 1 + 1 + 1) (s0 + 1) (s0 + 1 + 1) s0 A k g C ∧ Chg (fun b => B ≤ b ∧ ¬ Q b) w wr)
 case atStart => exact ⟨0, g, C, Nat.zero_le _, by omega, K0.out, KB0.out⟩
 case round =>
  obtain ⟨k, g1, C1, hk, hgk, hBS, hbel⟩ := hrel
  clear K0 KB0
  have hK := next_any Q B s0 G r cap W n (s0 + 1 + 1 + 1) (s0 + 1) (s0 + 1 + 1) s0 A k g1 C1 wr hBS KA.out hk hn hW hr hB (by omega) (by omega) (by omega) (Nat.le_refl _) (by omega) (by omega) (by omega) (by omega) (by omega) (by omega)
  have KK : Hid _ := hK
  clear hK hBS
  go_wp2_with fail
  refine Calls.mono KK.out ?_
  rintro e w2 (⟨k', g2, C2, h1, h2, rfl, hB2, hb2⟩ | ⟨rfl, hB2, hb2⟩)
  ·have KB2 : Hid (BS Q w2 B s0 G r cap W n (s0 + 1 + 1 + 1) (s0 + 1) (s0 + 1 + 1) s0 A k' g2 C2) := hB2
   have KL2 : Hid (Chg (fun b => B ≤ b ∧ ¬ Q b) w w2) := hbel.trans hb2
   clear hB2 hb2 hbel KK
   go_wp2
   go_roundg (n - k')
   case measure => omega
   case rel => exact ⟨k', g2, C2, h2, Nat.le_refl _, KB2.out, KL2.out⟩
  ·have cs := cell_of_one hB2.st
   have KB2 : Hid (BS Q w2 B s0 G r cap W n (s0 + 1 + 1 + 1) (s0 + 1) (s0 + 1 + 1) s0 A n g1 C1) := hB2
   have KL2 : Hid (Chg (fun b => B ≤ b ∧ ¬ Q b) w w2) := hbel.trans hb2
   clear hB2 hb2 hbel KK
   go_wp2
   go_ret
   refine ⟨rfl, ⟨g1, C1, ?_⟩, KL2.out⟩
   first | exact KB2.out.mat | (rw [KS.out]; exact KB2.out.mat)
theorem rk_congr {A B : Nat → Nat → Nat} (hA : Gm.Byt A) (hB : Gm.Byt B) {r W : Nat} (h : ∀ i j, i < r → j < W → A i j = B i j) : Gm.rk A r W = Gm.rk B r W := by
 apply Nat.le_antisymm
 ·obtain ⟨X, Y, hh⟩ := Gm.rk_fac hB r W
  exact Gm.rk_le hA (X := X) (Y := Y) (fun i j hi hj => (h i j hi hj).trans (hh i j hi hj))
 ·obtain ⟨X, Y, hh⟩ := Gm.rk_fac hA r W
  exact Gm.rk_le hB (X := X) (Y := Y) (fun i j hi hj => (h i j hi hj).symm.trans (hh i j hi hj))
theorem bZ_at {r c : Nat} {F : Nat → Nat → Nat} {i j : Nat} (hi : i < r) (hj : j < c) (hF : F i j < 256) : bZ r (fun _ => c) (fun i j => ((F i j : Nat) : Int)) i j = F i j := by
 unfold bZ cZ
 rw [if_pos ⟨hi, hj⟩, Int.toNat_natCast, Nat.mod_eq_of_lt hF]
theorem okM_of {r c : Nat} {F : Nat → Nat → Nat} (h1 : 1 ≤ r) (h2 : r ≤ 16) (h3 : 1 ≤ c) (h4 : c ≤ 16) (hF : Gm.Byt F) : OkM r (fun _ => c) (fun i j => ((F i j : Nat) : Int)) :=
 ⟨h1, h2, h3, h4, fun i _ => ⟨rfl, fun j _ => isB_ofNat (hF i j)⟩⟩
theorem ResM.at {w w' : World} {v : Value} {r c : Nat} {F : Nat → Nat → Nat} (h : ResM w w' v r c F) : ∃ a cap, v = .slice a r cap ∧ MatAt w' a r (fun _ => c) (fun i j => ((F i j : Nat) : Int)) := by
 obtain ⟨a, cap, A, C, rfl, hM⟩ := h
 exact ⟨a, cap, rfl, hM.at⟩
theorem inv1_any (pb sb n c i j : Nat) (F : Nat → Nat → Nat) (w : World) (h : RdU w pb n c F) (hs : w.cell? ⟨sb, 0, none⟩ = some (.int .i64 (n : Int))) (hi : i < n) (hj : n + j < c) (hc : c ≤ 1000) :
  Calls Tryz.prog 141 #[.int .i64 (i : Int), .int .i64 (j : Int), .pointer (some ⟨pb, 0, none⟩), .pointer (some ⟨sb, 0, none⟩)] w fun e w' => e = .returned (.int .u8 ((F i (n + j) : Nat) : Int)) ∧ Below w.heap.size w w' := by
 obtain ⟨G, cap, hp, hr⟩ := h
 obtain ⟨g, cc, hcl, he⟩ := hr i hi
 have hel := he (n + j) hj
 have hi' : (i : Int) < (n : Int) := by omega
 have hj' : (n : Int) + (j : Int) < (c : Int) := by omega
 have hw : IntKind.i64.wrap ((n : Int) + (j : Int)) = ((n + j : Nat) : Int) := by rw [IntKind.wrap_i64]; omega
 clear he hr
 generalize F i (n + j) = X at hel
 go_enter Tryz.func141, Tryz.ntmps141
 go_wp2
 go_quiet (fail)
 go_wp2
 go_ret
 exact ⟨rfl, below_drewN (Below.refl _ _) _⟩
theorem invEnter : ∀ args w, (callFunc 141 args).run Tryz.prog w = .ok (.enter 141 args) w := enters_of Tryz.func141 (by kernel_rfl) rfl
theorem invFill {pb sb n c : Nat} {F : Nat → Nat → Nat} {w : World} (h : RdU w pb n c F) (hs : w.cell? ⟨sb, 0, none⟩ = some (.int .i64 (n : Int))) (hc : c = n + n) (hn : n ≤ 16) : FillBy 141 #[.pointer (some ⟨pb, 0, none⟩), .pointer (some ⟨sb, 0, none⟩)] n n (fun i j => F i (n + j)) w := fun W i j hb hi hj =>
 inv1_any pb sb n c i j F W (h.below hb) ((hb.cell (p := ⟨sb, 0, none⟩) (block_lt_of_cell hs)).trans hs) hi (by omega) (by omega)
def wid (n k q i : Nat) : Nat := if i < k then n + n else if i = k then n + q else n
theorem aug_snoc (A : Nat → Nat → Nat) (n k q : Nat) : ((zI (fun j => ((Gm.aug A n k j : Nat) : Int)) (n + q)).map (Value.int .u8)) ++ [.int .u8 ((Gm.dl k q : Nat) : Int)] = (zI (fun j => ((Gm.aug A n k j : Nat) : Int)) (n + q + 1)).map (Value.int .u8) := by
 unfold zI
 rw [List.range_succ, List.map_append, List.map_append]
 have e : Gm.aug A n k (n + q) = Gm.dl k q := by unfold Gm.aug; rw [if_neg (by omega), show n + q - n = q by omega]
 simp [e]
def InvOk (n : Nat) (L : Nat → Nat) (Z : Nat → Nat → Int) : Prop := OkM n L Z ∧ n = L 0 ∧ Gm.rk (bZ n L Z) n n = n
noncomputable def ivOk (n : Nat) (L : Nat → Nat) (Z : Nat → Nat → Int) : Bool := @decide (InvOk n L Z) (Classical.propDecidable _)
theorem ivOk_yes {n : Nat} {L : Nat → Nat} {Z : Nat → Nat → Int} (h : InvOk n L Z) : ivOk n L Z = true := by unfold ivOk; exact @decide_eq_true _ (Classical.propDecidable _) h
theorem ivOk_no {n : Nat} {L : Nat → Nat} {Z : Nat → Nat → Int} (h : ¬ InvOk n L Z) : ivOk n L Z = false := by unfold ivOk; exact @decide_eq_false _ (Classical.propDecidable _) h
noncomputable def ivR (n : Nat) (L : Nat → Nat) (Z : Nat → Nat → Int) : Nat := if ivOk n L Z = true then n else 0
theorem ivR_yes {n : Nat} {L : Nat → Nat} {Z : Nat → Nat → Int} (h : InvOk n L Z) : ivR n L Z = n := by unfold ivR; rw [if_pos (ivOk_yes h)]
theorem ivR_no {n : Nat} {L : Nat → Nat} {Z : Nat → Nat → Int} (h : ¬ InvOk n L Z) : ivR n L Z = 0 := by unfold ivR; rw [if_neg (by rw [ivOk_no h]; simp)]
theorem MatU.g {w : World} {B E : Nat} {a : Option Addr} {n cap : Nat} {A : Nat → Option Addr} {W : Nat} {C : Nat → Nat} {F : Nat → Nat → Nat} (h : MatU w B E a n cap A (fun _ => W) C (fun i j => ((F i j : Nat) : Int))) (hW : 0 < W) : ∃ g : Nat → Nat, MatU w B E a n cap (fun i => some ⟨g i, 0, none⟩) (fun _ => W) C (fun i j => ((F i j : Nat) : Int)) := by
 have hx : ∀ i, i < n → ∃ g, A i = some ⟨g, 0, none⟩ := fun i hi => by
  rcases own_shape (h.row i hi) with ⟨_, h0, _⟩ | ⟨g, _, e, _⟩
  ·omega
  ·exact ⟨g, e⟩
 refine ⟨fun i => if hi : i < n then Classical.choose (hx i hi) else 0, h.congr (fun i hi => ⟨?_, rfl, rfl, fun _ _ => rfl⟩)⟩
 simp only [hi, dif_pos]
 exact Classical.choose_spec (hx i hi)
set_option maxRecDepth 100000 in
theorem inv_any' (a : Option Addr) (n ca : Nat) (L : Nat → Nat) (Z : Nat → Nat → Int) (w : World) (h : MatAt w a n L Z) (hL : ∀ i, i < n → L i ≤ 1048576) :
  Calls Tryz.prog 99 #[.slice a n ca] w fun e w' => ∃ v, e = .returned (.tuple #[v, .bool (ivOk n L Z)]) ∧ ResM w w' v (ivR n L Z) n (Gm.iv (bZ n L Z) n) ∧ Below w.heap.size w w' := by
 by_cases ok : OkM n L Z
 case neg =>
  have KR : Hid _ := readM_no a n ca L Z w h hL ok
  rw [ivOk_no (fun hh => ok hh.1), ivR_no (fun hh => ok hh.1)]
  clear h hL ok
  go_enter Tryz.func99, Tryz.ntmps99
  go_wp2_with fail
  refine Calls.mono KR.out ?_
  rintro e w2 ⟨rfl, hb2⟩
  go_wp2
  go_quiet (fail)
  go_wp2
  go_ret2
  exact ⟨_, rfl, ResM.none _ _ _ _, below_drewN (below2 hb2 ((Below.refl _ _).alloc (Nat.le_refl _) _)) _⟩
 have KR : Hid _ := readM_b a n ca L Z w h ok
 have hn1 : 1 ≤ n := ok.1
 have hn2 : n ≤ 16 := ok.2.1
 have hl1 : 1 ≤ L 0 := ok.2.2.1
 have hl2 : L 0 ≤ 16 := ok.2.2.2.1
 have KBY : Hid (Gm.Byt (bZ n L Z)) := bZ_byt n L Z
 have KY : Hid (n = L 0 → Gm.rk (bZ n L Z) n n = n → ivOk n L Z = true ∧ ivR n L Z = n) := fun e1 e2 => ⟨ivOk_yes ⟨ok, e1, e2⟩, ivR_yes ⟨ok, e1, e2⟩⟩
 have KN : Hid (¬ (n = L 0 ∧ Gm.rk (bZ n L Z) n n = n) → ivOk n L Z = false ∧ ivR n L Z = 0) := fun hno => ⟨ivOk_no (fun hh => hno hh.2), ivR_no (fun hh => hno hh.2)⟩
 generalize ivOk n L Z = okf at KY KN
 generalize ivR n L Z = R at KY KN
 generalize bZ n L Z = P at KR KBY KY KN
 clear h hL ok
 generalize L 0 = l at *
 by_cases hnl : n = l
 case neg =>
  obtain ⟨rfl, rfl⟩ := KN.out (fun hh => hnl hh.1)
  have hne : ((n : Int) != (l : Int)) = true := by simp; omega
  have hn0' : 0 < n := by omega
  go_enter Tryz.func99, Tryz.ntmps99
  go_wp2_with fail
  refine Calls.mono KR.out ?_
  rintro e w2 ⟨rfl, ⟨g, hM⟩, hb2⟩
  have hb3 : Below w2.heap.size w2 (w2.alloc (.cells #[.slice (some ⟨w.heap.size, 0, none⟩) n n] 186)) := (Below.refl _ _).alloc (Nat.le_refl _) _
  have hp := boxed w2 (.slice (some ⟨w.heap.size, 0, none⟩) n n) 186
  have hd0 := (hM.below hb3).hdr (i := 0) (by omega)
  clear hM
  generalize g 0 = g0 at hd0
  go_wp2
  go_quiet (fail)
  go_wp2
  go_ret2
  exact ⟨_, rfl, ResM.none _ _ _ _, below_drewN (below2 hb2 hb3) _⟩
 subst hnl
 obtain ⟨i0, hi, hz0, hz1, hz2⟩ := info_parts Tryz.infoElem
 have hn0' : 0 < n := by omega
 have hne : ((n : Int) != (n : Int)) = false := by simp
 go_enter Tryz.func99, Tryz.ntmps99
 go_wp2_with fail
 refine Calls.mono KR.out ?_
 rintro e w2 ⟨rfl, ⟨g, hM⟩, hb2⟩
 have hb3 : Below w2.heap.size w2 (w2.alloc (.cells #[.slice (some ⟨w.heap.size, 0, none⟩) n n] 186)) := (Below.refl _ _).alloc (Nat.le_refl _) _
 have hp := boxed w2 (.slice (some ⟨w.heap.size, 0, none⟩) n n) 186
 have hph := heap_alloc_new w2 (.cells #[.slice (some ⟨w.heap.size, 0, none⟩) n n] 186)
 have hM3 := (hM.below hb3).wide hb3.size
 have hd0 := hM3.hdr (i := 0) (by omega)
 have KM3 : Hid (MatU (w2.alloc (.cells #[.slice (some ⟨w.heap.size, 0, none⟩) n n] 186)) w.heap.size (w2.alloc (.cells #[.slice (some ⟨w.heap.size, 0, none⟩) n n] 186)).heap.size (some ⟨w.heap.size, 0, none⟩) n n (fun i => some ⟨g i, 0, none⟩) (fun _ => n) (fun _ => n) (fun i j => ((P i j : Nat) : Int))) := hM3
 have KB3 : Hid (Below w.heap.size w (w2.alloc (.cells #[.slice (some ⟨w.heap.size, 0, none⟩) n n] 186))) := below2 hb2 hb3
 have hs2 := hb2.size
 have hsz3 : (w2.alloc (.cells #[.slice (some ⟨w.heap.size, 0, none⟩) n n] 186)).heap.size = w2.heap.size + 1 := by simp
 clear hM hM3 KR hb2 hb3
 generalize g 0 = g0 at hd0
 obtain ⟨pb, hpb⟩ : ∃ pb, w2.heap.size = pb := ⟨_, rfl⟩
 rw [hpb] at hp hph hs2 hsz3
 obtain ⟨W3, hW3⟩ : ∃ W3, w2.alloc (.cells #[.slice (some ⟨w.heap.size, 0, none⟩) n n] 186) = W3 := ⟨_, rfl⟩
 rw [hW3] at hp hph hd0 KM3 KB3 hsz3
 have KW3 : Hid (w2.alloc (.cells #[.slice (some ⟨w.heap.size, 0, none⟩) n n] 186) = W3) := hW3
 clear hW3
 have HQ : Hid (∀ m, MatU ((W3.drewN m).alloc (.cells #[.int .i64 (n : Int)] 3)) w.heap.size ((W3.drewN m).alloc (.cells #[.int .i64 (n : Int)] 3)).heap.size (some ⟨w.heap.size, 0, none⟩) n n (fun i => some ⟨g i, 0, none⟩) (wid n 0 0) (fun _ => n) (fun i j => ((Gm.aug P n i j : Nat) : Int)) ∧ ((W3.drewN m).alloc (.cells #[.int .i64 (n : Int)] 3)).heap[pb]? = some (.cells #[.slice (some ⟨w.heap.size, 0, none⟩) n n] 186 (0, 0)) ∧ ((W3.drewN m).alloc (.cells #[.int .i64 (n : Int)] 3)).heap[pb + 1]? = some (.cells #[.int .i64 (n : Int)] 3 (0, 0)) ∧ Below w.heap.size w ((W3.drewN m).alloc (.cells #[.int .i64 (n : Int)] 3))) := fun m => by
  have hx : Below W3.heap.size W3 ((W3.drewN m).alloc (.cells #[.int .i64 (n : Int)] 3)) := (below_drewN (Below.refl _ _) m).alloc (Nat.le_refl _) _
  refine ⟨((KM3.out.below hx).wide hx.size).congr (fun i hi => ⟨rfl, ?_, rfl, fun j hj => ?_⟩), ?_, ?_, below2 KB3.out hx⟩
  ·unfold wid; rw [if_neg (by omega)]; split <;> omega
  ·unfold Gm.aug; rw [if_pos hj]
  ·rw [hx.block pb (by omega)]; exact hph
  ·have h1 := heap_alloc_new (W3.drewN m) (.cells #[.int .i64 (n : Int)] 3)
   rw [show (W3.drewN m).heap.size = pb + 1 from hsz3] at h1
   exact h1
 obtain ⟨sb, hsb⟩ : ∃ sb, pb + 1 = sb := ⟨_, rfl⟩
 have hsz4 : W3.heap.size = sb := by omega
 rw [hsb] at HQ
 have hpsb : pb < sb := by omega
 clear KM3 KB3 hsz3 hsb
 go_wp2
 rw [KW3.out]
 go_quiet (fail)
 clear KW3 hd0 hph
 have hpl3 := block_lt_of_cell hp
 have hp4 : ∀ m, ((W3.drewN m).alloc (.cells #[.int .i64 (n : Int)] 3)).cell? ⟨pb, 0, none⟩ = some (.slice (some ⟨w.heap.size, 0, none⟩) n n) := fun m => (((below_drewN (Below.refl W3.heap.size W3) m).alloc (Nat.le_refl _) (.cells #[.int .i64 (n : Int)] 3)).cell (p := ⟨pb, 0, none⟩) hpl3).trans hp
 go_wp2
 clear hsz4 hpb hp hp4 hpl3
 go_loopw [29] (fun v wr => ∃ (k : Nat) (A : Nat → Option Addr) (C : Nat → Nat), k ≤ n ∧ v = .int .i64 (k : Int) ∧ MatU wr w.heap.size wr.heap.size (some ⟨w.heap.size, 0, none⟩) n n A (wid n k 0) C (fun i j => ((Gm.aug P n i j : Nat) : Int)) ∧ wr.heap[pb]? = some (.cells #[.slice (some ⟨w.heap.size, 0, none⟩) n n] 186 (0, 0)) ∧ wr.heap[sb]? = some (.cells #[.int .i64 (n : Int)] 3 (0, 0)) ∧ Below w.heap.size w wr) (fun v _ => n - (intOf v).toNat)
 case atStart => exact ⟨0, _, _, Nat.zero_le _, rfl, HQ.out _⟩
 case round =>
  obtain ⟨k, A, C, hk, rfl, hM, hpb, hsb, hbel⟩ := hrel
  clear HQ
  have cp := cell_of_one hpb
  have cs := cell_of_one hsb
  by_cases hlt : k < n
  ·have hki : (k : Int) < (n : Int) := by omega
   have KM : Hid (MatU wr w.heap.size wr.heap.size (some ⟨w.heap.size, 0, none⟩) n n A (wid n k 0) C (fun i j => ((Gm.aug P n i j : Nat) : Int))) := hM
   have KPB : Hid (wr.heap[pb]? = some (.cells #[.slice (some ⟨w.heap.size, 0, none⟩) n n] 186 (0, 0))) := hpb
   have KSB : Hid (wr.heap[sb]? = some (.cells #[.int .i64 (n : Int)] 3 (0, 0))) := hsb
   have KBe : Hid (Below w.heap.size w wr) := hbel
   clear hM hpb hsb hbel
   go_wp2
   clear cp cs
   go_loopw [33] (fun v wr => ∃ (q : Nat) (A : Nat → Option Addr) (C : Nat → Nat), q ≤ n ∧ v = .int .i64 (q : Int) ∧ MatU wr w.heap.size wr.heap.size (some ⟨w.heap.size, 0, none⟩) n n A (wid n k q) C (fun i j => ((Gm.aug P n i j : Nat) : Int)) ∧ wr.heap[pb]? = some (.cells #[.slice (some ⟨w.heap.size, 0, none⟩) n n] 186 (0, 0)) ∧ wr.heap[sb]? = some (.cells #[.int .i64 (n : Int)] 3 (0, 0)) ∧ Below w.heap.size w wr) (fun v _ => n - (intOf v).toNat)
   case atStart => exact ⟨0, _, _, Nat.zero_le _, rfl, KM.out, KPB.out, KSB.out, KBe.out⟩
   case round =>
    obtain ⟨q, A, C, hq, rfl, hM, hpb, hsb, hbel⟩ := hrel
    clear KM KPB KSB KBe
    by_cases hqn : q < n
    ·have hqi : (q : Int) < (n : Int) := by omega
     have cp := cell_of_one hpb
     have hwk : wid n k q k = n + q := by unfold wid; rw [if_neg (by omega), if_pos rfl]
     obtain ⟨gk, hgk, hgkl, hgt⟩ : ∃ gk, A k = some ⟨gk, 0, none⟩ ∧ gk < wr.heap.size ∧ ∃ cur, wr.heap[gk]? = some (.cells cur 104 (0, 0)) := by
      rcases own_shape (hM.row k hlt) with ⟨_, h0, _⟩ | ⟨gk, cur, e, _, hg, _⟩
      ·omega
      ·exact ⟨gk, e, (hM.glt hlt e).2, cur, hg⟩
     obtain ⟨cur, hcur⟩ := hgt
     have hpg : pb ≠ gk := fun e => by rw [e, hcur] at hpb; cases hpb
     have hsg : sb ≠ gk := fun e => by rw [e, hcur] at hsb; cases hsb
     have hpG : pb ≠ w.heap.size := fun e => by
      rcases own_shape hM.out with ⟨h', _⟩ | ⟨g2, c2, e2, _, hg2, _⟩
      ·cases h'
      ·cases e2
       rw [e, hg2] at hpb
       cases hpb
     have hsG : sb ≠ w.heap.size := fun e => by
      rcases own_shape hM.out with ⟨h', _⟩ | ⟨g2, c2, e2, _, hg2, _⟩
      ·cases h'
      ·cases e2
       rw [e, hg2] at hsb
       cases hsb
     have hhd := hM.hdr hlt
     have hrow := hM.row k hlt
     rw [hwk] at hhd hrow
     rw [hgk] at hhd hrow
     have hGl := hM.olt.2
     have hpl := (Array.getElem?_eq_some_iff.1 hpb).1
     have hsl := (Array.getElem?_eq_some_iff.1 hsb).1
     have KM : Hid (MatU wr w.heap.size wr.heap.size (some ⟨w.heap.size, 0, none⟩) n n A (wid n k q) C (fun i j => ((Gm.aug P n i j : Nat) : Int))) := hM
     have KPB : Hid (wr.heap[pb]? = some (.cells #[.slice (some ⟨w.heap.size, 0, none⟩) n n] 186 (0, 0))) := hpb
     have KSB : Hid (wr.heap[sb]? = some (.cells #[.int .i64 (n : Int)] 3 (0, 0))) := hsb
     have KBe : Hid (Below w.heap.size w wr) := hbel
     have KGK : Hid (A k = some ⟨gk, 0, none⟩) := hgk
     have KROW : Hid (wr.ownsRow w.heap.size 104 1 (.slice (some ⟨gk, 0, none⟩) (n + q) (C k)) (n + q) ((zI (fun j => ((Gm.aug P n k j : Nat) : Int)) (n + q)).map (Value.int .u8))) := hrow
     have hszw := hbel.size
     clear hM hpb hsb hbel hgk hrow hcur
     obtain ⟨ck, hck⟩ : ∃ ck, C k = ck := ⟨_, rfl⟩
     obtain ⟨d, hd⟩ : ∃ d, Gm.dl k q = d := ⟨_, rfl⟩
     have KU : Hid (∀ W : World, Calls Tryz.prog 67 #[.int .i64 (k : Int), .int .i64 (q : Int)] W fun e w' => e = .returned (.int .u8 (d : Int)) ∧ w' = W) := by rw [← hd]; exact fun W => unitAt_any k q W
     have KD : Hid (Gm.dl k q = d) := hd
     rw [hck] at hhd KROW
     clear hck hd
     go_wp2_with fail
     go_region_law ((first | (refine step_append_lies _ (by rfl) _ _ _ (by rfl) w.heap.size 104 i0 _ 1 1 Tryz.underlying189 hi hz0 hz1 hz2 rfl (by omega) (.slice (some ⟨gk, 0, none⟩) (n + q) ck) (n + q) _ (by rfl) ((World.ownsRow.alloc KROW.out _).drew) ⟨wr.heap.size, 0, none⟩ 1 1 [.int .u8 (d : Int)] (by rfl) (by rfl) (World.news_of_block (cs := #[.int .u8 (d : Int)]) (t := 104) (fr := (0, 0)) (heap_alloc_new wr _)) (by simp [Value.oneCell']) (by omega) (by unfold maxLen; omega) (by omega) (by simp; omega) (wr.heap.size + 1) (by simp) ?_; intro g2 cap3 w6 hown6 hgrow6 hat6 hltg6; have hba : Below wr.heap.size wr (wr.drew.alloc (.cells #[.int .u8 (d : Int)] 104)) := ((Below.refl _ _).drew).alloc (Nat.le_refl _) _; have hgrow6' : (wr.drew.alloc (.cells #[.int .u8 (d : Int)] 104)).grownBy w6 (some gk) := hgrow6; have cp6 := hgrow6'.cell ((hba.cell (p := ⟨pb, 0, none⟩) hpl).trans cp) (by simp; exact hpg); have hsz6 : wr.heap.size + 1 ≤ w6.heap.size := (by have := hgrow6'.size; simpa using this); have h7 := MatZ.grew (z := fun j => ((Gm.aug P n k j : Nat) : Int)) (E' := w6.heap.size) teNe (KM.out.below hba) hlt KGK.out hgrow6' (by rw [← aug_snoc, KD.out]; exact hown6) (by rcases hat6 with e | e; cases e; exact .inl rfl; right; rw [e]; simp) (by omega) hltg6; obtain ⟨hold7, hfr7, HM7', HG7'⟩ := h7; have HM7 : Hid _ := HM7'; have HG7 : Hid _ := HG7'; rw [KGK.out] at hold7; clear HM7' HG7' hown6 hgrow6) | (go_simp; go_wp2_with (go_at_call 67; refine (KU.out _).mono ?_; rintro e w5 ⟨rfl, hw5⟩; obtain rfl := hw5.symm))))
     all_goals
      have KE : Hid (wr.heap.size ≤ w6.heap.size) := Nat.le_of_succ_le hsz6
      have HM8 : Hid (MatU (w6.setCell ⟨w.heap.size, k, none⟩ (.slice (some ⟨g2, 0, none⟩) (n + q + 1) cap3)) w.heap.size (w6.setCell ⟨w.heap.size, k, none⟩ (.slice (some ⟨g2, 0, none⟩) (n + q + 1) cap3)).heap.size (some ⟨w.heap.size, 0, none⟩) n n (fun j => if j = k then some ⟨g2, 0, none⟩ else A j) (wid n k (q + 1)) (fun j => if j = k then cap3 else C j) (fun i j => ((Gm.aug P n i j : Nat) : Int))) :=
       (HM7.out.wide HG7.out.size).congr (fun i hi => ⟨rfl, by
        unfold wid
        by_cases e : i = k
        ·rw [if_pos e, if_neg (by omega), if_pos e]; omega
        ·rw [if_neg e]
         by_cases e2 : i < k
         ·rw [if_pos e2, if_pos e2]
         ·rw [if_neg e2, if_neg e, if_neg e2, if_neg e], rfl, fun j _ => by
        by_cases e : i = k
        ·rw [if_pos e, e]
        ·rw [if_neg e]⟩)
      have HPB : Hid ((w6.setCell ⟨w.heap.size, k, none⟩ (.slice (some ⟨g2, 0, none⟩) (n + q + 1) cap3)).heap[pb]? = some (.cells #[.slice (some ⟨w.heap.size, 0, none⟩) n n] 186 (0, 0))) := by
       show _ = _
       rw [HG7.out.block pb (by omega) (by simp; exact hpG), hgrow6'.block pb (by simp; omega) (by simp; exact hpg), hba.block pb hpl]
       exact KPB.out
      have HSB : Hid ((w6.setCell ⟨w.heap.size, k, none⟩ (.slice (some ⟨g2, 0, none⟩) (n + q + 1) cap3)).heap[sb]? = some (.cells #[.int .i64 (n : Int)] 3 (0, 0))) := by
       show _ = _
       rw [HG7.out.block sb (by omega) (by simp; exact hsG), hgrow6'.block sb (by simp; omega) (by simp; exact hsg), hba.block sb hsl]
       exact KSB.out
      have HBe : Hid (Below w.heap.size w (w6.setCell ⟨w.heap.size, k, none⟩ (.slice (some ⟨g2, 0, none⟩) (n + q + 1) cap3))) := ((below2 KBe.out hba).grown hgrow6' (by simp; omega) (fun j hj => by cases hj; exact (KM.out.glt hlt KGK.out).1)).setCell (Nat.le_refl _) _
      clear HM7 HG7 hgrow6' hba cp6 hold7 hfr7 cp KM KPB KSB KBe KROW KU KE
      go_wp2
      go_roundw
      case rel => exact ⟨q + 1, _, _, by omega, by go_num, HM8.out, HPB.out, HSB.out, HBe.out⟩
      case measure => simp [intOf] <;> omega
    ·obtain rfl : q = n := by omega
     have HM8 : Hid (MatU wr w.heap.size wr.heap.size (some ⟨w.heap.size, 0, none⟩) q q A (wid q (k + 1) 0) C (fun i j => ((Gm.aug P q i j : Nat) : Int))) := hM.congr (fun i hi => ⟨rfl, by
      unfold wid
      by_cases e : i < k
      ·rw [if_pos e, if_pos (by omega)]
      ·rw [if_neg e]
       by_cases e2 : i = k
       ·rw [if_pos e2, if_pos (by omega)]
       ·rw [if_neg e2, if_neg (by omega)]
        split <;> omega, rfl, fun j _ => rfl⟩)
     have HPB : Hid (wr.heap[pb]? = some (.cells #[.slice (some ⟨w.heap.size, 0, none⟩) q q] 186 (0, 0))) := hpb
     have HSB : Hid (wr.heap[sb]? = some (.cells #[.int .i64 (q : Int)] 3 (0, 0))) := hsb
     clear hM hpb hsb
     go_wp2
     go_roundw
     case rel => exact ⟨k + 1, _, _, by omega, by go_num, HM8.out, HPB.out, HSB.out, hbel⟩
     case measure => simp [intOf] <;> omega
  ·obtain rfl : k = n := by omega
   have hki : ¬ (k : Int) < (k : Int) := by omega
   have hMF : MatU wr w.heap.size wr.heap.size (some ⟨w.heap.size, 0, none⟩) k k A (fun _ => k + k) C (fun i j => ((Gm.aug P k i j : Nat) : Int)) := hM.congr (fun i hi => ⟨rfl, by unfold wid; rw [if_pos hi], rfl, fun j _ => rfl⟩)
   obtain ⟨g1, hMg⟩ := MatU.g hMF (by omega)
   have hnq : ¬ (w.heap.size = pb ∨ w.heap.size = sb) ∧ (∀ i, i < k → ¬ (g1 i = pb ∨ g1 i = sb)) ∧ ∀ b, (b = pb ∨ b = sb) → b < wr.drew.heap.size := by
    refine ⟨fun e => ?_, fun i hi e => ?_, fun b e => ?_⟩
    ·rcases own_shape hMg.out with ⟨h', _⟩ | ⟨g2, c2, e2, _, hg2, _⟩
     ·cases h'
     ·cases e2
      rcases e with e | e
      ·rw [← e, hg2] at hpb; cases hpb
      ·rw [← e, hg2] at hsb; cases hsb
    ·rcases own_shape (hMg.row i hi) with ⟨h', _⟩ | ⟨g2, c2, e2, _, hg2, _⟩
     ·cases h'
     ·cases e2
      rcases e with e | e
      ·rw [← e, hg2] at hpb; cases hpb
      ·rw [← e, hg2] at hsb; cases hsb
    ·rcases e with rfl | rfl
     ·exact (Array.getElem?_eq_some_iff.1 hpb).1
     ·exact (Array.getElem?_eq_some_iff.1 hsb).1
   have KBr : Hid _ := bring_q (fun b => b = pb ∨ b = sb) w.heap.size w.heap.size k k (k + k) k g1 C (Gm.aug P k) wr.drew (show MatF wr.drew w.heap.size wr.drew.heap.size w.heap.size k k g1 C (k + k) (Gm.aug P k) from ⟨hMg.out, hMg.oE, hMg.row, hMg.rE, hMg.apart⟩) (Gm.aug_byt KBY.out k) (by omega) (by omega) (by omega) hnq
   rw [Gm.rk_aug] at KBr
   have KPB : Hid (wr.heap[pb]? = some (.cells #[.slice (some ⟨w.heap.size, 0, none⟩) k k] 186 (0, 0))) := hpb
   have KSB : Hid (wr.heap[sb]? = some (.cells #[.int .i64 (k : Int)] 3 (0, 0))) := hsb
   have KIV : Hid (∀ i j, Gm.iv P k i j = (Gm.rd (Gm.aug P k) k k).1 i (k + j)) := fun _ _ => rfl
   have hrl := Gm.rk_r KBY.out k k
   have KIB : Hid (Gm.Byt (Gm.iv P k)) := Gm.iv_byt KBY.out k
   have hszw := hbel.size
   clear hM hMF hMg hnq hpb hsb
   generalize Gm.rk P k k = R0 at KBr hrl KY KN
   generalize (Gm.rd (Gm.aug P k) k k).1 = FF at KBr KIV
   by_cases hR : R0 = k
   ·have hR0 : ¬ (R0 : Int) < (k : Int) := by omega
    obtain ⟨rfl, ho2⟩ := KY.out (by trivial) hR
    have ho3 := ho2.symm
    clear ho2
    subst ho3
    go_wp2_with fail
    go_region_held3 (fun w' => w'.cell? ⟨pb, 0, none⟩ = some (.slice (some ⟨w.heap.size, 0, none⟩) k k) ∧ w'.cell? ⟨sb, 0, none⟩ = some (.int .i64 (k : Int))) (go_keep) ((go_at_call 140; refine Calls.mono KBr.out ?_; rintro e w5 ⟨rfl, ⟨g5, C5, hM5⟩, hch⟩; have hpb5 := hch.at KPB.out (by simp); have hsb5 := hch.at KSB.out (by simp); have cp5 := cell_of_one hpb5; have cs5 := cell_of_one hsb5; have KM5 : Hid _ := hM5; have hb5 : Below w.heap.size wr w5 := ⟨hch.os, hch.tape, hch.output, hch.size, fun j hj => hch.block j (Nat.lt_of_lt_of_le hj hszw) (fun h => absurd h.1 (Nat.not_le_of_lt hj))⟩; clear hM5 hpb5 hsb5 hch))
    all_goals
     have hRd : RdU w5 pb k (k + k) FF := MatU.rd KM5.out (Below.refl _ _) cp5
     have KF : Hid _ := filled_any 141 #[.pointer (some ⟨pb, 0, none⟩), .pointer (some ⟨sb, 0, none⟩)] invEnter k k (fun i j => FF i (k + j)) w5 (invFill hRd cs5 rfl hn2) (fun i j => by rw [← KIV.out]; exact KIB.out i j) (by omega) (by omega)
     have hs5 := hb5.size
     clear hRd KM5 KBr
     go_wp2_with fail
     refine Calls.mono KF.out ?_
     rintro e w6 ⟨rfl, ⟨A6, hM6⟩, hb6⟩
     have KM : Hid (MatI w6 w5.heap.size w6.heap.size (some ⟨w5.heap.size, 0, none⟩) k k A6 (fun _ => k) (fun _ => k) (fun i j => ((Gm.iv P k i j : Nat) : Int))) := hM6.congr (fun i _ => ⟨rfl, rfl, rfl, fun j _ => by rw [KIV.out]⟩)
     clear hM6 KF
     go_wp2
     go_ret2
     exact ⟨_, rfl, ResM.mk KM.out (Nat.le_trans hszw hs5), below2 (hbel.trans hb5) hb6⟩
   ·have hR0 : (R0 : Int) < (k : Int) := by omega
    obtain ⟨rfl, rfl⟩ := KN.out (fun hh => hR hh.2)
    go_wp2_with fail
    go_region_held3 (fun w' => w'.cell? ⟨pb, 0, none⟩ = some (.slice (some ⟨w.heap.size, 0, none⟩) k k) ∧ w'.cell? ⟨sb, 0, none⟩ = some (.int .i64 (k : Int))) (go_keep) ((go_at_call 140; refine Calls.mono KBr.out ?_; rintro e w5 ⟨rfl, _, hch⟩; have hpb5 := hch.at KPB.out (by simp); have hsb5 := hch.at KSB.out (by simp); have cp5 := cell_of_one hpb5; have cs5 := cell_of_one hsb5; have hb5 : Below w.heap.size wr w5 := ⟨hch.os, hch.tape, hch.output, hch.size, fun j hj => hch.block j (Nat.lt_of_lt_of_le hj hszw) (fun h => absurd h.1 (Nat.not_le_of_lt hj))⟩; clear hpb5 hsb5 hch))
    all_goals
     go_wp2
     go_ret2
     exact ⟨_, rfl, ResM.none _ _ _ _, hbel.trans hb5⟩
theorem eI_app {f : Nat → Nat} {n m : Nat} {h : Nat → Nat} (e : ∀ j, j < m → f (n + j) = h j) : (eI f n).map (Value.int .i64) ++ (eI h m).map (Value.int .i64) = (eI f (n + m)).map (Value.int .i64) := by
 unfold eI
 rw [← List.map_append]
 congr 1
 apply List.ext_getElem?
 intro i
 simp only [List.getElem?_append, List.length_map, List.length_range, List.getElem?_map]
 by_cases h1 : i < n
 ·simp [h1, show i < n + m by omega]
 ·by_cases h2 : i < n + m
  ·simp [h1, h2, show i - n < m by omega]
   rw [← e (i - n) (by omega), show n + (i - n) = i by omega]
  ·simp [h1, h2, show ¬ i - n < m by omega]
theorem news_eI {w : World} {b off n : Nat} {f : Nat → Nat} (h : ∀ j, j < n → w.cell? ⟨b, off + j, none⟩ = some (.int .i64 ((f j : Nat) : Int))) : ∀ j u, ((eI f n).map (Value.int .i64))[j]? = some u → w.cell? ((⟨b, off, none⟩ : Addr).add j) = some u := fun j u hu => by
 have hj : j < n := by
  by_cases hh : j < n
  ·exact hh
  ·rw [List.getElem?_eq_none (by simp [eI_len]; omega)] at hu; cases hu
 have ea : (⟨b, off, none⟩ : Addr).add j = ⟨b, off + j, none⟩ := by unfold Addr.add; split <;> simp_all
 rw [ea, h j hj]
 simpa [eI, hj] using hu
theorem one_eI (f : Nat → Nat) (n : Nat) : ∀ u ∈ (eI f n).map (Value.int .i64), u.oneCell' = true := by
 intro u hu
 simp at hu
 obtain ⟨y, _, rfl⟩ := hu
 rfl
set_option maxRecDepth 100000 in
theorem sInv_mat (a : Option Addr) (n ca : Nat) (L : Nat → Nat) (Z : Nat → Nat → Int) (w : World) (h : MatAt w a n L Z) (hL : ∀ i, i < n → L i ≤ 1048576) :
  Calls Tryz.prog 101 #[.slice a n ca] w fun e w' => ∃ v, e = .returned (.tuple #[v, .bool (ivOk n L Z)]) ∧ ResM w w' v (ivR n L Z) n (Gm.iv (bZ n L Z) n) ∧ Below w.heap.size w w' := by
 obtain ⟨i0, hi, hz0, hz1, hz2⟩ := info_parts Tryz.infoInt
 obtain ⟨i1, hj, hy0, hy1, hy2⟩ := info_parts Tryz.infoInts
 have KO : Hid _ := sMatOk_any a n ca L Z w h hL
 by_cases ok : OkM n L Z
 case neg =>
  rw [ivOk_no (fun hh => ok hh.1), ivR_no (fun hh => ok hh.1)]
  rw [okM_no ok] at KO
  clear h hL ok hi hz0 hz1 hz2 hj hy0 hy1 hy2
  go_enter Tryz.func101, Tryz.ntmps101
  go_wp2_with fail
  refine Calls.mono KO.out ?_
  rintro e w1 ⟨rfl, hb1⟩
  go_wp2
  go_ret2
  exact ⟨_, rfl, resLit0 _ _ hb1.size _ _, below2 hb1 ((Below.refl _ _).alloc (Nat.le_refl _) _)⟩
 rw [okM_yes ok] at KO
 obtain ⟨b1, off1, ai1, ci1, e1, hc1, _⟩ := h 0 (by have := ok.1; omega)
 subst e1
 rw [Nat.add_zero] at hc1
 have hlt1 := block_lt_of_cell hc1
 have hn0' : 0 < n := by have := ok.1; omega
 have KV : Hid (∀ i j, i < n → j < L 0 → Z i j = ((bZ n L Z i j : Nat) : Int)) := fun i j hi hj => by
  rw [bZ_eq ok hi hj]
  obtain ⟨X, hX, e⟩ := isB_nat ((ok.2.2.2.2 i hi).2 j hj)
  unfold cZ
  rw [e]
  simp
 have KL : Hid (∀ i, i < n → L i = L 0) := fun i hi => (ok.2.2.2.2 i hi).1
 have hn1 : 1 ≤ n := ok.1
 have hn2 : n ≤ 16 := ok.2.1
 have hl1 : 1 ≤ L 0 := ok.2.2.1
 have hl2 : L 0 ≤ 16 := ok.2.2.2.1
 have KBY : Hid (Gm.Byt (bZ n L Z)) := bZ_byt n L Z
 have KY : Hid (n = L 0 → Gm.rk (bZ n L Z) n n = n → ivOk n L Z = true ∧ ivR n L Z = n) := fun e1 e2 => ⟨ivOk_yes ⟨ok, e1, e2⟩, ivR_yes ⟨ok, e1, e2⟩⟩
 have KN : Hid (¬ (n = L 0 ∧ Gm.rk (bZ n L Z) n n = n) → ivOk n L Z = false ∧ ivR n L Z = 0) := fun hno => ⟨ivOk_no (fun hh => hno hh.2), ivR_no (fun hh => hno hh.2)⟩
 generalize ivOk n L Z = okf at KY KN
 generalize ivR n L Z = R at KY KN
 generalize bZ n L Z = P at KBY KY KN KV
 have KH : Hid (MatAt w (some ⟨b1, off1, none⟩) n L Z) := h
 obtain ⟨l, hl⟩ : ∃ l, L 0 = l := ⟨_, rfl⟩
 rw [hl] at KV KL hl1 hl2 KY KN hc1
 clear h hL ok hl
 by_cases hnl : n = l
 case neg =>
  obtain ⟨rfl, rfl⟩ := KN.out (fun hh => hnl hh.1)
  have hne : ((n : Int) != (l : Int)) = true := by simp; omega
  go_enter Tryz.func101, Tryz.ntmps101
  go_wp2_with fail
  refine Calls.mono KO.out ?_
  rintro e w1 ⟨rfl, hb1⟩
  have hc2 := (hb1.cell (p := ⟨b1, off1, none⟩) hlt1).trans hc1
  go_wp2
  go_ret2
  exact ⟨_, rfl, resLit0 _ _ hb1.size _ _, below2 hb1 ((Below.refl _ _).alloc (Nat.le_refl _) _)⟩
 subst hnl
 have hne : ((n : Int) != (n : Int)) = false := by simp
 go_enter Tryz.func101, Tryz.ntmps101
 go_wp2_with fail
 refine Calls.mono KO.out ?_
 rintro e w1 ⟨rfl, hb1⟩
 have hc2 := (hb1.cell (p := ⟨b1, off1, none⟩) hlt1).trans hc1
 have hs1 := hb1.size
 have KH1 : Hid (MatAt w1 (some ⟨b1, off1, none⟩) n L Z) := KH.out.below hb1
 clear KH KO hc1
 have KU0 : Hid _ := sUnit0_any n w1 (by omega)
 go_wp2_with fail
 refine Calls.mono KU0.out ?_
 rintro e w2 ⟨U, capU, AU, CU, rfl, hMU, hb2⟩
 have hs2 := hb2.size
 have KU : Hid (MatI w2 w1.heap.size w2.heap.size (some ⟨U, 0, none⟩) n capU AU (fun _ => n) CU (fun i j => ((Gm.dl i j : Nat) : Int))) := hMU
 have KH2 : Hid (MatAt w2 (some ⟨b1, off1, none⟩) n L Z) := KH1.out.below hb2
 have hUl := hMU.olt
 clear hMU KU0 KH1 hc2
 have H0 : Hid (MatI (w2.alloc (.cells #[] 25)) w2.heap.size (w2.alloc (.cells #[] 25)).heap.size (some ⟨w2.heap.size, 0, none⟩) 0 0 (fun _ => none) (fun _ => n + n) (fun _ => 0) (fun i j => ((Gm.aug P n i j : Nat) : Int))) := litM w2 _ _ _ _
 have KB0 : Hid (Below w2.heap.size w2 (w2.alloc (.cells #[] 25))) := (Below.refl _ _).alloc (Nat.le_refl _) _
 go_wp2
 go_loopw [6, 7] (fun v i wr => ∃ k G cap A C, k ≤ n ∧ i = .int .i64 ((k : Nat) : Int) ∧ v = .slice (some ⟨G, 0, none⟩) k cap ∧ MatI wr w2.heap.size wr.heap.size (some ⟨G, 0, none⟩) k cap A (fun _ => n + n) C (fun i j => ((Gm.aug P n i j : Nat) : Int)) ∧ Below w2.heap.size w2 wr) (fun _ i _ => n - (intOf i).toNat)
 case atStart => exact ⟨0, _, _, _, _, Nat.zero_le _, rfl, rfl, H0.out, KB0.out⟩
 case round =>
  obtain ⟨k, G, cap, A, C, hk, rfl, rfl, hM, hbel⟩ := hrel
  clear H0 KB0
  by_cases hlt : k < n
  ·have hki : (k : Int) < (n : Int) := by omega
   have hsz := hbel.size
   obtain ⟨b3, off3, ai, ci, eb, hc, hr⟩ := KH2.out.below hbel k hlt
   cases eb
   rw [KL.out k hlt] at hc hr
   obtain ⟨b4, off4, rfl, hcell⟩ := hr.some (by omega)
   have hMU := KU.out.below hbel
   have hcu := hMU.hdr hlt
   obtain ⟨gu, hgu⟩ : ∃ gu, AU k = some ⟨gu, 0, none⟩ := by
    rcases own_shape (hMU.row k hlt) with ⟨_, h0, _⟩ | ⟨g, _, e, _⟩
    ·omega
    ·exact ⟨g, e⟩
   rw [hgu] at hcu
   have hun : ∀ j, j < n → wr.cell? ⟨gu, 0 + j, none⟩ = some (.int .i64 ((Gm.dl k j : Nat) : Int)) := fun j hj => by rw [Nat.zero_add]; exact hMU.elt hlt hgu hj
   have hnews1 := news_eI (f := P k) (fun j hj => by rw [hcell j hj, zI_getD _ _ _ hj, KV.out k j hlt hj])
   have hnews2 := news_eI (f := Gm.dl k) hun
   have hlU := block_lt_of_cell hcu
   have hlM := block_lt_of_cell hc
   have hba : Below wr.heap.size wr (wr.drew.alloc (.cells #[] 3)) := ((Below.refl _ _).drew).alloc (Nat.le_refl _) _
   have KN1 : Hid _ := news_below hnews1 hba
   have KN2 : Hid _ := hnews2
   have KR : Hid (OwnR (wr.drew.alloc (.cells #[] 3)) wr.heap.size wr.heap.size 0 0 (P k)) := lit0 wr.drew (P k)
   have KM : Hid (MatI wr w2.heap.size wr.heap.size (some ⟨G, 0, none⟩) k cap A (fun _ => n + n) C (fun i j => ((Gm.aug P n i j : Nat) : Int))) := hM
   have KBe : Hid (Below w2.heap.size w2 wr) := hbel
   have hlen1 : ((eI (P k) n).map (Value.int .i64)).length = n * 1 := by simp [eI_len]
   have hlen2 : ((eI (Gm.dl k) n).map (Value.int .i64)).length = n * 1 := by simp [eI_len]
   have hGl := hM.olt.1
   have KONE1 : Hid _ := one_eI (P k) n
   have KONE2 : Hid _ := one_eI (Gm.dl k) n
   obtain ⟨ck, hck⟩ : ∃ ck, CU k = ck := ⟨_, rfl⟩
   rw [hck] at hcu
   obtain ⟨x1, hx1⟩ : ∃ x1, (eI (P k) n).map (Value.int .i64) = x1 := ⟨_, rfl⟩
   obtain ⟨x2, hx2⟩ : ∃ x2, (eI (Gm.dl k) n).map (Value.int .i64) = x2 := ⟨_, rfl⟩
   have KX : Hid (x1 ++ x2 = (eI (Gm.aug P n k) (n + n)).map (Value.int .i64)) := by
    show _ = _
    rw [← hx1, ← hx2, eI_congr (f := P k) (g := Gm.aug P n k) (fun j hj => by unfold Gm.aug; rw [if_pos hj])]
    exact eI_app (fun j hj => by unfold Gm.aug; rw [if_neg (by omega), show n + j - n = j by omega])
   rw [hx1] at KN1 hlen1 KONE1
   rw [hx2] at KN2 hlen2 KONE2
   clear hr hcell hnews1 hnews2 hM hbel hMU hun hck hx1 hx2 hgu
   go_wp2_with fail
   go_region_held3 (fun w' => w'.cell? ⟨b1, off1 + k, none⟩ = some (.slice (some ⟨b4, off4, none⟩) n ci) ∧ w'.cell? ⟨U, k, none⟩ = some (.slice (some ⟨gu, 0, none⟩) n ck)) (go_keep) ((first | (guard_hyp KR; refine step_append_lies _ (by rfl) _ _ _ (by rfl) wr.heap.size 3 i0 _ 1 8 Tryz.underlying25 hi hz0 hz1 hz2 rfl (by omega) (.slice (some ⟨wr.heap.size, 0, none⟩) 0 0) 0 _ (by rfl) KR.out ⟨b4, off4, none⟩ n ci x1 (by rfl) hlen1 KN1.out KONE1.out (by omega) (by unfold maxLen; omega) (by omega) (by simp) (wr.heap.size + 1) (by simp) ?_; intro g5 cap5 w5 hown5 hgrow5 hat5 hltg5; have hg5 : (wr.drew.alloc (.cells #[] 3)).grownBy w5 (some wr.heap.size) := hgrow5; have hc5 := hg5.cell ((hba.cell (p := ⟨b1, off1 + k, none⟩) hlM).trans hc) (by simp; omega); have hu5 := hg5.cell ((hba.cell (p := ⟨U, k, none⟩) hlU).trans hcu) (by simp; omega); have KO5 : Hid (w5.ownsRow wr.heap.size 3 1 (.slice (some ⟨g5, 0, none⟩) (0 + n) cap5) (0 + n) x1) := hown5; have KN5 : Hid (∀ j u, x2[j]? = some u → w5.cell? ((⟨gu, 0, none⟩ : Addr).add j) = some u) := (fun j u hu => (by have h1 := KN2.out j u hu; have hlt' := block_lt_of_cell h1; exact hg5.cell (((hba.cell hlt').trans h1)) (by simp at hlt' ⊢; omega))); have hs5 : wr.heap.size + 1 ≤ w5.heap.size := (by have := hg5.size; simpa using this); have hg5l := (KO5.out.lt g5 rfl); clear KR hown5 hgrow5 hat5 hltg5) | (guard_hyp KO5; refine step_append_lies _ (by rfl) _ _ _ (by rfl) wr.heap.size 3 i0 _ 1 8 Tryz.underlying25 hi hz0 hz1 hz2 rfl (by omega) (.slice (some ⟨g5, 0, none⟩) (0 + n) cap5) (0 + n) _ (by rfl) KO5.out ⟨gu, 0, none⟩ n ck x2 (by rfl) hlen2 KN5.out KONE2.out (by omega) (by unfold maxLen; omega) (by omega) (by omega) w5.heap.size (by rfl) ?_; intro g6 cap6 w6 hown6 hgrow6 hat6 hltg6; have hg6 : w5.grownBy w6 (some g5) := hgrow6; have hc6 := hg6.cell hc5 (by simp; omega); have hu6 := hg6.cell hu5 (by simp; omega); have KO6 : Hid (OwnR w6 wr.heap.size g6 (n + n) cap6 (Gm.aug P n k)) := (by have hh := hown6; rw [KX.out, Nat.zero_add] at hh; exact hh); have hM6 : MatI w6 w2.heap.size wr.heap.size (some ⟨G, 0, none⟩) k cap A (fun _ => n + n) C (fun i j => ((Gm.aug P n i j : Nat) : Int)) := ((KM.out.below hba).keptE hg5 (Nat.le_refl _)).keptE hg6 hg5l.1; have hs6 : wr.heap.size ≤ w6.heap.size := (by have := hg6.size; omega); clear KO5 hown6 hgrow6 hat6 hltg6 KM) | (guard_hyp hM6; refine step_append_lies _ (by rfl) _ _ _ (by rfl) w2.heap.size 25 i1 _ 1 24 Tryz.underlying64 hj hy0 hy1 hy2 rfl (by omega) (.slice (some ⟨G, 0, none⟩) k cap) k _ (by rfl) (World.ownsRow.alloc hM6.out _) ⟨w6.heap.size, 0, none⟩ 1 1 [.slice (some ⟨g6, 0, none⟩) (n + n) cap6] (by rfl) (by rfl) (World.news_of_block (cs := #[.slice (some ⟨g6, 0, none⟩) (n + n) cap6]) (t := 25) (fr := (0, 0)) (heap_alloc_new w6 _)) (by simp [Value.oneCell']) (by omega) (by unfold maxLen; omega) (by omega) (by simp; omega) (w6.heap.size + 1) (by simp) ?_; intro g7 cap7 w7 hown7 hgrow7 hat7 hltg7; have hg7 : (w6.alloc (.cells #[.slice (some ⟨g6, 0, none⟩) (n + n) cap6] 25)).grownBy w7 (some G) := hgrow7; have hb7 : Below w6.heap.size w6 (w6.alloc (.cells #[.slice (some ⟨g6, 0, none⟩) (n + n) cap6] 25)) := (Below.refl _ _).alloc (Nat.le_refl _) _; have hc7 := hg7.cell ((hb7.cell (p := ⟨b1, off1 + k, none⟩) (block_lt_of_cell hc6)).trans hc6) (by simp; omega); have hu7 := hg7.cell ((hb7.cell (p := ⟨U, k, none⟩) (block_lt_of_cell hu6)).trans hu6) (by simp; omega); clear hgrow7)))
   all_goals
    have hbw6 : Below w2.heap.size w2 w6 := ((below2 KBe.out hba).grown hg5 (by simp; omega) (fun j hj => by cases hj; exact hsz)).grown hg6 (by omega) (fun j hj => by cases hj; omega)
    obtain ⟨A', C', hP⟩ := MatI.pushed _ hM6 hsz KO6.out hg7 hown7
    have HP : Hid (MatI w7 w2.heap.size w7.heap.size (some ⟨g7, 0, none⟩) (k + 1) cap7 A' (fun _ => n + n) C' (fun i j => ((Gm.aug P n i j : Nat) : Int))) := hP
    have hb' : Below w2.heap.size w2 w7 := (hbw6.alloc (by omega) _).grown hg7 (by simp; omega) (fun j hj => by cases hj; exact hGl)
    clear hown7 hg7 hat7 hltg7 hM6 hP hc7 hu7 hc6 hu6 hg6 hg5 hb7 hbw6 hba
    go_wp2
    go_roundw
    case rel => exact ⟨k + 1, g7, cap7, A', C', by omega, by go_num, rfl, HP.out, hb'⟩
    case measure => simp [intOf] <;> omega
  ·obtain rfl : k = n := by omega
   have hki : ¬ (k : Int) < (k : Int) := by omega
   obtain ⟨g1, hMg⟩ := MatI.g hM (by omega)
   have hszb := hbel.size
   have KRD : Hid _ := sReduce_any w2.heap.size wr.heap.size G k cap (k + k) k g1 C (Gm.aug P k) wr hMg (Gm.aug_byt KBY.out k) (by omega) (by omega) (by omega)
   rw [Gm.rk_aug] at KRD
   have hrl := Gm.rk_r KBY.out k k
   have KIV : Hid (∀ i j, Gm.iv P k i j = (Gm.rd (Gm.aug P k) k k).1 i (k + j)) := fun _ _ => rfl
   clear hM hMg KU KH2
   generalize Gm.rk P k k = R0 at KRD hrl KY KN
   generalize (Gm.rd (Gm.aug P k) k k).1 = FF at KRD KIV
   by_cases hR : R0 = k
   case neg =>
    have hR0 : (R0 : Int) < (k : Int) := by omega
    obtain ⟨rfl, rfl⟩ := KN.out (fun hh => hR hh.2)
    go_wp2_with fail
    refine Calls.mono KRD.out ?_
    rintro e w3 ⟨rfl, _, hb3⟩
    have hs3 := hb3.size
    go_wp2
    go_ret2
    exact ⟨_, rfl, resLit0 _ _ (by omega) _ _, below2 (below2 (below2 hb1 hb2) (hbel.trans hb3)) ((Below.refl _ _).alloc (Nat.le_refl _) _)⟩
   have hR0 : ¬ (R0 : Int) < (k : Int) := by omega
   obtain ⟨rfl, ho2⟩ := KY.out (by trivial) hR
   have ho3 := ho2.symm
   clear ho2
   subst ho3
   go_wp2_with fail
   refine Calls.mono KRD.out ?_
   rintro e w3 ⟨rfl, ⟨g3, C3, hM3⟩, hb3⟩
   have hs3 := hb3.size
   have KB3 : Hid (Below w.heap.size w w3) := below2 (below2 hb1 hb2) (hbel.trans hb3)
   have KM3 : Hid (MatG w3 w2.heap.size w3.heap.size G k cap g3 C3 (k + k) FF) := hM3.tight
   have hGl := hM3.olt
   clear hM3 KRD hbel hb3 hb1 hb2
   have H0 : Hid (MatI (w3.alloc (.cells #[] 25)) w3.heap.size (w3.alloc (.cells #[] 25)).heap.size (some ⟨w3.heap.size, 0, none⟩) 0 0 (fun _ => none) (fun _ => k) (fun _ => 0) (fun i j => ((Gm.iv P k i j : Nat) : Int))) := litM w3 _ _ _ _
   have KB0 : Hid (Below w3.heap.size w3 (w3.alloc (.cells #[] 25))) := (Below.refl _ _).alloc (Nat.le_refl _) _
   go_wp2
   go_loopw [8, 9] (fun v i wr => ∃ q G cap A C, q ≤ k ∧ i = .int .i64 ((q : Nat) : Int) ∧ v = .slice (some ⟨G, 0, none⟩) q cap ∧ MatI wr w3.heap.size wr.heap.size (some ⟨G, 0, none⟩) q cap A (fun _ => k) C (fun i j => ((Gm.iv P k i j : Nat) : Int)) ∧ Below w3.heap.size w3 wr) (fun _ i _ => k - (intOf i).toNat)
   case atStart => exact ⟨0, _, _, _, _, Nat.zero_le _, rfl, rfl, H0.out, KB0.out⟩
   case round =>
    obtain ⟨q, G8, cap8, A8, C8, hq, rfl, rfl, hM8, hbel⟩ := hrel
    clear H0 KB0
    by_cases hlt : q < k
    ·have hki : (q : Int) < (k : Int) := by omega
     have hsz := hbel.size
     have hMr := KM3.out.below hbel
     have hc := hMr.hdr hlt
     have hnews := news_eI (w := wr) (b := g3 q) (off := k) (f := Gm.iv P k q) (n := k) (fun j hj => by rw [hMr.elt hlt rfl (by omega), KIV.out])
     have hcap : k + k ≤ C3 q := by
      rcases own_shape (hMr.row q hlt) with ⟨h', _⟩ | ⟨g, _, e, _, _, hcc⟩
      ·cases h'
      ·exact hcc
     have hba : Below wr.heap.size wr (wr.alloc (.cells #[] 3)) := (Below.refl _ _).alloc (Nat.le_refl _) _
     have hc2 := (hba.cell (p := ⟨G, q, none⟩) (block_lt_of_cell hc)).trans hc
     have KW : Hid _ := news_below hnews hba
     have KM : Hid (MatI wr w3.heap.size wr.heap.size (some ⟨G8, 0, none⟩) q cap8 A8 (fun _ => k) C8 (fun i j => ((Gm.iv P k i j : Nat) : Int))) := hM8
     have KR : Hid (OwnR (wr.alloc (.cells #[] 3)) wr.heap.size wr.heap.size 0 0 (Gm.iv P k q)) := lit0 wr (Gm.iv P k q)
     have KBe : Hid (Below w3.heap.size w3 wr) := hbel
     have hlen2 : ((eI (Gm.iv P k q) k).map (Value.int .i64)).length = k * 1 := by simp [eI_len]
     have hGl8 := hM8.olt.1
     have KONE : Hid _ := one_eI (Gm.iv P k q) k
     obtain ⟨news, hnw⟩ : ∃ news, (eI (Gm.iv P k q) k).map (Value.int .i64) = news := ⟨_, rfl⟩
     have KNW : Hid ((eI (Gm.iv P k q) k).map (Value.int .i64) = news) := hnw
     rw [hnw] at KW hlen2 KONE
     obtain ⟨gq, hgq⟩ : ∃ gq, g3 q = gq := ⟨_, rfl⟩
     obtain ⟨cq, hcq⟩ : ∃ cq, C3 q = cq := ⟨_, rfl⟩
     rw [hgq] at hc2 KW
     rw [hcq] at hc2 hcap
     clear hnews hM8 hba hnw hbel hMr hc hgq hcq
     go_wp2_with (first | (guard_hyp KR; at_builtin; refine wpList_append_lies _ (by rfl) _ _ 25 (by rfl) wr.heap.size 3 i0 (.int .i64 0) 1 8 Tryz.underlying25 hi hz0 hz1 hz2 rfl (by decide) (.slice (some ⟨wr.heap.size, 0, none⟩) 0 0) 0 _ (by rfl) KR.out ⟨gq, k, none⟩ k (cq - k) news (by first | rfl | (simp [Act.eval, Act.put]; omega)) hlen2 KW.out KONE.out (by omega) (by unfold maxLen; omega) (by omega) (by simp) (wr.heap.size + 1) (by simp) ?_; intro g5 cap5 w5 hown5 hgrow5 hat5 hltg5; have KO2 : Hid (OwnR w5 wr.heap.size g5 k cap5 (Gm.iv P k q)) := (by rw [Nat.zero_add] at hown5; rw [← KNW.out] at hown5; exact hown5); have hM2 : MatI w5 w3.heap.size wr.heap.size (some ⟨G8, 0, none⟩) q cap8 A8 (fun _ => k) C8 (fun i j => ((Gm.iv P k i j : Nat) : Int)) := MatI.rowed _ KM.out (Nat.le_refl _) hgrow5; have KB2 : Hid (Below w3.heap.size w3 w5) := (KBe.out.alloc hsz _).grown (show World.grownBy _ w5 (some wr.heap.size) from hgrow5) (by simp; omega) (fun j hj => by cases hj; exact hsz); have hsz2 : wr.heap.size ≤ w5.heap.size := (by have := hgrow5.size; simp at this; omega); clear KR KW hown5 hgrow5 hat5 hltg5 KM KBe) | (guard_hyp hM2; at_builtin; refine wpList_append_lies _ (by rfl) _ _ 64 (by rfl) w3.heap.size 25 i1 (.slice none 0 0) 1 24 Tryz.underlying64 hj hy0 hy1 hy2 rfl (by decide) (.slice (some ⟨G8, 0, none⟩) q cap8) q _ (by rfl) (World.ownsRow.alloc hM2.out _) ⟨w5.heap.size, 0, none⟩ 1 1 [.slice (some ⟨g5, 0, none⟩) k cap5] (by rfl) (by rfl) (World.news_of_block (cs := #[.slice (some ⟨g5, 0, none⟩) k cap5]) (t := 25) (fr := (0, 0)) (heap_alloc_new w5 _)) (by simp [Value.oneCell']) (by omega) (by unfold maxLen; omega) (by omega) (by simp; omega) (w5.heap.size + 1) (by simp) ?_; intro g6 cap6 w6 hown6 hgrow6 hat6 hltg6))
     obtain ⟨A', C', hP⟩ := MatI.pushed _ hM2 hsz KO2.out hgrow6 hown6
     have HP : Hid (MatI w6 w3.heap.size w6.heap.size (some ⟨g6, 0, none⟩) (q + 1) cap6 A' (fun _ => k) C' (fun i j => ((Gm.iv P k i j : Nat) : Int))) := hP
     have hb' : Below w3.heap.size w3 w6 := (KB2.out.alloc (Nat.le_trans hsz hsz2) _).grown (show World.grownBy _ w6 (some G8) from hgrow6) (by simp; omega) (fun j hj => by cases hj; exact hGl8)
     clear hown6 hgrow6 hat6 hltg6 hM2 hP
     go_roundw
     case rel => exact ⟨q + 1, g6, cap6, A', C', by omega, by go_num, rfl, HP.out, hb'⟩
     case measure => simp [intOf] <;> omega
    ·obtain rfl : q = k := by omega
     have KM : Hid _ := hM8
     clear hM8
     go_wp2
     go_ret2
     exact ⟨_, rfl, ResM.mk KM.out KB3.out.size, below2 KB3.out hbel⟩
theorem spread_pick {n k : Nat} {zs : List Int} (h : Diff n zs) (hl : zs.length = k) (hk : 1 ≤ k) (hkn : k ≤ n) (hn : n ≤ 16) :
  pkOk n (fun _ => k) (fun i j => ((Gm.sprd k i j : Nat) : Int)) zs = true ∧ pkR n (fun _ => k) (fun i j => ((Gm.sprd k i j : Nat) : Int)) zs = k ∧
  InvOk k (fun _ => k) (fun i j => ((pkF (bZ n (fun _ => k) (fun i j => ((Gm.sprd k i j : Nat) : Int))) zs i j : Nat) : Int)) ∧
  (∀ i j, i < k → j < k → bZ k (fun _ => k) (fun i j => ((pkF (bZ n (fun _ => k) (fun i j => ((Gm.sprd k i j : Nat) : Int))) zs i j : Nat) : Int)) i j = Gm.sprd k ((zs.getD i 0).toNat) j) := by
 have ok1 : OkM n (fun _ => k) (fun i j => ((Gm.sprd k i j : Nat) : Int)) := okM_of (by omega) hn hk (by omega) (Gm.sprd_byt k)
 have pl : Places n zs := ⟨by omega, by omega, fun i hi => h.at hi⟩
 have h1 := pkOk_yes (zs := zs) ⟨ok1, pl⟩
 have hFb : Gm.Byt (pkF (bZ n (fun _ => k) (fun i j => ((Gm.sprd k i j : Nat) : Int))) zs) := fun i j => bZ_byt _ _ _ _ _
 have ok2 : OkM k (fun _ => k) (fun i j => ((pkF (bZ n (fun _ => k) (fun i j => ((Gm.sprd k i j : Nat) : Int))) zs i j : Nat) : Int)) := okM_of hk (by omega) hk (by omega) hFb
 have hb : ∀ i j, i < k → j < k → bZ k (fun _ => k) (fun i j => ((pkF (bZ n (fun _ => k) (fun i j => ((Gm.sprd k i j : Nat) : Int))) zs i j : Nat) : Int)) i j = Gm.sprd k ((zs.getD i 0).toNat) j := fun i j hi hj => by
  rw [bZ_at hi hj (hFb i j)]
  unfold pkF
  have := h.at (i := i) (by omega)
  exact bZ_at (by omega) hj (Gm.sprd_byt k _ _)
 refine ⟨h1, by unfold pkR; rw [if_pos h1]; exact hl, ⟨ok2, rfl, ?_⟩, hb⟩
 rw [rk_congr (bZ_byt _ _ _) (fun i j => Gm.sprd_byt k _ _) hb]
 exact pick_rk h hl (by omega) hkn
end Go.Proofs.YtodnodekheaacaaGreatDoor
