/- The program clears a place of a matrix of its own. Conditions: byte numbers, at most 2^20 places a row, at most 2^20 rows. -/
import Derived.Test.YtojklpahobmleaaMStepB
namespace Go.Proofs.Ytojklpahobmleaa
open Go.ChangeShapes Go.WideShapes Go.ChangeAt Go.RowKit

/-- Only blocks of 'S' have turned. -/
structure Chg (S : Nat → Prop) (w w' : World) : Prop where
  os : w'.os = w.os
  tape : w'.tape = w.tape
  output : w'.output = w.output
  size : w.heap.size ≤ w'.heap.size
  block : ∀ j, j < w.heap.size → ¬ S j → w'.heap[j]? = w.heap[j]?
theorem Chg.refl (S : Nat → Prop) (w : World) : Chg S w w := ⟨rfl, rfl, rfl, Nat.le_refl _, fun _ _ _ => rfl⟩
theorem Chg.trans {S : Nat → Prop} {w w1 w2 : World} (h : Chg S w w1) (h2 : Chg S w1 w2) : Chg S w w2 :=
  ⟨h2.os.trans h.os, h2.tape.trans h.tape, h2.output.trans h.output, Nat.le_trans h.size h2.size, fun j hj hn => (h2.block j (Nat.lt_of_lt_of_le hj h.size) hn).trans (h.block j hj hn)⟩
theorem Chg.grown {S : Nat → Prop} {w w' : World} {b : Nat} (h : w.grownBy w' (some b)) (hb : S b) : Chg S w w' :=
  ⟨h.os, h.tape, h.output, h.size, fun j hj hn => h.block j hj (fun e => by cases e; exact hn hb)⟩
theorem Chg.of_below (S : Nat → Prop) {w w' : World} (h : Below w.heap.size w w') : Chg S w w' := ⟨h.os, h.tape, h.output, h.size, fun j hj _ => h.block j hj⟩
theorem Chg.imp {S S' : Nat → Prop} {w w' : World} (h : Chg S w w') (hi : ∀ j, S j → S' j) : Chg S' w w' := ⟨h.os, h.tape, h.output, h.size, fun j hj hn => h.block j hj (fun hs => hn (hi j hs))⟩
theorem Chg.below {S : Nat → Prop} {w w' : World} {B : Nat} (h : Chg S w w') (hB : B ≤ w.heap.size) (hS : ∀ j, j < B → ¬ S j) : Below B w w' :=
  ⟨h.os, h.tape, h.output, h.size, fun j hj => h.block j (by omega) (hS j hj)⟩
theorem Chg.at {S : Nat → Prop} {w w' : World} {b : Nat} {o : Obj} (h : Chg S w w') (hb : w.heap[b]? = some o) (hn : ¬ S b) : w'.heap[b]? = some o := by
  rw [h.block b (lt_of_block hb) hn]; exact hb
/-- Behind the rows ahead of 'q'. -/
def clrK (s k q : Nat) (N : Nat → Nat → Nat) (p j : Nat) : Nat := if p < q ∧ p ≠ s then N p j ^^^ Gp.m (N s j) (N p k) else N p j
theorem clrK_byt {s k q : Nat} {N : Nat → Nat → Nat} (h : Gm.Byt N) : Gm.Byt (clrK s k q N) := fun p j => by
  unfold clrK
  split
  · exact Gp.xor_lt (h _ _) (Gp.m_lt _ _)
  · exact h _ _
set_option maxHeartbeats 2000000 in
theorem clearPlace_any (B E G r cap : Nat) (g C : Nat → Nat) (W : Nat) (F : Nat → Nat → Nat) (s k : Nat) (w : World) (h : MatF w B E G r cap g C W F) (hF : Gm.Byt F) (hs : s < r) (hk : k < W) (hW : W ≤ 1048576) (hr : r ≤ 1048576) :
    Calls Try.prog 77 #[.slice (some ⟨G, 0, none⟩) r cap, .int .i64 (s : Int), .int .i64 (k : Int)] w fun e w' => e = .returned (.tuple #[]) ∧ MatF w' B E G r cap g C W (Gm.clr s (fun i => Gm.scl s (Gf.inv (F s k)) F i k) (Gm.scl s (Gf.inv (F s k)) F)) ∧ Chg (fun b => ∃ i, i < r ∧ b = g i) w w' := by
  have hsi : (s : Int) < (r : Int) := by omega
  have hki : (k : Int) < (W : Int) := by omega
  have hh0 := h.hdr hs
  have he0 := h.elt (j := k) hs rfl hk
  have hf := hF s k
  have K0 : Hid (MatF w B E G r cap g C W F) := h
  obtain ⟨X, hX⟩ : ∃ X, F s k = X := ⟨_, rfl⟩
  rw [hX] at he0 hf ⊢
  clear hX
  have hx := Gf.inv_lt X
  have KF : Hid (Gm.Byt F) := hF
  have hNb : Gm.Byt (Gm.scl s (Gf.inv X) F) := Gm.scl_byt hF
  have KN : Hid (Gm.Byt (Gm.scl s (Gf.inv X) F)) := hNb
  clear h hF hNb
  obtain ⟨gs, hgs⟩ : ∃ gs, g s = gs := ⟨_, rfl⟩
  obtain ⟨Cs, hCs⟩ : ∃ Cs, C s = Cs := ⟨_, rfl⟩
  rw [hgs] at hh0 he0
  rw [hCs] at hh0
  have KG : Hid (g s = gs) := hgs
  clear hgs hCs
  go_enter Try.func77, Try.ntmps77
  go_wp2_with fail
  refine (inverse_any X _ hf).mono ?_
  rintro e w1 ⟨rfl, hb1⟩
  go_wp2_with fail
  refine (scaleRow_any B E G r cap g C W F s (Gf.inv X) w1 (K0.out.below hb1) KF.out hs hx hW).mono ?_
  rintro e w2 ⟨rfl, hM2, hg2⟩
  have KC : Hid (Chg (fun b => ∃ i, i < r ∧ b = g i) w w2) := (Chg.of_below _ hb1).trans (Chg.grown hg2 ⟨s, hs, rfl⟩)
  have KM : Hid (MatF w2 B E G r cap g C W (Gm.scl s (Gf.inv X) F)) := hM2
  clear hM2 hg2 hb1 K0 hh0 he0
  obtain ⟨N, hN⟩ : ∃ N, Gm.scl s (Gf.inv X) F = N := ⟨_, rfl⟩
  rw [hN] at KM KN
  have KNN : Hid (Gm.scl s (Gf.inv X) F = N) := hN
  clear hN
  go_wp2
  go_loopw [20] (fun i wr => ∃ q : Nat, q ≤ r ∧ i = .int .i64 q ∧ MatF wr B E G r cap g C W (clrK s k q N) ∧ Chg (fun b => ∃ i, i < r ∧ b = g i) w wr) (fun i _ => r - (intOf i).toNat)
  case atStart => exact ⟨0, Nat.zero_le _, rfl, KM.out.congr (fun i _ => ⟨rfl, rfl, rfl, fun j _ => by unfold clrK; rw [if_neg (by omega)]⟩), KC.out⟩
  case round =>
    obtain ⟨q, hq, rfl, hM, hC⟩ := hrel
    clear KM KC
    by_cases hlt : q < r
    · have hqi : (q : Int) < (r : Int) := by omega
      by_cases hqs : q = s
      · subst hqs
        have KM : Hid (MatF wr B E G r cap g C W (clrK q k q N)) := hM
        clear hM
        go_wp2
        go_roundw
        case rel => exact ⟨q + 1, by omega, by go_num, KM.out.congr (fun i _ => ⟨rfl, rfl, rfl, fun j _ => by
          unfold clrK
          by_cases e : i < q ∧ i ≠ q
          · rw [if_pos e, if_pos (by omega)]
          · rw [if_neg e, if_neg (by omega)]⟩), hC⟩
        case measure => simp [intOf] <;> omega
      · have hne : ((q : Int) != (s : Int)) = true := by simp; omega
        have hh := hM.hdr hlt
        have he := hM.elt (j := k) hlt rfl hk
        have hval : clrK s k q N q k = N q k := by unfold clrK; rw [if_neg (by omega)]
        rw [hval] at he
        have hy := KN.out q k
        have KM : Hid (MatF wr B E G r cap g C W (clrK s k q N)) := hM
        have KE : Hid (∀ i j, addK q s (N q k) W (clrK s k q N) i j = if i < r ∧ j < W then clrK s k (q + 1) N i j else addK q s (N q k) W (clrK s k q N) i j) := fun i j => by
          by_cases hij : i < r ∧ j < W
          · rw [if_pos hij]
            unfold addK clrK
            by_cases e : i = q
            · subst e
              rw [if_pos ⟨rfl, hij.2⟩, if_neg (by omega), if_neg (by omega), if_pos ⟨by omega, hqs⟩]
            · rw [if_neg (by omega)]
              by_cases e2 : i < q ∧ i ≠ s
              · rw [if_pos e2, if_pos (by omega)]
              · rw [if_neg e2, if_neg (by omega)]
          · rw [if_neg hij]
        clear hM hval
        obtain ⟨Y, hY⟩ : ∃ Y, N q k = Y := ⟨_, rfl⟩
        rw [hY] at he hy KE
        clear hY
        obtain ⟨gq, hgq⟩ : ∃ gq, g q = gq := ⟨_, rfl⟩
        obtain ⟨Cq, hCq⟩ : ∃ Cq, C q = Cq := ⟨_, rfl⟩
        rw [hgq] at hh he
        rw [hCq] at hh
        have KGq : Hid (g q = gq) := hgq
        clear hgq hCq
        go_wp2_with fail
        refine (addScaledRow_any B E G r cap g C W (clrK s k q N) q s Y wr KM.out (clrK_byt KN.out) hlt hs hqs hy hW).mono ?_
        rintro e w3 ⟨rfl, hM3, hg3⟩
        have HS : Hid (MatF w3 B E G r cap g C W (clrK s k (q + 1) N)) := hM3.congr (fun i hi => ⟨rfl, rfl, rfl, fun j hj => by
          have := KE.out i j
          rw [if_pos ⟨hi, hj⟩] at this
          rw [this]⟩)
        have HC : Hid (Chg (fun b => ∃ i, i < r ∧ b = g i) w w3) := hC.trans (Chg.grown hg3 ⟨q, hlt, rfl⟩)
        clear hM3 hg3 KM hC
        go_wp2
        go_roundw
        case rel => exact ⟨q + 1, by omega, by go_num, HS.out, HC.out⟩
        case measure => simp [intOf] <;> omega
    · obtain rfl : q = r := by omega
      have KM : Hid (MatF wr B E G q cap g C W (clrK s k q N)) := hM
      clear hM
      go_wp2
      go_end0
      refine ⟨rfl, ?_, hC⟩
      rw [KNN.out]
      exact KM.out.congr (fun i hi => ⟨rfl, rfl, rfl, fun j _ => by
        unfold clrK Gm.clr
        by_cases e : i = s
        · rw [if_neg (by omega), if_pos e]
        · rw [if_pos ⟨hi, e⟩, if_neg e]⟩)
end Go.Proofs.Ytojklpahobmleaa
