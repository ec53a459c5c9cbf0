import Derived.Test.YtodnodekheaacaaGreatDoorI14
import Derived.Deep.LoopGhost
import Derived.BigRegion
import Derived.StillTailTactics
set_option maxHeartbeats 8000000
set_option maxRecDepth 2000
open Go.ChangeShapes Go.WideShapes Go.ChangeAt Go.RowKit
namespace Go.Proofs.YtodnodekheaacaaGreatDoor
structure Chg (S : Nat → Prop) (w w' : World) : Prop where
 os : w'.os = w.os
 tape : w'.tape = w.tape
 output : w'.output = w.output
 size : w.heap.size ≤ w'.heap.size
 block : ∀ j, j < w.heap.size → ¬ S j → w'.heap[j]? = w.heap[j]?
theorem Chg.refl (S : Nat → Prop) (w : World) : Chg S w w := ⟨rfl, rfl, rfl, Nat.le_refl _, fun _ _ _ => rfl⟩
theorem Chg.trans {S : Nat → Prop} {w w1 w2 : World} (h : Chg S w w1) (h2 : Chg S w1 w2) : Chg S w w2 :=
 ⟨h2.os.trans h.os, h2.tape.trans h.tape, h2.output.trans h.output, Nat.le_trans h.size h2.size, fun j hj hn => (h2.block j (Nat.lt_of_lt_of_le hj h.size) hn).trans (h.block j hj hn)⟩
theorem Chg.grown {S : Nat → Prop} {w w' : World} {b : Nat} (h : w.grownBy w' (some b)) (hb : S b) : Chg S w w' :=
 ⟨h.os, h.tape, h.output, h.size, fun j hj hn => h.block j hj (fun e => by cases e; exact hn hb)⟩
theorem Chg.of_below (S : Nat → Prop) {w w' : World} (h : Below w.heap.size w w') : Chg S w w' := ⟨h.os, h.tape, h.output, h.size, fun j hj _ => h.block j hj⟩
theorem Chg.imp {S S' : Nat → Prop} {w w' : World} (h : Chg S w w') (hi : ∀ j, S j → S' j) : Chg S' w w' := ⟨h.os, h.tape, h.output, h.size, fun j hj hn => h.block j hj (fun hs => hn (hi j hs))⟩
theorem Chg.at {S : Nat → Prop} {w w' : World} {b : Nat} {o : Obj} (h : Chg S w w') (hb : w.heap[b]? = some o) (hn : ¬ S b) : w'.heap[b]? = some o := by
 rw [h.block b (lt_of_block hb) hn]; exact hb
def clrK (s k q : Nat) (N : Nat → Nat → Nat) (p j : Nat) : Nat := if p < q ∧ p ≠ s then N p j ^^^ Gp.m (N s j) (N p k) else N p j
theorem clrK_byt {s k q : Nat} {N : Nat → Nat → Nat} (h : Gm.Byt N) : Gm.Byt (clrK s k q N) := fun p j => by
 unfold clrK
 split
 ·exact Gp.xor_lt (h _ _) (Gp.m_lt _ _)
 ·exact h _ _
theorem clearPlace_any (B E G r cap : Nat) (g C : Nat → Nat) (W : Nat) (F : Nat → Nat → Nat) (s k : Nat) (w : World) (h : MatF w B E G r cap g C W F) (hF : Gm.Byt F) (hs : s < r) (hk : k < W) (hW : W ≤ 1048576) (hr : r ≤ 1048576) :
  Calls Tryz.prog 162 #[.slice (some ⟨G, 0, none⟩) r cap, .int .i64 (s : Int), .int .i64 (k : Int)] w fun e w' => e = .returned (.tuple #[]) ∧ MatF w' B E G r cap g C W (Gm.clr s (fun i => Gm.scl s (Gf.inv (F s k)) F i k) (Gm.scl s (Gf.inv (F s k)) F)) ∧ Chg (fun b => ∃ i, i < r ∧ b = g i) w w' := by
 have hsi : (s : Int) < (r : Int) := by omega
 have hki : (k : Int) < (W : Int) := by omega
 have hh0 := h.hdr hs
 have he0 := h.elt (j := k) hs rfl hk
 have hf := hF s k
 have K0 : Hid (MatF w B E G r cap g C W F) := h
 obtain ⟨X, hX⟩ : ∃ X, F s k = X := ⟨_, rfl⟩
 rw [hX] at he0 hf ⊢
 clear hX
 have hx := Gf.inv_lt X
 have KF : Hid (Gm.Byt F) := hF
 have hNb : Gm.Byt (Gm.scl s (Gf.inv X) F) := Gm.scl_byt hF
 have KN : Hid (Gm.Byt (Gm.scl s (Gf.inv X) F)) := hNb
 clear h hF hNb
 obtain ⟨gs, hgs⟩ : ∃ gs, g s = gs := ⟨_, rfl⟩
 obtain ⟨Cs, hCs⟩ : ∃ Cs, C s = Cs := ⟨_, rfl⟩
 rw [hgs] at hh0 he0
 rw [hCs] at hh0
 have KG : Hid (g s = gs) := hgs
 clear hgs hCs
 go_enter Tryz.func162, Tryz.ntmps162
 go_wp2_with fail
 refine (inverse_any X _ hf).mono ?_
 rintro e w1 ⟨rfl, hb1⟩
 go_wp2_with fail
 refine (scaleRow_any B E G r cap g C W F s (Gf.inv X) w1 (K0.out.below hb1) KF.out hs hx hW).mono ?_
 rintro e w2 ⟨rfl, hM2, hg2⟩
 have KC : Hid (Chg (fun b => ∃ i, i < r ∧ b = g i) w w2) := (Chg.of_below _ hb1).trans (Chg.grown hg2 ⟨s, hs, rfl⟩)
 have KM : Hid (MatF w2 B E G r cap g C W (Gm.scl s (Gf.inv X) F)) := hM2
 clear hM2 hg2 hb1 K0 hh0 he0
 obtain ⟨N, hN⟩ : ∃ N, Gm.scl s (Gf.inv X) F = N := ⟨_, rfl⟩
 rw [hN] at KM KN
 have KNN : Hid (Gm.scl s (Gf.inv X) F = N) := hN
 clear hN
 go_wp2
 go_loopw [20] (fun i wr => ∃ q : Nat, q ≤ r ∧ i = .int .i64 q ∧ MatF wr B E G r cap g C W (clrK s k q N) ∧ Chg (fun b => ∃ i, i < r ∧ b = g i) w wr) (fun i _ => r - (intOf i).toNat)
 case atStart => exact ⟨0, Nat.zero_le _, rfl, KM.out.congr (fun i _ => ⟨rfl, rfl, rfl, fun j _ => by unfold clrK; rw [if_neg (by omega)]⟩), KC.out⟩
 case round =>
  obtain ⟨q, hq, rfl, hM, hC⟩ := hrel
  clear KM KC
  by_cases hlt : q < r
  ·have hqi : (q : Int) < (r : Int) := by omega
   by_cases hqs : q = s
   ·subst hqs
    have KM : Hid (MatF wr B E G r cap g C W (clrK q k q N)) := hM
    clear hM
    go_wp2
    go_roundw
    case rel => exact ⟨q + 1, by omega, by go_num, KM.out.congr (fun i _ => ⟨rfl, rfl, rfl, fun j _ => by
     unfold clrK
     by_cases e : i < q ∧ i ≠ q
     ·rw [if_pos e, if_pos (by omega)]
     ·rw [if_neg e, if_neg (by omega)]⟩), hC⟩
    case measure => simp [intOf] <;> omega
   ·have hne : ((q : Int) != (s : Int)) = true := by simp; omega
    have hh := hM.hdr hlt
    have he := hM.elt (j := k) hlt rfl hk
    have hval : clrK s k q N q k = N q k := by unfold clrK; rw [if_neg (by omega)]
    rw [hval] at he
    have hy := KN.out q k
    have KM : Hid (MatF wr B E G r cap g C W (clrK s k q N)) := hM
    have KE : Hid (∀ i j, addK q s (N q k) W (clrK s k q N) i j = if i < r ∧ j < W then clrK s k (q + 1) N i j else addK q s (N q k) W (clrK s k q N) i j) := fun i j => by
     by_cases hij : i < r ∧ j < W
     ·rw [if_pos hij]
      unfold addK clrK
      by_cases e : i = q
      ·subst e
       rw [if_pos ⟨rfl, hij.2⟩, if_neg (by omega), if_neg (by omega), if_pos ⟨by omega, hqs⟩]
      ·rw [if_neg (by omega)]
       by_cases e2 : i < q ∧ i ≠ s
       ·rw [if_pos e2, if_pos (by omega)]
       ·rw [if_neg e2, if_neg (by omega)]
     ·rw [if_neg hij]
    clear hM hval
    obtain ⟨Y, hY⟩ : ∃ Y, N q k = Y := ⟨_, rfl⟩
    rw [hY] at he hy KE
    clear hY
    obtain ⟨gq, hgq⟩ : ∃ gq, g q = gq := ⟨_, rfl⟩
    obtain ⟨Cq, hCq⟩ : ∃ Cq, C q = Cq := ⟨_, rfl⟩
    rw [hgq] at hh he
    rw [hCq] at hh
    have KGq : Hid (g q = gq) := hgq
    clear hgq hCq
    go_wp2_with fail
    refine (addScaledRow_any B E G r cap g C W (clrK s k q N) q s Y wr KM.out (clrK_byt KN.out) hlt hs hqs hy hW).mono ?_
    rintro e w3 ⟨rfl, hM3, hg3⟩
    have HS : Hid (MatF w3 B E G r cap g C W (clrK s k (q + 1) N)) := hM3.congr (fun i hi => ⟨rfl, rfl, rfl, fun j hj => by
     have := KE.out i j
     rw [if_pos ⟨hi, hj⟩] at this
     rw [this]⟩)
    have HC : Hid (Chg (fun b => ∃ i, i < r ∧ b = g i) w w3) := hC.trans (Chg.grown hg3 ⟨q, hlt, rfl⟩)
    clear hM3 hg3 KM hC
    go_wp2
    go_roundw
    case rel => exact ⟨q + 1, by omega, by go_num, HS.out, HC.out⟩
    case measure => simp [intOf] <;> omega
  ·obtain rfl : q = r := by omega
   have KM : Hid (MatF wr B E G q cap g C W (clrK s k q N)) := hM
   clear hM
   go_wp2
   go_end0
   refine ⟨rfl, ?_, hC⟩
   rw [KNN.out]
   exact KM.out.congr (fun i hi => ⟨rfl, rfl, rfl, fun j _ => by
    unfold clrK Gm.clr
    by_cases e : i = s
    ·rw [if_neg (by omega), if_pos e]
    ·rw [if_pos ⟨hi, e⟩, if_neg e]⟩)
structure BS (Q : Nat → Prop) (w : World) (B E G r cap W n Pb Wb Sb Mb : Nat) (A : Nat → Nat → Nat) (k : Nat) (g C : Nat → Nat) : Prop where
 mat : MatF w B E G r cap g C W (Gm.rd A r k).1
 pl : w.heap[Pb]? = some (.cells #[.int .i64 (k : Int)] 3 (0, 0))
 wd : w.heap[Wb]? = some (.cells #[.int .i64 (n : Int)] 3 (0, 0))
 st : w.heap[Sb]? = some (.cells #[.int .i64 ((Gm.rd A r k).2 : Int)] 3 (0, 0))
 mm : w.heap[Mb]? = some (.cells #[.slice (some ⟨G, 0, none⟩) r cap] 186 (0, 0))
 nq : ¬ Q G ∧ ¬ Q Pb ∧ ¬ Q Sb ∧ ∀ i, i < r → ¬ Q (g i)
theorem rd_none {A : Nat → Nat → Nat} {r k : Nat} {F : Nat → Nat → Nat} {s : Nat} (h : Gm.rd A r k = (F, s)) (hs : s ≤ r) (hz : ∀ t, s ≤ t → t < r → F t k = 0) : Gm.rd A r (k + 1) = (F, s) := by
 rw [Gm.rd_s, h, Gm.stp_eq, if_neg]
 intro hlt
 have h1 := Gm.fnd_le F k (r - s) s
 exact Gm.fnd_ne F k (r - s) s (by omega) (hz _ h1.1 hlt)
theorem rd_step {A : Nat → Nat → Nat} {r k : Nat} {F : Nat → Nat → Nat} {s p : Nat} (h : Gm.rd A r k = (F, s)) (hp : s ≤ p) (hpr : p < r) (hz : ∀ t, s ≤ t → t < p → F t k = 0) (hne : F p k ≠ 0) : Gm.rd A r (k + 1) = (Gm.one F s p k, s + 1) := by
 have h1 : Gm.fnd F k (r - s) s = p := Gm.fnd_is hp (by omega) hz (fun _ => hne)
 rw [Gm.rd_s, h, Gm.stp_eq, h1, if_pos hpr]
theorem MatF.swap {w : World} {B E G r cap : Nat} {g C : Nat → Nat} {W : Nat} {F : Nat → Nat → Nat} {s p : Nat} (h : MatF w B E G r cap g C W F) (hs : s < r) (hp : p < r) :
  MatF ((w.setCell ⟨G, s, none⟩ (.slice (some ⟨g p, 0, none⟩) W (C p))).setCell ⟨G, p, none⟩ (.slice (some ⟨g s, 0, none⟩) W (C s))) B E G r cap (fun i => g (Gm.sg s p i)) (fun i => C (Gm.sg s p i)) W (Gm.swp s p F) := by
 have o1 := (h.out.stored s (.slice (some ⟨g p, 0, none⟩) W (C p))).1
 have o2 := (o1.stored p (.slice (some ⟨g s, 0, none⟩) W (C s))).1
 rw [hds_set, hds_set] at o2
 refine ⟨?_, h.oE, fun i hi => ?_, fun i hi x ex => ?_, fun i j hi hj hij x y ex ey => ?_⟩
 ·rw [hds_congr (A' := fun i => if i = p then some ⟨g s, 0, none⟩ else if i = s then some ⟨g p, 0, none⟩ else some ⟨g i, 0, none⟩) (L' := fun i => if i = p then W else if i = s then W else W) (C' := fun i => if i = p then C s else if i = s then C p else C i) (fun i _ => by
   unfold Gm.sg
   by_cases e1 : i = p
   ·by_cases e2 : i = s
    ·simp [e1, show p = s by omega]
    ·simp [e1, show p ≠ s by omega]
   ·by_cases e2 : i = s
    ·simp [e2, show s ≠ p by omega]
    ·simp [e1, e2])]
  exact o2
 ·have hr := h.row (Gm.sg s p i) (Gm.sg_lt hs hp hi)
  have hne : ∀ x : Addr, some (⟨g (Gm.sg s p i), 0, none⟩ : Addr) = some x → x.block ≠ G := fun x ex => by
   cases ex
   exact h.off teNe (Gm.sg_lt hs hp hi) rfl
  exact own_kept (own_kept hr (grown_set w G s _) hne) (grown_set _ G p _) hne
 ·exact h.rE (Gm.sg s p i) (Gm.sg_lt hs hp hi) x ex
 ·refine h.apart (Gm.sg s p i) (Gm.sg s p j) (Gm.sg_lt hs hp hi) (Gm.sg_lt hs hp hj) (fun e => hij ?_) x y ex ey
  have := congrArg (Gm.sg s p) e
  rw [Gm.sg_sg, Gm.sg_sg] at this
  exact this
structure Mid (Q : Nat → Prop) (w0 w : World) (B E G r cap W n Pb Wb Sb Mb : Nat) (c s : Nat) (g C : Nat → Nat) (F : Nat → Nat → Nat) : Prop where
 mat : MatF w B E G r cap g C W F
 pl : w.heap[Pb]? = some (.cells #[.int .i64 (c : Int)] 3 (0, 0))
 wd : w.heap[Wb]? = some (.cells #[.int .i64 (n : Int)] 3 (0, 0))
 st : w.heap[Sb]? = some (.cells #[.int .i64 (s : Int)] 3 (0, 0))
 mm : w.heap[Mb]? = some (.cells #[.slice (some ⟨G, 0, none⟩) r cap] 186 (0, 0))
 chg : Chg (fun b => B ≤ b ∧ ¬ Q b) w0 w
 nq : ¬ Q G ∧ ¬ Q Pb ∧ ¬ Q Sb ∧ ∀ i, i < r → ¬ Q (g i)
structure Dst (B E Pb Wb Sb Mb : Nat) : Prop where
 be : B ≤ E
 d1 : E ≤ Pb
 d2 : E ≤ Wb
 d3 : E ≤ Sb
 d4 : E ≤ Mb
 d5 : Pb ≠ Wb
 d6 : Pb ≠ Sb
 d7 : Pb ≠ Mb
 d8 : Wb ≠ Sb
 d9 : Wb ≠ Mb
 d10 : Sb ≠ Mb
section
variable {Q : Nat → Prop} {w0 w : World} {B E G r cap W n Pb Wb Sb Mb : Nat} {c s : Nat} {g C : Nat → Nat} {F : Nat → Nat → Nat}
theorem Mid.below {w' : World} (h : Mid Q w0 w B E G r cap W n Pb Wb Sb Mb c s g C F) (hb : Below w.heap.size w w') : Mid Q w0 w' B E G r cap W n Pb Wb Sb Mb c s g C F := by
 have hc : Chg (fun _ => False) w w' := Chg.of_below _ hb
 exact ⟨h.mat.below hb, hc.at h.pl id, hc.at h.wd id, hc.at h.st id, hc.at h.mm id, h.chg.trans (Chg.of_below _ hb), h.nq⟩
theorem Mid.exchanged (D : Dst B E Pb Wb Sb Mb) (h : Mid Q w0 w B E G r cap W n Pb Wb Sb Mb c s g C F) {p : Nat} (hs : s < r) (hp : p < r) {gp Cp gs Cs : Nat} (e1 : g p = gp) (e2 : C p = Cp) (e3 : g s = gs) (e4 : C s = Cs) :
  Mid Q w0 ((w.setCell ⟨G, s, none⟩ (.slice (some ⟨gp, 0, none⟩) W Cp)).setCell ⟨G, p, none⟩ (.slice (some ⟨gs, 0, none⟩) W Cs)).drew B E G r cap W n Pb Wb Sb Mb c s (fun i => g (Gm.sg s p i)) (fun i => C (Gm.sg s p i)) (Gm.swp s p F) := by
 obtain ⟨D1, D2, D3, D4, D5, D6, D7, D8, D9, D10, D11⟩ := D
 subst e1
 subst e2
 subst e3
 subst e4
 have hGE : G < E := by have h1 := h.mat.oE _ rfl; simpa using h1
 have hch : Chg (fun b => b = G) w ((w.setCell ⟨G, s, none⟩ (.slice (some ⟨g p, 0, none⟩) W (C p))).setCell ⟨G, p, none⟩ (.slice (some ⟨g s, 0, none⟩) W (C s))).drew := by
  obtain ⟨h1, h2, h3, h4, h5⟩ := (Chg.grown (S := fun b => b = G) (grown_set w G s (.slice (some ⟨g p, 0, none⟩) W (C p))) rfl).trans (Chg.grown (S := fun b => b = G) (grown_set _ G p (.slice (some ⟨g s, 0, none⟩) W (C s))) rfl)
  exact ⟨h1, h2, h3, h4, h5⟩
 refine ⟨?_, hch.at h.pl (fun e => by omega), hch.at h.wd (fun e => by omega), hch.at h.st (fun e => by omega), hch.at h.mm (fun e => by omega), h.chg.trans (hch.imp (fun j e => by subst e; exact ⟨h.mat.olt.1, h.nq.1⟩)), h.nq.1, h.nq.2.1, h.nq.2.2.1, fun i hi => h.nq.2.2.2 _ (Gm.sg_lt hs hp hi)⟩
 obtain ⟨h1, h2, h3, h4, h5⟩ := MatF.swap h.mat hs hp
 exact ⟨h1, h2, h3, h4, h5⟩
theorem Mid.cleared (D : Dst B E Pb Wb Sb Mb) {w' : World} {F' : Nat → Nat → Nat} (h : Mid Q w0 w B E G r cap W n Pb Wb Sb Mb c s g C F) (hM : MatF w' B E G r cap g C W F') (hC : Chg (fun b => ∃ i, i < r ∧ b = g i) w w') : Mid Q w0 w' B E G r cap W n Pb Wb Sb Mb c s g C F' := by
 obtain ⟨D1, D2, D3, D4, D5, D6, D7, D8, D9, D10, D11⟩ := D
 have hgE : ∀ i, i < r → g i < E := fun i hi => by have h1 := h.mat.rE i hi _ rfl; simpa using h1
 exact ⟨hM, hC.at h.pl (fun ⟨i, hi, e⟩ => by have := hgE i hi; omega), hC.at h.wd (fun ⟨i, hi, e⟩ => by have := hgE i hi; omega), hC.at h.st (fun ⟨i, hi, e⟩ => by have := hgE i hi; omega), hC.at h.mm (fun ⟨i, hi, e⟩ => by have := hgE i hi; omega), h.chg.trans (hC.imp (fun j ⟨i, hi, e⟩ => by subst e; exact ⟨(h.mat.glt hi rfl).1, h.nq.2.2.2 i hi⟩)), h.nq⟩
theorem Mid.done (D : Dst B E Pb Wb Sb Mb) {A : Nat → Nat → Nat} {s1 c1 : Nat} (h : Mid Q w0 w B E G r cap W n Pb Wb Sb Mb c s g C F) (hrd : Gm.rd A r c1 = (F, s1)) :
  (w.setCell ⟨Sb, 0, none⟩ (.int .i64 (s1 : Int))).cell? ⟨Pb, 0, none⟩ = some (.int .i64 (c : Int)) ∧ (w.setCell ⟨Sb, 0, none⟩ (.int .i64 (s1 : Int))).frozen? ⟨Pb, 0, none⟩ = false ∧
  BS Q ((w.setCell ⟨Sb, 0, none⟩ (.int .i64 (s1 : Int))).setCell ⟨Pb, 0, none⟩ (.int .i64 (c1 : Int))) B E G r cap W n Pb Wb Sb Mb A c1 g C ∧ Chg (fun b => B ≤ b ∧ ¬ Q b) w0 ((w.setCell ⟨Sb, 0, none⟩ (.int .i64 (s1 : Int))).setCell ⟨Pb, 0, none⟩ (.int .i64 (c1 : Int))) := by
 obtain ⟨D1, D2, D3, D4, D5, D6, D7, D8, D9, D10, D11⟩ := D
 have c6 : Chg (fun b => b = Sb) w (w.setCell ⟨Sb, 0, none⟩ (.int .i64 (s1 : Int))) := Chg.grown (grown_set w Sb 0 _) rfl
 have bp6 := c6.at h.pl D7
 have bs6 := one_setCell (u := .int .i64 (s1 : Int)) h.st
 have bw6 := c6.at h.wd D9
 have bm6 := c6.at h.mm (fun e => D11 e.symm)
 have c7 : Chg (fun b => b = Pb) (w.setCell ⟨Sb, 0, none⟩ (.int .i64 (s1 : Int))) ((w.setCell ⟨Sb, 0, none⟩ (.int .i64 (s1 : Int))).setCell ⟨Pb, 0, none⟩ (.int .i64 (c1 : Int))) := Chg.grown (grown_set _ Pb 0 _) rfl
 refine ⟨cell_of_one bp6, free_of_one bp6, ⟨?_, one_setCell bp6, c7.at bw6 (fun e => D6 e.symm), ?_, c7.at bm6 (fun e => D8 e.symm), h.nq⟩, ?_⟩
 ·rw [hrd]; exact (h.mat.keptE (grown_set w Sb 0 _) D4).keptE (grown_set _ Pb 0 _) D2
 ·rw [hrd]; exact c7.at bs6 (fun e => D7 e.symm)
 ·exact (h.chg.trans (c6.imp (fun j e => by subst e; exact ⟨by omega, h.nq.2.2.1⟩))).trans (c7.imp (fun j e => by subst e; exact ⟨by omega, h.nq.2.1⟩))
theorem oneIs (F : Nat → Nat → Nat) (s p c : Nat) : Gm.clr s (fun i => Gm.scl s (Gf.inv (Gm.swp s p F s c)) (Gm.swp s p F) i c) (Gm.scl s (Gf.inv (Gm.swp s p F s c)) (Gm.swp s p F)) = Gm.one F s p c := by
 unfold Gm.one
 rw [show Gm.swp s p F s c = F p c from by unfold Gm.swp Gm.sg; rw [if_pos rfl]]
end
end Go.Proofs.YtodnodekheaacaaGreatDoor
namespace Go.Proofs.YtodnodekheaacaaGreatDoor
theorem Tryz.mixedM : Tryz.prog.follows .mixedOrders = true := by kernel_rfl
abbrev MatG (w : World) (B E G r cap : Nat) (g C : Nat → Nat) (W : Nat) (F : Nat → Nat → Nat) : Prop := MatI w B E (some ⟨G, 0, none⟩) r cap (fun i => some ⟨g i, 0, none⟩) (fun _ => W) C (fun i j => ((F i j : Nat) : Int))
theorem MatG.set {w : World} {B E G r cap : Nat} {g C : Nat → Nat} {W : Nat} {F F' : Nat → Nat → Nat} {i j v : Nat} (h : MatG w B E G r cap g C W F) (hi : i < r) (hj : j < W) (e : ∀ p q, p < r → q < W → (if p = i ∧ q = j then v else F p q) = F' p q) :
  MatG (w.setCell ⟨g i, j, none⟩ (.int .i64 (v : Int))) B E G r cap g C W F' :=
 (h.setElt tiNe hi rfl hj (v : Int)).1.congr (fun p hp => ⟨rfl, rfl, rfl, fun q hq => by
  rw [← e p q hp hq]
  split <;> rfl⟩)
theorem MatG.swap {w : World} {B E G r cap : Nat} {g C : Nat → Nat} {W : Nat} {F : Nat → Nat → Nat} {s p : Nat} (h : MatG w B E G r cap g C W F) (hs : s < r) (hp : p < r) :
  MatG ((w.setCell ⟨G, p, none⟩ (.slice (some ⟨g s, 0, none⟩) W (C s))).setCell ⟨G, s, none⟩ (.slice (some ⟨g p, 0, none⟩) W (C p))) B E G r cap (fun i => g (Gm.sg s p i)) (fun i => C (Gm.sg s p i)) W (Gm.swp s p F) := by
 have o1 := (h.out.stored p (.slice (some ⟨g s, 0, none⟩) W (C s))).1
 have o2 := (o1.stored s (.slice (some ⟨g p, 0, none⟩) W (C p))).1
 rw [hds_set, hds_set] at o2
 refine ⟨?_, h.oE, fun i hi => ?_, fun i hi x ex => ?_, fun i j hi hj hij x y ex ey => ?_⟩
 ·rw [hds_congr (A' := fun i => if i = s then some ⟨g p, 0, none⟩ else if i = p then some ⟨g s, 0, none⟩ else some ⟨g i, 0, none⟩) (L' := fun i => if i = s then W else if i = p then W else W) (C' := fun i => if i = s then C p else if i = p then C s else C i) (fun i _ => by
   unfold Gm.sg
   by_cases e1 : i = s
   ·simp [e1]
   ·by_cases e2 : i = p
    ·simp [e2, show p ≠ s by omega]
    ·simp [e1, e2])]
  exact o2
 ·have hr := h.row (Gm.sg s p i) (Gm.sg_lt hs hp hi)
  have hne : ∀ x : Addr, some (⟨g (Gm.sg s p i), 0, none⟩ : Addr) = some x → x.block ≠ G := fun x ex => by
   cases ex
   exact h.off tiNe (Gm.sg_lt hs hp hi) rfl
  exact own_kept (own_kept hr (grown_set w G p _) hne) (grown_set _ G s _) hne
 ·exact h.rE (Gm.sg s p i) (Gm.sg_lt hs hp hi) x ex
 ·refine h.apart (Gm.sg s p i) (Gm.sg s p j) (Gm.sg_lt hs hp hi) (Gm.sg_lt hs hp hj) (fun e => hij ?_) x y ex ey
  have := congrArg (Gm.sg s p) e
  rw [Gm.sg_sg, Gm.sg_sg] at this
  exact this
theorem rd_full {A : Nat → Nat → Nat} {r k : Nat} {F : Nat → Nat → Nat} (h : Gm.rd A r k = (F, r)) (d : Nat) : Gm.rd A r (k + d) = (F, r) := by
 induction d with
 | zero => exact h
 | succ d ih => exact rd_none ih (Nat.le_refl _) (fun t h1 h2 => by omega)
theorem addK_step {s q t y : Nat} {M : Nat → Nat → Nat} (hM : Gm.Byt M) (hy : y < 256) (p j : Nat) : (if p = q ∧ j = t then M q t ^^^ Gf.mul y (M s t) else addK q s y t M p j) = addK q s y (t + 1) M p j := by
 unfold addK
 by_cases e : p = q ∧ j = t
 ·obtain ⟨rfl, rfl⟩ := e
  rw [if_pos ⟨rfl, rfl⟩, if_pos ⟨rfl, by omega⟩, Gp.m_nat hy (hM _ _), Gp.m_comm]
 ·rw [if_neg e]
  by_cases e2 : p = q ∧ j < t
  ·rw [if_pos e2, if_pos (by omega)]
  ·rw [if_neg e2, if_neg (by omega)]
theorem clrK_next {s c q W : Nat} {N : Nat → Nat → Nat} (hq : q ≠ s) {p j : Nat} (hj : j < W) : addK q s (N q c) W (clrK s c q N) p j = clrK s c (q + 1) N p j := by
 unfold addK clrK
 by_cases e : p = q
 ·subst e
  rw [if_pos ⟨rfl, hj⟩, if_neg (by omega), if_neg (by omega), if_pos ⟨by omega, hq⟩]
 ·rw [if_neg (by omega)]
  by_cases e2 : p < q ∧ p ≠ s
  ·rw [if_pos e2, if_pos (by omega)]
  ·rw [if_neg e2, if_neg (by omega)]
theorem clrK_skip {s c : Nat} {N : Nat → Nat → Nat} (p j : Nat) : clrK s c s N p j = clrK s c (s + 1) N p j := by
 unfold clrK
 by_cases e : p < s ∧ p ≠ s
 ·rw [if_pos e, if_pos (by omega)]
 ·rw [if_neg e, if_neg (by omega)]
theorem sclK_step {a x k : Nat} {F : Nat → Nat → Nat} (hF : Gm.Byt F) (hx : x < 256) (p q : Nat) : (if p = a ∧ q = k then Gf.mul (F a k) x else sclK a x k F p q) = sclK a x (k + 1) F p q := by
 unfold sclK
 by_cases e : p = a ∧ q = k
 ·obtain ⟨rfl, rfl⟩ := e
  rw [if_pos ⟨rfl, rfl⟩, if_pos ⟨rfl, by omega⟩, Gp.m_nat (hF _ _) hx]
 ·rw [if_neg e]
  by_cases e2 : p = a ∧ q < k
  ·rw [if_pos e2, if_pos (by omega)]
  ·rw [if_neg e2, if_neg (by omega)]
set_option maxRecDepth 100000 in
theorem sReduce_any (B E G r cap W n : Nat) (g C : Nat → Nat) (A : Nat → Nat → Nat) (w : World) (h : MatG w B E G r cap g C W A) (hA : Gm.Byt A) (hn : n ≤ W) (hW : W ≤ 1048576) (hr : r ≤ 1048576) :
  Calls Tryz.prog 143 #[.slice (some ⟨G, 0, none⟩) r cap, .int .i64 (n : Int)] w fun e w' => e = .returned (.int .i64 ((Gm.rd A r n).2 : Int)) ∧ (∃ g' C', MatG w' B E G r cap g' C' W (Gm.rd A r n).1) ∧ Below B w w' := by
 have K0 : Hid (MatG w B E G r cap g C W A) := h
 have KA : Hid (Gm.Byt A) := hA
 clear h hA
 go_enter Tryz.func143, Tryz.ntmps143
 go_wp2
 go_loopw [5, 6] (fun a5 a6 wr => ∃ c g C, c ≤ n ∧ a5 = .int .i64 ((Gm.rd A r c).2 : Int) ∧ a6 = .int .i64 ((c : Nat) : Int) ∧ MatG wr B E G r cap g C W (Gm.rd A r c).1 ∧ Below B w wr) (fun _ a6 _ => n - (intOf a6).toNat)
 case atStart => exact ⟨0, g, C, Nat.zero_le _, rfl, rfl, K0.out, Below.refl _ _⟩
 case round =>
  obtain ⟨c, g1, C1, hc, rfl, rfl, hM, hbel⟩ := hrel
  clear K0
  have hec := Gm.ech_rd KA.out r c
  have hsr := hec.sr
  have hFb := hec.byt
  obtain ⟨F, s, hFs⟩ : ∃ F s, Gm.rd A r c = (F, s) := ⟨_, _, rfl⟩
  rw [hFs] at hM hsr hFb ⊢
  replace hM : MatG wr B E G r cap g1 C1 W F := hM
  replace hsr : s ≤ r := hsr
  replace hFb : Gm.Byt F := hFb
  have KH : Hid (Gm.rd A r c = (F, s)) := hFs
  have KF : Hid (Gm.Byt F) := hFb
  have KM : Hid (MatG wr B E G r cap g1 C1 W F) := hM
  have KB : Hid (Below B w wr) := hbel
  clear hec hFs hFb hM hbel
  by_cases hcn : c < n
  case neg =>
   obtain rfl : c = n := by omega
   have hci : ¬ (c : Int) < (c : Int) := by omega
   go_wp2
   go_ret
   exact ⟨by rw [KH.out] <;> rfl, ⟨g1, C1, by rw [KH.out]; exact KM.out⟩, KB.out⟩
  have hci : (c : Int) < (n : Int) := by omega
  by_cases hsr2 : s < r
  case neg =>
   obtain rfl : s = r := by omega
   have hsi : ¬ (s : Int) < (s : Int) := by omega
   have KH2 : Hid (Gm.rd A s n = (F, s)) := by
    have := rd_full KH.out (n - c)
    rw [show c + (n - c) = n by omega] at this
    exact this
   go_wp2
   go_ret
   exact ⟨by rw [KH2.out] <;> rfl, ⟨g1, C1, by rw [KH2.out]; exact KM.out⟩, KB.out⟩
  have hsi : (s : Int) < (r : Int) := by omega
  have hcW : c < W := by omega
  have hcWi : (c : Int) < (W : Int) := by omega
  go_wp2
  go_loop [7] (fun a7 => ∃ p : Nat, s ≤ p ∧ p ≤ r ∧ a7 = .int .i64 (p : Int) ∧ Hid (∀ t, s ≤ t → t < p → F t c = 0)) (fun a7 => r - (intOf a7).toNat)
  case atStart => exact ⟨s, Nat.le_refl _, hsr, rfl, fun t h1 h2 => by omega⟩
  case round =>
   obtain ⟨p, hsp, hpr, rfl, HZ⟩ := hrel
   by_cases hp : p < r
   case neg =>
    obtain rfl : p = r := by omega
    have hpi : ¬ (p : Int) < (p : Int) := by omega
    have KH2 : Hid (Gm.rd A p (c + 1) = (F, s)) := rd_none KH.out hsr HZ.out
    go_wp2
    go_roundw
    case rel => exact ⟨c + 1, g1, C1, by omega, by rw [KH2.out], by go_num, by rw [KH2.out]; exact KM.out, KB.out⟩
    case measure => simp [intOf] <;> omega
   have hpi : (p : Int) < (r : Int) := by omega
   have hh := KM.out.hdr hp
   have he := KM.out.elt (j := c) hp rfl hcW
   by_cases hz : F p c = 0
   ·rw [hz] at he
    have HZ2 : Hid (∀ t, s ≤ t → t < p + 1 → F t c = 0) := fun t h1 h2 => by
     by_cases e : t = p
     ·subst e; exact hz
     ·exact HZ.out t h1 (by omega)
    go_wp2
    go_round
    case rel => exact ⟨p + 1, by omega, by omega, by go_num, HZ2⟩
    case measure => simp [intOf] <;> omega
   ·have hX0 := KF.out p c
    have KH2 : Hid (Gm.rd A r (c + 1) = (Gm.one F s p c, s + 1)) := rd_step KH.out hsp hp HZ.out hz
    have hSw := MatG.swap KM.out hsr2 hp
    have hhs := KM.out.hdr hsr2
    have fG := fun j => MatZ.ofree KM.out j
    have fp := fG p
    clear fG
    have hSh := hSw.hdr (i := s) hsr2
    have hSe := hSw.elt (i := s) (j := c) hsr2 rfl hcW
    have hsg : Gm.sg s p s = p := if_pos rfl
    simp only [hsg] at hSh hSe
    have hval : Gm.swp s p F s c = F p c := by unfold Gm.swp; rw [hsg]
    rw [hval] at hSe
    obtain ⟨v2, hv2⟩ : ∃ v2, (wr.setCell ⟨G, p, none⟩ (.slice (some ⟨g1 s, 0, none⟩) W (C1 s))).cell? ⟨G, s, none⟩ = some v2 := by
     have h1 := (KM.out.out.stored p (.slice (some ⟨g1 s, 0, none⟩) W (C1 s))).1
     rw [h1.cellAt s (by omega)]
     exact ⟨_, List.getElem?_eq_getElem (by rw [h1.1]; omega)⟩
    have fs : (wr.setCell ⟨G, p, none⟩ (.slice (some ⟨g1 s, 0, none⟩) W (C1 s))).frozen? ⟨G, s, none⟩ = false := (KM.out.out.stored p (.slice (some ⟨g1 s, 0, none⟩) W (C1 s))).1.frozenAt s
    have KSW : Hid _ := hSw
    have KC0 : Hid (Below B w ((wr.setCell ⟨G, p, none⟩ (.slice (some ⟨g1 s, 0, none⟩) W (C1 s))).setCell ⟨G, s, none⟩ (.slice (some ⟨g1 p, 0, none⟩) W (C1 p)))) := (KB.out.setCell KM.out.olt.1 _).setCell KM.out.olt.1 _
    have hS := fun w => sInv_any ((F p c : Nat) : Int) w
    rw [show invI ((F p c : Nat) : Int) = ((Gf.inv (F p c) : Nat) : Int) by unfold invI; rw [if_pos (by omega)]; simp] at hS
    have hxl := Gf.inv_lt (F p c)
    have hz1 : ¬ ((F p c : Nat) : Int) = 0 := by omega
    have hz1' : ((((F p c : Nat) : Int)) == 0) = false := by simp; exact hz
    have KONE : Hid (Gm.clr s (fun i => Gm.scl s (Gf.inv (F p c)) (Gm.swp s p F) i c) (Gm.scl s (Gf.inv (F p c)) (Gm.swp s p F)) = Gm.one F s p c) := rfl
    clear hSw hsg hval
    obtain ⟨X, hX⟩ : ∃ X, F p c = X := ⟨_, rfl⟩
    obtain ⟨gp, hgp⟩ : ∃ gp, g1 p = gp := ⟨_, rfl⟩
    obtain ⟨Cp, hCp⟩ : ∃ Cp, C1 p = Cp := ⟨_, rfl⟩
    obtain ⟨gs, hgs⟩ : ∃ gs, g1 s = gs := ⟨_, rfl⟩
    obtain ⟨Cs, hCs⟩ : ∃ Cs, C1 s = Cs := ⟨_, rfl⟩
    have KNM : Hid (g1 p = gp ∧ C1 p = Cp) := ⟨hgp, hCp⟩
    rw [hX] at he hSe hS hxl hz1 hz1' KONE
    rw [hgp] at he hh hSh hSe KSW KC0
    rw [hCp] at hh hSh hSe KSW KC0
    rw [hgs] at hhs hv2 fs KSW KC0 hSh hSe
    rw [hCs] at hhs hv2 fs KSW KC0 hSh hSe
    clear hX hgp hCp hgs hCs hz hX0
    have hN1b : Gm.Byt (Gm.swp s p F) := Gm.swp_byt KF.out
    have KN1 : Hid (Gm.Byt (Gm.swp s p F)) := hN1b
    clear hN1b
    obtain ⟨F1, hF1⟩ : ∃ F1, Gm.swp s p F = F1 := ⟨_, rfl⟩
    obtain ⟨x, hx⟩ : ∃ x, Gf.inv X = x := ⟨_, rfl⟩
    rw [hF1] at KSW KONE KN1
    rw [hx] at hS hxl KONE
    clear hF1 hx
    go_wp2_with fail
    refine (hS _).mono ?_
    rintro e w9 ⟨rfl, hw9⟩
    obtain rfl := hw9.symm
    clear hw9 hS
    generalize hw2 : (wr.setCell ⟨G, p, none⟩ (.slice (some ⟨gs, 0, none⟩) W Cs)).setCell ⟨G, s, none⟩ (.slice (some ⟨gp, 0, none⟩) W Cp) = w2 at *
    clear hw2 hv2 fs hSe hh hhs he fp hz1 hz1'
    have hSh' : w2.cell? ⟨G, s, none⟩ = some (.slice (some ⟨gp, 0, none⟩) W Cp) := hSh
    have KG2 : Hid (g1 (Gm.sg s p s) = gp ∧ C1 (Gm.sg s p s) = Cp) := by
     have e : Gm.sg s p s = p := if_pos rfl
     rw [e]
     exact KNM.out
    clear hSh KNM
    obtain ⟨g2, hg2⟩ : ∃ g2 : Nat → Nat, (fun i => g1 (Gm.sg s p i)) = g2 := ⟨_, rfl⟩
    obtain ⟨C2, hC2⟩ : ∃ C2 : Nat → Nat, (fun i => C1 (Gm.sg s p i)) = C2 := ⟨_, rfl⟩
    have KG3 : Hid (g2 s = gp ∧ C2 s = Cp) := by rw [← hg2, ← hC2]; exact KG2.out
    have KS2 : Hid (MatG w2 B E G r cap g2 C2 W F1) := by rw [← hg2, ← hC2]; exact KSW.out
    clear hg2 hC2 KG2 KSW
    go_wp2
    go_loopw [10] (fun a10 wr => ∃ q : Nat, q ≤ W ∧ a10 = .int .i64 (q : Int) ∧ MatG wr B E G r cap g2 C2 W (sclK s x q F1) ∧ Below B w wr) (fun a10 _ => W - (intOf a10).toNat)
    case atStart => exact ⟨0, Nat.zero_le _, rfl, KS2.out.congr (fun i _ => ⟨rfl, rfl, rfl, fun j _ => by unfold sclK; rw [if_neg (by omega)]⟩), KC0.out⟩
    case round =>
     obtain ⟨q, hq, rfl, hM3, hb3⟩ := hrel
     clear KS2 KC0 hSh'
     have hG3 := hM3.hdr hsr2
     rw [KG3.out.1, KG3.out.2] at hG3
     by_cases hqW : q < W
     ·have hqi : (q : Int) < (W : Int) := by omega
      have he3 := hM3.elt (j := q) hsr2 rfl hqW
      have hval : sclK s x q F1 s q = F1 s q := by unfold sclK; rw [if_neg (by omega)]
      rw [hval, KG3.out.1] at he3
      have hf3 := KN1.out s q
      have KE3 : Hid (∀ p' q', (if p' = s ∧ q' = q then Gf.mul (F1 s q) x else sclK s x q F1 p' q') = sclK s x (q + 1) F1 p' q') := fun p' q' => sclK_step KN1.out hxl p' q'
      have hfr3 := hM3.free hsr2 rfl q
      rw [KG3.out.1] at hfr3
      have hgB := (hM3.glt hsr2 rfl).1
      rw [KG3.out.1] at hgB
      have KM3 : Hid (MatG wr B E G r cap g2 C2 W (sclK s x q F1)) := hM3
      have hmu := sMul_nat (F1 s q) x wr.drew hf3 hxl
      obtain ⟨Y, hY⟩ : ∃ Y, F1 s q = Y := ⟨_, rfl⟩
      rw [hY] at he3 hf3 KE3 hmu
      clear hY hval hM3
      go_wp2_with fail
      go_still_tail 14, Tryz.mixedM
      still_call hmu
      refine wpStill_nil ?_
      obtain ⟨w4, hw4⟩ : ∃ w4, w4 = wr.drew := ⟨_, rfl⟩
      have hb4 : Below wr.heap.size wr w4 := by rw [hw4]; exact ⟨rfl, rfl, rfl, Nat.le_refl _, fun _ _ => rfl⟩
      have ew : ({ heap := wr.heap, tape := wr.tape, drawn := wr.drawn + 1, os := wr.os, output := wr.output } : World) = w4 := by rw [hw4]; rfl
      rw [ew]
      have he4 := (hb4.cell (p := ⟨gp, q, none⟩) (block_lt_of_cell he3)).trans he3
      have hfr4 := (World.frozen?_of_block (a := ⟨gp, q, none⟩) (hb4.block _ (block_lt_of_cell he3))).trans hfr3
      have HS : Hid (MatG (w4.setCell ⟨gp, q, none⟩ (.int .i64 ((Gf.mul Y x : Nat) : Int))) B E G r cap g2 C2 W (sclK s x (q + 1) F1)) := by
       have := MatG.set (KM3.out.below hb4) (i := s) (j := q) (v := Gf.mul Y x) hsr2 hqW (fun p' q' _ _ => KE3.out p' q')
       rw [KG3.out.1] at this
       exact this
      have HB : Hid (Below B w (w4.setCell ⟨gp, q, none⟩ (.int .i64 ((Gf.mul Y x : Nat) : Int)))) := (hb3.trans (hb4.mono (by have := KM3.out.olt; omega))).setCell hgB _
      clear hmu he3 hfr3 KM3 hb3 hw4 ew hG3
      go_wp2
      go_roundw
      case rel => exact ⟨q + 1, by omega, by go_num, HS.out, HB.out⟩
      case measure => simp [intOf] <;> omega
     ·obtain rfl : W = q := by omega
      have hqi : ¬ (W : Int) < (W : Int) := by omega
      have KS4 : Hid (MatG wr B E G r cap g2 C2 W (Gm.scl s x F1)) := hM3.congr (fun i _ => ⟨rfl, rfl, rfl, fun j hj => by unfold sclK Gm.scl; by_cases e : i = s; rw [if_pos ⟨e, hj⟩, if_pos e]; rw [if_neg (by omega), if_neg e]⟩)
      have KC4 : Hid (Below B w wr) := hb3
      have KN2 : Hid (Gm.Byt (Gm.scl s x F1)) := Gm.scl_byt KN1.out
      clear hM3 hb3
      obtain ⟨N, hN⟩ : ∃ N, Gm.scl s x F1 = N := ⟨_, rfl⟩
      rw [hN] at KS4 KN2 KONE
      clear hN KN1
      go_wp2
      clear hG3
      go_loopw [11] (fun a11 wr => ∃ q : Nat, q ≤ r ∧ a11 = .int .i64 (q : Int) ∧ MatG wr B E G r cap g2 C2 W (clrK s c q N) ∧ Below B w wr) (fun a11 _ => r - (intOf a11).toNat)
      case atStart => exact ⟨0, Nat.zero_le _, rfl, KS4.out.congr (fun i _ => ⟨rfl, rfl, rfl, fun j _ => by unfold clrK; rw [if_neg (by omega)]⟩), KC4.out⟩
      case round =>
       obtain ⟨i, hi, rfl, hM5, hb5⟩ := hrel
       clear KS4 KC4
       by_cases hir : i < r
       ·have hii : (i : Int) < (r : Int) := by omega
        have hh5 := hM5.hdr hir
        have he5 := hM5.elt (j := c) hir rfl hcW
        have hy5 := clrK_byt (s := s) (k := c) (q := i) KN2.out i c
        have KM5 : Hid (MatG wr B E G r cap g2 C2 W (clrK s c i N)) := hM5
        have KB5 : Hid (Below B w wr) := hb5
        obtain ⟨gi, hgi⟩ : ∃ gi, g2 i = gi := ⟨_, rfl⟩
        obtain ⟨Ci, hCi⟩ : ∃ Ci, C2 i = Ci := ⟨_, rfl⟩
        rw [hgi] at hh5 he5
        rw [hCi] at hh5
        have KGi : Hid (g2 i = gi ∧ C2 i = Ci) := ⟨hgi, hCi⟩
        clear hgi hCi hM5 hb5
        by_cases his : i = s
        ·subst his
         obtain ⟨y, hy⟩ : ∃ y, clrK i c i N i c = y := ⟨_, rfl⟩
         rw [hy] at he5
         clear hy hy5
         have hnn : ((i : Int) != (i : Int)) = false := by simp
         have hW0 : (0 : Int) < (W : Int) := by omega
         go_wp2
         go_loop [13] (fun a13 => a13 = .int .i64 0) (fun _ => 0)
         case atStart => rfl
         case round =>
          obtain rfl := hrel
          go_wp2
          go_roundw
          case rel => exact ⟨i + 1, by omega, by go_num, KM5.out.congr (fun p' _ => ⟨rfl, rfl, rfl, fun j _ => by rw [clrK_skip]⟩), KB5.out⟩
          case measure => simp [intOf] <;> omega
        ·have hne : ((i : Int) != (s : Int)) = true := by simp; omega
         have hMb : Gm.Byt (clrK s c i N) := clrK_byt KN2.out
         have hyv : clrK s c i N i c = N i c := by unfold clrK; rw [if_neg (by omega)]
         have KNX : Hid (∀ p' j, j < W → addK i s (clrK s c i N i c) W (clrK s c i N) p' j = clrK s c (i + 1) N p' j) := fun p' j hj => by rw [hyv]; exact clrK_next his hj
         obtain ⟨y, hy⟩ : ∃ y, clrK s c i N i c = y := ⟨_, rfl⟩
         obtain ⟨M, hMM⟩ : ∃ M, clrK s c i N = M := ⟨_, rfl⟩
         rw [hy] at he5 hy5 KNX
         rw [hMM] at KM5 hMb KNX
         have KMb : Hid (Gm.Byt M) := hMb
         clear hy hyv hMM hMb
         go_wp2
         go_loopw [13] (fun a13 wr => ∃ t : Nat, t ≤ W ∧ a13 = .int .i64 (t : Int) ∧ MatG wr B E G r cap g2 C2 W (addK i s y t M) ∧ Below B w wr) (fun a13 _ => W - (intOf a13).toNat)
         case atStart => exact ⟨0, Nat.zero_le _, rfl, KM5.out.congr (fun p' _ => ⟨rfl, rfl, rfl, fun j _ => by unfold addK; rw [if_neg (by omega)]⟩), KB5.out⟩
         case round =>
          obtain ⟨t, ht, rfl, hM6, hb6⟩ := hrel
          clear KM5 KB5 hh5 he5
          have hh6 := hM6.hdr hir
          rw [KGi.out.1, KGi.out.2] at hh6
          by_cases htW : t < W
          ·have hti : (t : Int) < (W : Int) := by omega
           have he6 := hM6.elt (j := t) hir rfl htW
           have hes := hM6.elt (j := t) hsr2 rfl htW
           have hhs6 := hM6.hdr hsr2
           have hv1 : addK i s y t M i t = M i t := by unfold addK; rw [if_neg (by omega)]
           have hv2 : addK i s y t M s t = M s t := by unfold addK; rw [if_neg (by omega)]
           rw [hv1, KGi.out.1] at he6
           rw [hv2, KG3.out.1] at hes
           rw [KG3.out.1, KG3.out.2] at hhs6
           have hf6 := KMb.out i t
           have hs6 := KMb.out s t
           have KE6 : Hid (∀ p' j, (if p' = i ∧ j = t then M i t ^^^ Gf.mul y (M s t) else addK i s y t M p' j) = addK i s y (t + 1) M p' j) := fun p' j => addK_step KMb.out hy5 p' j
           have hfr6 := hM6.free hir rfl t
           rw [KGi.out.1] at hfr6
           have hgB := (hM6.glt hir rfl).1
           rw [KGi.out.1] at hgB
           have KM6 : Hid (MatG wr B E G r cap g2 C2 W (addK i s y t M)) := hM6
           have hmu := sMul_nat y (M s t) wr.drew hy5 hs6
           have hml := Gf.mul_lt hy5 hs6
           have hxr := xor_i64 (M i t) (Gf.mul y (M s t)) (by omega) (by omega)
           obtain ⟨P, hP⟩ : ∃ P, M i t = P := ⟨_, rfl⟩
           obtain ⟨Q, hQ⟩ : ∃ Q, M s t = Q := ⟨_, rfl⟩
           rw [hP] at he6 hf6 KE6 hxr
           rw [hQ] at hes hs6 KE6 hmu hml hxr
           clear hP hQ hv1 hv2 hM6
           go_wp2_with fail
           go_still_tail 22, Tryz.mixedM
           still_call hmu
           repeat still_step
           refine wpStill_nil ?_
           obtain ⟨w4, hw4⟩ : ∃ w4, w4 = wr.drew := ⟨_, rfl⟩
           have hb4 : Below wr.heap.size wr w4 := by rw [hw4]; exact ⟨rfl, rfl, rfl, Nat.le_refl _, fun _ _ => rfl⟩
           have ew : ({ heap := wr.heap, tape := wr.tape, drawn := wr.drawn + 1, os := wr.os, output := wr.output } : World) = w4 := by rw [hw4]; rfl
           rw [ew]
           have he4 := (hb4.cell (p := ⟨gi, t, none⟩) (block_lt_of_cell he6)).trans he6
           have hfr4 := (World.frozen?_of_block (a := ⟨gi, t, none⟩) (hb4.block _ (block_lt_of_cell he6))).trans hfr6
           have HS : Hid (MatG (w4.setCell ⟨gi, t, none⟩ (.int .i64 ((P ^^^ Gf.mul y Q : Nat) : Int))) B E G r cap g2 C2 W (addK i s y (t + 1) M)) := by
            have := MatG.set (KM6.out.below hb4) (i := i) (j := t) (v := P ^^^ Gf.mul y Q) hir htW (fun p' q' _ _ => KE6.out p' q')
            rw [KGi.out.1] at this
            exact this
           have HB : Hid (Below B w (w4.setCell ⟨gi, t, none⟩ (.int .i64 ((P ^^^ Gf.mul y Q : Nat) : Int)))) := (hb6.trans (hb4.mono (by have := KM6.out.olt; omega))).setCell hgB _
           clear hmu he6 hes hhs6 hfr6 KM6 hb6 hw4 ew hh6
           go_wp2
           go_roundw
           case rel => exact ⟨t + 1, by omega, by go_num, HS.out, HB.out⟩
           case measure => simp [intOf] <;> omega
          ·obtain rfl : W = t := by omega
           have hti : ¬ (W : Int) < (W : Int) := by omega
           have KM7 : Hid (MatG wr B E G r cap g2 C2 W (clrK s c (i + 1) N)) := hM6.congr (fun p' _ => ⟨rfl, rfl, rfl, fun j hj => by rw [KNX.out p' j hj]⟩)
           clear hM6
           go_wp2
           go_roundw
           case rel => exact ⟨i + 1, by omega, by go_num, KM7.out, hb6⟩
           case measure => simp [intOf] <;> omega
       ·obtain rfl : r = i := by omega
        have hii : ¬ (r : Int) < (r : Int) := by omega
        have KM8 : Hid (MatG wr B E G r cap g2 C2 W (Gm.one F s p c)) := hM5.congr (fun p' hp' => ⟨rfl, rfl, rfl, fun j _ => by
         rw [← KONE.out]
         unfold clrK Gm.clr
         by_cases e : p' = s
         ·rw [if_neg (by omega), if_pos e]
         ·rw [if_pos ⟨hp', e⟩, if_neg e]⟩)
        clear hM5
        go_wp2
        go_roundw
        case rel => exact ⟨c + 1, g2, C2, by omega, by rw [KH2.out]; go_num, by go_num, by rw [KH2.out]; exact KM8.out, hb5⟩
        case measure => simp [intOf] <;> omega
def fromReg (n : Nat) : Code → Option (Code × Code)
 | .seq (.region id ops d) b => if id == n then some (.region id ops d, b) else fromReg n b
 | .seq a b => match fromReg n a with
  | some c => some c
  | none => fromReg n b
 | .block _ c => fromReg n c
 | .scope c => fromReg n c
 | .cond _ a b => match fromReg n a with
  | some c => some c
  | none => fromReg n b
 | _ => none
noncomputable def foundParts : Code × Code := ((Tryz.f161.body.bind (fromReg 11)).getD (.skip, .skip))
set_option maxRecDepth 100000 in
theorem tail_any (Q : Nat → Prop) (B E G r cap W n Pb Wb Sb Mb : Nat) (A : Nat → Nat → Nat) (k c s p gp Cp gs Cs : Nat) (g C : Nat → Nat) (F : Nat → Nat → Nat) (w wq : World) (Post : Ending → World → Prop) (u4 u6 u7 u8 u9 u10 u11 u12 u13 u14 u15 u16 u17 u18 u19 u20 u21 u22 u23 u24 u25 u26 u27 u28 u29 u30 u31 u32 u33 u34 u35 u36 u37 u38 u39 u40 u41 u42 u43 u44 u45 u46 u47 u48 u49 u50 u51 : Value)
  (KMID : Hid (Mid Q w wq B E G r cap W n Pb Wb Sb Mb c s g C F)) (KDST : Hid (Dst B E Pb Wb Sb Mb)) (KN : Hid ((g p = gp ∧ C p = Cp) ∧ g s = gs ∧ C s = Cs))
  (KNUM : Hid ((k < c + 1 ∧ c + 1 ≤ n) ∧ (B ≤ w.heap.size ∧ Gm.Byt F) ∧ (s < r ∧ c < W) ∧ (W ≤ 1048576 ∧ r ≤ 1048576) ∧ Gm.rd A r (c + 1) = (Gm.one F s p c, s + 1))) (hpr : p < r)
  (KPOST : Hid (∀ (c1 : Nat) (g' C' : Nat → Nat) (w' : World), k < c1 → c1 ≤ n → BS Q w' B E G r cap W n Pb Wb Sb Mb A c1 g' C' → Chg (fun b => B ≤ b ∧ ¬ Q b) w w' → Post (.returned (.bool true)) w')) :
  Code.wp Tryz.prog foundParts.2 (Exit.noGoto (bodyPost Tryz.prog Tryz.f161 Post))
   ⟨#[.pointer (some ⟨Pb, 0, none⟩), .pointer (some ⟨Wb, 0, none⟩), .pointer (some ⟨Sb, 0, none⟩), .pointer (some ⟨Mb, 0, none⟩), u4, .int .i64 (p : Int), u6, u7, u8, u9, u10, u11, u12, u13, u14, u15, u16, u17, u18, u19, u20, u21, u22, u23, u24, u25, u26, u27, u28, u29, u30, u31, u32, u33, u34, u35, u36, u37, u38, u39, u40, u41, u42, u43, u44, u45, u46, u47, u48, u49, u50, u51], []⟩ ((wq.setCell ⟨G, s, none⟩ (.slice (some ⟨gp, 0, none⟩) W Cp)).setCell ⟨G, p, none⟩ (.slice (some ⟨gs, 0, none⟩) W Cs)).drew := by
 have hM := KMID.out.mat
 have hsrr := KNUM.out.2.2.1.1
 have hhs' := hM.hdr hsrr
 have hh' := hM.hdr hpr
 have fp' := hM.ofree p
 have cm' := cell_of_one KMID.out.mm
 have cs' := cell_of_one KMID.out.st
 rw [KN.out.1.1, KN.out.1.2] at hh'
 rw [KN.out.2.1, KN.out.2.2] at hhs'
 have h1 := (hM.out.stored s (.slice (some ⟨gp, 0, none⟩) W Cp)).1
 obtain ⟨v', hy'⟩ : ∃ v', (wq.setCell ⟨G, s, none⟩ (.slice (some ⟨gp, 0, none⟩) W Cp)).cell? ⟨G, p, none⟩ = some v' := by
  rw [h1.cellAt p (by omega)]
  exact ⟨_, List.getElem?_eq_getElem (by rw [h1.1]; omega)⟩
 have fy' : (wq.setCell ⟨G, s, none⟩ (.slice (some ⟨gp, 0, none⟩) W Cp)).frozen? ⟨G, p, none⟩ = false := h1.frozenAt p
 have hGM : Mb ≠ G := fun e => by
  have h1 := hM.oE _ rfl
  have h2 := KDST.out.d4
  simp at h1
  omega
 have cm2 : (wq.setCell ⟨G, s, none⟩ (.slice (some ⟨gp, 0, none⟩) W Cp)).cell? ⟨Mb, 0, none⟩ = some (.slice (some ⟨G, 0, none⟩) r cap) := (grown_set wq G s _).cell cm' (by simp; exact hGM)
 have KEX : Hid _ := KMID.out.exchanged KDST.out hsrr hpr KN.out.1.1 KN.out.1.2 KN.out.2.1 KN.out.2.2
 have hs9 : s + 1 ≤ 2000000 := by have := KNUM.out.2.2.2.1.2; omega
 have hc9 : c + 1 ≤ 2000000 := by have h1 := KNUM.out.2.2.1.2; have h2 := KNUM.out.2.2.2.1.1; omega
 have hsi : (s : Int) < (r : Int) := by omega
 have hpi : (p : Int) < (r : Int) := by omega
 clear hM h1 hGM KMID KN hsrr hpr
 obtain ⟨w3, hw3⟩ : ∃ w3, w3 = ((wq.setCell ⟨G, s, none⟩ (.slice (some ⟨gp, 0, none⟩) W Cp)).setCell ⟨G, p, none⟩ (.slice (some ⟨gs, 0, none⟩) W Cs)).drew := ⟨_, rfl⟩
 rw [← hw3] at KEX ⊢
 clear hw3 hy' fy' cm2 cm' cs' hh' hhs' fp'
 have cp3 := cell_of_one KEX.out.pl
 have cs3 := cell_of_one KEX.out.st
 have cm3 := cell_of_one KEX.out.mm
 conv => arg 2; whnf
 go_wp2_with fail
 refine Calls.mono (clearPlace_any B E G r cap (fun i => g (Gm.sg s p i)) (fun i => C (Gm.sg s p i)) W (Gm.swp s p F) s c w3 KEX.out.mat (Gm.swp_byt KNUM.out.2.1.2) KNUM.out.2.2.1.1 KNUM.out.2.2.1.2 KNUM.out.2.2.2.1.1 KNUM.out.2.2.2.1.2) ?_
 rintro e w5 ⟨rfl, hM5, hC5⟩
 rw [oneIs] at hM5
 have hMd := KEX.out.cleared KDST.out hM5 hC5
 have hDn := hMd.done (s1 := s + 1) (c1 := c + 1) KDST.out KNUM.out.2.2.2.2
 have cs5 := cell_of_one hMd.st
 have fs5 := free_of_one hMd.st
 clear cp3 cs3 cm3 KEX hM5 hC5 hMd
 obtain ⟨s1, hs1⟩ : ∃ s1, s + 1 = s1 := ⟨_, rfl⟩
 obtain ⟨c1, hc1⟩ : ∃ c1, c + 1 = c1 := ⟨_, rfl⟩
 have ws1 : IntKind.i64.wrap ((s : Int) + 1) = (s1 : Int) := by rw [IntKind.wrap_i64]; omega
 have wc1 : IntKind.i64.wrap ((c : Int) + 1) = (c1 : Int) := by rw [IntKind.wrap_i64]; omega
 have hkc1 : Hid (k < c1 ∧ c1 ≤ n) := by rw [← hc1]; exact KNUM.out.1
 rw [hs1, hc1] at hDn
 clear hs1 hc1 KNUM KDST hs9 hc9
 obtain ⟨cp6, fp6, hBS, hBl⟩ := hDn
 have HB : Hid _ := And.intro hBS hBl
 clear hBS hBl
 go_wp2
 exact KPOST.out c1 _ _ _ hkc1.out.1 hkc1.out.2 HB.out.1 HB.out.2
theorem tail_at {R : Code} (hR : foundParts.2 = R) (Q : Nat → Prop) (B E G r cap W n Pb Wb Sb Mb : Nat) (A : Nat → Nat → Nat) (k c s p gp Cp gs Cs : Nat) (g C : Nat → Nat) (F : Nat → Nat → Nat) (w wq : World) (Post : Ending → World → Prop) (u4 u6 u7 u8 u9 u10 u11 u12 u13 u14 u15 u16 u17 u18 u19 u20 u21 u22 u23 u24 u25 u26 u27 u28 u29 u30 u31 u32 u33 u34 u35 u36 u37 u38 u39 u40 u41 u42 u43 u44 u45 u46 u47 u48 u49 u50 u51 : Value)
  (KMID : Hid (Mid Q w wq B E G r cap W n Pb Wb Sb Mb c s g C F)) (KDST : Hid (Dst B E Pb Wb Sb Mb)) (KN : Hid ((g p = gp ∧ C p = Cp) ∧ g s = gs ∧ C s = Cs))
  (KNUM : Hid ((k < c + 1 ∧ c + 1 ≤ n) ∧ (B ≤ w.heap.size ∧ Gm.Byt F) ∧ (s < r ∧ c < W) ∧ (W ≤ 1048576 ∧ r ≤ 1048576) ∧ Gm.rd A r (c + 1) = (Gm.one F s p c, s + 1))) (hpr : p < r)
  (KPOST : Hid (∀ (c1 : Nat) (g' C' : Nat → Nat) (w' : World), k < c1 → c1 ≤ n → BS Q w' B E G r cap W n Pb Wb Sb Mb A c1 g' C' → Chg (fun b => B ≤ b ∧ ¬ Q b) w w' → Post (.returned (.bool true)) w')) :
  Code.wp Tryz.prog R (Exit.noGoto (bodyPost Tryz.prog Tryz.f161 Post))
   ⟨#[.pointer (some ⟨Pb, 0, none⟩), .pointer (some ⟨Wb, 0, none⟩), .pointer (some ⟨Sb, 0, none⟩), .pointer (some ⟨Mb, 0, none⟩), u4, .int .i64 (p : Int), u6, u7, u8, u9, u10, u11, u12, u13, u14, u15, u16, u17, u18, u19, u20, u21, u22, u23, u24, u25, u26, u27, u28, u29, u30, u31, u32, u33, u34, u35, u36, u37, u38, u39, u40, u41, u42, u43, u44, u45, u46, u47, u48, u49, u50, u51], []⟩ ((wq.setCell ⟨G, s, none⟩ (.slice (some ⟨gp, 0, none⟩) W Cp)).setCell ⟨G, p, none⟩ (.slice (some ⟨gs, 0, none⟩) W Cs)).drew := by
 subst hR
 exact tail_any Q B E G r cap W n Pb Wb Sb Mb A k c s p gp Cp gs Cs g C F w wq Post u4 u6 u7 u8 u9 u10 u11 u12 u13 u14 u15 u16 u17 u18 u19 u20 u21 u22 u23 u24 u25 u26 u27 u28 u29 u30 u31 u32 u33 u34 u35 u36 u37 u38 u39 u40 u41 u42 u43 u44 u45 u46 u47 u48 u49 u50 u51 KMID KDST KN KNUM hpr KPOST
theorem next_any (Q : Nat → Prop) (B E G r cap W n Pb Wb Sb Mb : Nat) (A : Nat → Nat → Nat) (k : Nat) (g C : Nat → Nat) (w : World) (h : BS Q w B E G r cap W n Pb Wb Sb Mb A k g C) (hA : Gm.Byt A) (hk : k ≤ n) (hn : n ≤ W) (hW : W ≤ 1048576) (hr : r ≤ 1048576) (hBE : B ≤ E)
  (d1 : E ≤ Pb) (d2 : E ≤ Wb) (d3 : E ≤ Sb) (d4 : E ≤ Mb) (d5 : Pb ≠ Wb) (d6 : Pb ≠ Sb) (d7 : Pb ≠ Mb) (d8 : Wb ≠ Sb) (d9 : Wb ≠ Mb) (d10 : Sb ≠ Mb) :
  Calls Tryz.prog 161 #[.pointer (some ⟨Pb, 0, none⟩), .pointer (some ⟨Wb, 0, none⟩), .pointer (some ⟨Sb, 0, none⟩), .pointer (some ⟨Mb, 0, none⟩)] w fun e w' =>
   (∃ k' g' C', k < k' ∧ k' ≤ n ∧ e = .returned (.bool true) ∧ BS Q w' B E G r cap W n Pb Wb Sb Mb A k' g' C' ∧ Chg (fun b => B ≤ b ∧ ¬ Q b) w w') ∨ (e = .returned (.bool false) ∧ BS Q w' B E G r cap W n Pb Wb Sb Mb A n g C ∧ Chg (fun b => B ≤ b ∧ ¬ Q b) w w') := by
 have he := Gm.ech_rd hA r k
 have hsr := he.sr
 have hFb := he.byt
 obtain ⟨hM, hpl, hwd, hst, hmm, hnq⟩ := h
 have KNQ : Hid (¬ Q G ∧ ¬ Q Pb ∧ ¬ Q Sb ∧ ∀ i, i < r → ¬ Q (g i)) := hnq
 clear hnq
 obtain ⟨F, s, hFs⟩ : ∃ F s, Gm.rd A r k = (F, s) := ⟨_, _, rfl⟩
 rw [hFs] at hM hst hsr hFb
 replace hM : MatF w B E G r cap g C W F := hM
 replace hst : w.heap[Sb]? = some (.cells #[.int .i64 (s : Int)] 3 (0, 0)) := hst
 replace hsr : s ≤ r := hsr
 replace hFb : Gm.Byt F := hFb
 have KM : Hid (MatF w B E G r cap g C W F) := hM
 have KH : Hid (Gm.rd A r k = (F, s)) := hFs
 have KF : Hid (Gm.Byt F) := hFb
 clear hM hFs hFb he
 have KB1 : Hid (w.heap[Pb]? = some (.cells #[.int .i64 (k : Int)] 3 (0, 0))) := hpl
 have KB2 : Hid (w.heap[Wb]? = some (.cells #[.int .i64 (n : Int)] 3 (0, 0))) := hwd
 have KB3 : Hid (w.heap[Sb]? = some (.cells #[.int .i64 (s : Int)] 3 (0, 0))) := hst
 have KB4 : Hid (w.heap[Mb]? = some (.cells #[.slice (some ⟨G, 0, none⟩) r cap] 186 (0, 0))) := hmm
 clear hpl hwd hst hmm
 go_enter Tryz.func161, Tryz.ntmps161
 go_wp2
 go_step3
 go_wp2
 go_step3
 go_wp2
 go_loopg [5, 6] (n - k) (fun gk s5 _ wr => ∃ c : Nat, k ≤ c ∧ c + gk = n ∧ s5 = .int .i64 (-1) ∧ Hid (Gm.rd A r c = (F, s)) ∧ wr.heap[Pb]? = some (.cells #[.int .i64 (c : Int)] 3 (0, 0)) ∧ w.grownBy wr (some Pb))
 case atStart => exact ⟨k, Nat.le_refl _, by omega, rfl, KH, KB1.out, World.grownBy.refl _ _⟩
 case round =>
  obtain ⟨c, hkc, hcg, rfl, HC, hpl, hgr⟩ := hrel
  clear KH
  have KG : Hid (w.grownBy wr (some Pb)) := hgr
  have hwd := (Chg.grown (S := fun b => b = Pb) hgr rfl).at KB2.out (fun e => d5 e.symm)
  have hst := (Chg.grown (S := fun b => b = Pb) hgr rfl).at KB3.out (fun e => d6 e.symm)
  have hmm := (Chg.grown (S := fun b => b = Pb) hgr rfl).at KB4.out (fun e => d7 e.symm)
  have KM' : Hid (MatF wr B E G r cap g C W F) := KM.out.keptE hgr d1
  have cp := cell_of_one hpl
  have cw := cell_of_one hwd
  have cs := cell_of_one hst
  have cm := cell_of_one hmm
  have KP : Hid (wr.heap[Pb]? = some (.cells #[.int .i64 (c : Int)] 3 (0, 0))) := hpl
  have KW : Hid (wr.heap[Wb]? = some (.cells #[.int .i64 (n : Int)] 3 (0, 0))) := hwd
  have KS : Hid (wr.heap[Sb]? = some (.cells #[.int .i64 (s : Int)] 3 (0, 0))) := hst
  have KMm : Hid (wr.heap[Mb]? = some (.cells #[.slice (some ⟨G, 0, none⟩) r cap] 186 (0, 0))) := hmm
  clear hgr hpl hwd hst hmm
  cases gk with
  | zero =>
   obtain rfl : c = n := by omega
   have HB : Hid (BS Q wr B E G r cap W c Pb Wb Sb Mb A c g C) := ⟨by rw [HC.out]; exact KM'.out, KP.out, KW.out, by rw [HC.out]; exact KS.out, KMm.out, KNQ.out⟩
   have HBe : Hid (Chg (fun b => B ≤ b ∧ ¬ Q b) w wr) := (Chg.grown (S := fun b => b = Pb) KG.out rfl).imp (fun j e => by subst e; exact ⟨by omega, KNQ.out.2.1⟩)
   go_wp2
   rw [Exit.noGoto_ret]
   go_ret
   exact .inr ⟨rfl, HB.out, HBe.out⟩
  | succ g1 =>
   have hcn : (c : Int) < (n : Int) := by omega
   have hcW : c < W := by omega
   have hcWi : (c : Int) < (W : Int) := by omega
   go_wp2
   have KPP : Hid (wr.heap[Pb]? = some (.cells #[.int .i64 (c : Int)] 3 (0, 0))) := KP
   clear cp cw cs cm KM' KP KW KS KMm
   go_loopg [5, 6] (r - s) (fun gq s5 s6 wr => ∃ p : Nat, s ≤ p ∧ p + gq = r ∧ s5 = .int .i64 (-1) ∧ s6 = .int .i64 (p : Int) ∧ Hid (∀ t, s ≤ t → t < p → F t c = 0) ∧ wr.heap[Pb]? = some (.cells #[.int .i64 (c : Int)] 3 (0, 0)) ∧ w.grownBy wr (some Pb))
   case atStart => exact ⟨s, Nat.le_refl _, by omega, rfl, rfl, fun t h1 h2 => by omega, KPP.out, KG.out⟩
   case round =>
    obtain ⟨p, hsp, hpg, rfl, rfl, HZ, hpl, hgr⟩ := hrel
    have hwd := (Chg.grown (S := fun b => b = Pb) hgr rfl).at KB2.out (fun e => d5 e.symm)
    have hst := (Chg.grown (S := fun b => b = Pb) hgr rfl).at KB3.out (fun e => d6 e.symm)
    have hmm := (Chg.grown (S := fun b => b = Pb) hgr rfl).at KB4.out (fun e => d7 e.symm)
    have hM' : MatF wr B E G r cap g C W F := KM.out.keptE hgr d1
    have cp := cell_of_one hpl
    have fp := free_of_one hpl
    have cw := cell_of_one hwd
    have cs := cell_of_one hst
    have cm := cell_of_one hmm
    have KG2 : Hid (w.grownBy wr (some Pb)) := hgr
    have KP : Hid (wr.heap[Pb]? = some (.cells #[.int .i64 (c : Int)] 3 (0, 0))) := hpl
    have KW : Hid (wr.heap[Wb]? = some (.cells #[.int .i64 (n : Int)] 3 (0, 0))) := hwd
    have KS : Hid (wr.heap[Sb]? = some (.cells #[.int .i64 (s : Int)] 3 (0, 0))) := hst
    have KMm : Hid (wr.heap[Mb]? = some (.cells #[.slice (some ⟨G, 0, none⟩) r cap] 186 (0, 0))) := hmm
    have KM' : Hid (MatF wr B E G r cap g C W F) := hM'
    clear hgr hpl hwd hst hmm
    cases gk with
    | zero =>
     obtain rfl : p = r := by omega
     have HC2 : Hid (Gm.rd A p (c + 1) = (F, s)) := rd_none HC.out hsr HZ.out
     have HS : Hid ((wr.setCell ⟨Pb, 0, none⟩ (.int .i64 ((c + 1 : Nat) : Int))).heap[Pb]? = some (.cells #[.int .i64 ((c + 1 : Nat) : Int)] 3 (0, 0))) := one_setCell KP.out
     have HG : Hid (w.grownBy (wr.setCell ⟨Pb, 0, none⟩ (.int .i64 ((c + 1 : Nat) : Int))) (some Pb)) := grownBy_trans KG2.out (grown_set wr Pb 0 _)
     clear hM'
     obtain ⟨c1, hc1⟩ : ∃ c1, c + 1 = c1 := ⟨_, rfl⟩
     have hw1 : IntKind.i64.wrap ((c : Int) + 1) = (c1 : Int) := by rw [IntKind.wrap_i64]; omega
     rw [hc1] at HS HG HC2
     go_wp2
     go_roundg g1
     case measure => omega
     case rel => exact ⟨c1, by omega, by omega, rfl, HC2, HS.out, HG.out⟩
    | succ gq =>
     have hpr : p < r := by omega
     have hpi : (p : Int) < (r : Int) := by omega
     have hh := hM'.hdr hpr
     have he := hM'.elt (j := c) hpr rfl hcW
     have hGp : G < wr.heap.size := hM'.olt.2
     clear hM'
     by_cases hz : F p c = 0
     ·have HZ2 : Hid (∀ t, s ≤ t → t < p + 1 → F t c = 0) := fun t h1 h2 => by
       by_cases e : t = p
       ·subst e; exact hz
       ·exact HZ.out t h1 (by omega)
      rw [hz] at he
      go_wp2_with fail
      go_quiet (fail)
      go_wp2
      go_roundg gq
      case measure => omega
      case rel => exact ⟨p + 1, by omega, by omega, rfl, by go_num, HZ2, KP.out, grownBy_drewN KG2.out _⟩
     ·have hzi : (((F p c : Nat) : Int) != 0) = true := by simp; exact hz
      have HC2 : Hid (Gm.rd A r (c + 1) = (Gm.one F s p c, s + 1)) := rd_step HC.out hsp hpr HZ.out hz
      have hsrr : s < r := by omega
      have hsri : (s : Int) < (r : Int) := by omega
      have hp0 : ¬ ((p : Int) < 0) := by omega
      have hhs := KM'.out.hdr hsrr
      have fG := fun j => MatZ.ofree KM'.out j
      have fs := fG s
      have fp2 := fG p
      clear fG
      obtain ⟨X, hX⟩ : ∃ X, F p c = X := ⟨_, rfl⟩
      rw [hX] at he hzi
      clear hX hz
      obtain ⟨gp, hgp⟩ : ∃ gp, g p = gp := ⟨_, rfl⟩
      obtain ⟨Cp, hCp⟩ : ∃ Cp, C p = Cp := ⟨_, rfl⟩
      obtain ⟨gs, hgs⟩ : ∃ gs, g s = gs := ⟨_, rfl⟩
      obtain ⟨Cs, hCs⟩ : ∃ Cs, C s = Cs := ⟨_, rfl⟩
      have KN : Hid ((g p = gp ∧ C p = Cp) ∧ g s = gs ∧ C s = Cs) := ⟨⟨hgp, hCp⟩, hgs, hCs⟩
      rw [hgp] at hh he
      rw [hCp] at hh
      rw [hgs, hCs] at hhs
      clear hgp hCp hgs hCs
      go_wp2_with fail
      go_quiet (fail)
      go_wp2_with fail
      generalize hwq : wr.drewN _ = wq
      have hbq : Below wr.heap.size wr wq := by rw [← hwq]; exact below_drewN (Below.refl _ _) _
      have KQ : Hid (Below wr.heap.size wr wq) := hbq
      have cm' := (hbq.cell (p := ⟨Mb, 0, none⟩) (block_lt_of_cell cm)).trans cm
      have cs' := (hbq.cell (p := ⟨Sb, 0, none⟩) (block_lt_of_cell cs)).trans cs
      have hh' := (hbq.cell (p := ⟨G, p, none⟩) (block_lt_of_cell hh)).trans hh
      have hhs' := (hbq.cell (p := ⟨G, s, none⟩) (block_lt_of_cell hhs)).trans hhs
      have fs' := (World.frozen?_of_block (a := ⟨G, s, none⟩) (hbq.block _ hGp)).trans fs
      have fp' := (World.frozen?_of_block (a := ⟨G, p, none⟩) (hbq.block _ hGp)).trans fp2
      clear hwq hbq cm cs hh hhs fs fp2 he cp fp cw
      obtain ⟨v', hy'⟩ : ∃ v', (wq.setCell ⟨G, s, none⟩ (.slice (some ⟨gp, 0, none⟩) W Cp)).cell? ⟨G, p, none⟩ = some v' := by
       by_cases e : p = s
       ·subst e
        have h1 := ((KM'.out.below KQ.out).out.stored p (.slice (some ⟨gp, 0, none⟩) W Cp)).1
        rw [h1.cellAt p (by omega)]
        exact ⟨_, List.getElem?_eq_getElem (by rw [h1.1]; omega)⟩
       ·have h1 := ((KM'.out.below KQ.out).out.stored s (.slice (some ⟨gp, 0, none⟩) W Cp)).1
        rw [h1.cellAt p (by omega)]
        exact ⟨_, List.getElem?_eq_getElem (by rw [h1.1]; omega)⟩
      have fy' : (wq.setCell ⟨G, s, none⟩ (.slice (some ⟨gp, 0, none⟩) W Cp)).frozen? ⟨G, p, none⟩ = false :=
       ((KM'.out.below KQ.out).out.stored s (.slice (some ⟨gp, 0, none⟩) W Cp)).1.frozenAt p
      have hGM : Mb ≠ G := fun e => by
       have h1 := KM'.out.oE _ rfl
       simp at h1
       omega
      have cm2 : (wq.setCell ⟨G, s, none⟩ (.slice (some ⟨gp, 0, none⟩) W Cp)).cell? ⟨Mb, 0, none⟩ = some (.slice (some ⟨G, 0, none⟩) r cap) := (grown_set wq G s _).cell cm' (by simp; exact hGM)
      have KMID : Hid (Mid Q w wq B E G r cap W n Pb Wb Sb Mb c s g C F) := Mid.below ⟨KM'.out, KP.out, KW.out, KS.out, KMm.out, (Chg.grown (S := fun b => b = Pb) KG2.out rfl).imp (fun j e => by subst e; exact ⟨by omega, KNQ.out.2.1⟩), KNQ.out⟩ KQ.out
      have KDST : Hid (Dst B E Pb Wb Sb Mb) := ⟨hBE, d1, d2, d3, d4, d5, d6, d7, d8, d9, d10⟩
      have KNUM : Hid ((k < c + 1 ∧ c + 1 ≤ n) ∧ (B ≤ w.heap.size ∧ Gm.Byt F) ∧ (s < r ∧ c < W) ∧ (W ≤ 1048576 ∧ r ≤ 1048576) ∧ Gm.rd A r (c + 1) = (Gm.one F s p c, s + 1)) := ⟨⟨by omega, by omega⟩, ⟨by have := KM.out.olt; omega, KF.out⟩, ⟨hsrr, hcW⟩, ⟨hW, hr⟩, HC2.out⟩
      clear KM' KQ KP KW KS KMm KM KF HC2 hk hn hW hr hBE d1 d2 d3 d4 d5 d6 d7 d8 d9 d10 hkc hcg hcW hsrr hsr hA KB1 KB2 KB3 KB4 HC KG HZ KG2 hcn hcWi KPP hsp hpg hGp hzi hp0 hGM
      rename_i hKont
      go_region
      refine hKont _ _ ?_
      exact tail_at (by rfl) Q B E G r cap W n Pb Wb Sb Mb A k c s p gp Cp gs Cs g C F w wq (fun e w' => (∃ k' g' C', k < k' ∧ k' ≤ n ∧ e = .returned (.bool true) ∧ BS Q w' B E G r cap W n Pb Wb Sb Mb A k' g' C' ∧ Chg (fun b => B ≤ b ∧ ¬ Q b) w w') ∨ (e = .returned (.bool false) ∧ BS Q w' B E G r cap W n Pb Wb Sb Mb A n g C ∧ Chg (fun b => B ≤ b ∧ ¬ Q b) w w')) _ _ _ _ _ _ _ _ _ _ _ _ _ _ _ _ _ _ _ _ _ _ _ _ _ _ _ _ _ _ _ _ _ _ _ _ _ _ _ _ _ _ _ _ _ _ _ KMID KDST KN KNUM hpr (fun c1 g' C' w' h1 h2 h3 h4 => .inl ⟨c1, g', C', h1, h2, rfl, h3, h4⟩)
end Go.Proofs.YtodnodekheaacaaGreatDoor
