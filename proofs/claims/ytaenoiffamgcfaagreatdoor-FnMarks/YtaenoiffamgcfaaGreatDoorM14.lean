import Derived.Test.YtaenoiffamgcfaaGreatDoorM8
import Derived.Test.YtaenoiffamgcfaaGreatDoorM10
import Derived.Test.YtaenoiffamgcfaaGreatDoorM6
import Derived.Test.YtaenoiffamgcfaaGreatDoorRows
import Derived.Deep.Strs
import Derived.Test.YtaenoiffamgcfaaGreatDoorM2
import Derived.Deep.Matrix
import Derived.Shelf.Abstract
import Derived.Test.YtaenoiffamgcfaaGreatDoorM9
import Derived.Lib.BufferWrite
import Derived.Laws.CopyOwn
import Derived.Deep.RegionLaw
set_option maxHeartbeats 8000000
set_option maxRecDepth 2000
open Go.ChangeShapes Go.WideShapes Go.ChangeAt Go.RowKit
namespace Go.Proofs.YtaenoiffamgcfaaGreatDoor
theorem same_any (a b : Option Addr) (n ca cb : Nat) (zs : List Int) (w : World) (ha : IntsAt w a n zs) (hb : IntsAt w b n zs) (hn : n ≤ 1048576) :
  Calls Tryz.prog 15 #[.slice a n ca, .slice b n cb] w fun e w' => e = .returned (.bool true) ∧ Below w.heap.size w w' := by
 go_enter Tryz.func15, Tryz.ntmps15
 go_wp2
 go_loopw [5] (fun i wr => ∃ k : Nat, k ≤ n ∧ i = .int .i64 k ∧ Below w.heap.size w wr) (fun i _ => n - (intOf i).toNat)
 case atStart => exact ⟨0, Nat.zero_le _, rfl, Below.refl _ _⟩
 case round =>
  obtain ⟨k, hk, rfl, hbel⟩ := hrel
  have ha' := ha.below hbel
  have hb' := hb.below hbel
  clear ha hb
  by_cases hlt : k < n
  ·obtain ⟨ba, oa, rfl, hca⟩ := ha'.2 k hlt
   obtain ⟨bb, ob, rfl, hcb⟩ := hb'.2 k hlt
   clear ha' hb'
   obtain ⟨x, HX⟩ : ∃ x, x = zs.getD k 0 := ⟨_, rfl⟩
   rw [← HX] at hca hcb
   clear HX
   go_wp2
   go_quiet (fail)
   go_wp2
   go_roundw
   case rel => exact ⟨k + 1, by omega, by go_num, below_drewN hbel _⟩
   case measure => simp [intOf]; omega
  ·go_wp2
   go_ret
   exact ⟨rfl, hbel⟩
theorem owns_cap {w : World} {B E g n cap : Nat} {xs : List Value} (h : w.ownsRow B E 1 (.slice (some ⟨g, 0, none⟩) n cap) n xs) : n ≤ cap := by
 rcases h.2 with h' | ⟨g', cap', cur, e, _, _, hn, _⟩
 ·cases h'.1
 ·cases e; exact hn
def OwnR (w : World) (B g n cap : Nat) (f : Nat → Nat) : Prop := w.ownsRow B 3 1 (.slice (some ⟨g, 0, none⟩) n cap) n ((eI f n).map (Value.int .i64))
theorem OwnR.lt {w : World} {B g n cap : Nat} {f : Nat → Nat} (h : OwnR w B g n cap f) : B ≤ g ∧ g < w.heap.size := World.ownsRow.lt h g rfl
theorem eI_snoc (f : Nat → Nat) (k : Nat) : eI f (k + 1) = eI f k ++ [((f k : Nat) : Int)] := by
 unfold eI
 rw [List.range_succ, List.map_append]
 rfl
theorem OwnR.snoc {w : World} {B g k cap : Nat} {f : Nat → Nat} (h : w.ownsRow B 3 1 (.slice (some ⟨g, 0, none⟩) (k + 1) cap) (k + 1) ((eI f k).map (Value.int .i64) ++ [.int .i64 ((f k : Nat) : Int)])) : OwnR w B g (k + 1) cap f := by
 unfold OwnR
 rw [eI_snoc, List.map_append]
 exact h
theorem lit0 (w : World) (f : Nat → Nat) : OwnR (w.alloc (.cells #[] 3)) w.heap.size w.heap.size 0 0 f :=
 World.ownsRow_lit w #[] 0 (Nat.le_refl _) (by unfold maxLen; omega) rfl
def zI (z : Nat → Int) (n : Nat) : List Int := (List.range n).map z
theorem zI_len (z : Nat → Int) (n : Nat) : (zI z n).length = n := by simp [zI]
theorem zI_congr {f g : Nat → Int} {n : Nat} (h : ∀ i, i < n → f i = g i) : zI f n = zI g n := by
 unfold zI
 apply List.map_congr_left
 intro i hi
 rw [h i (List.mem_range.1 hi)]
def hds (A : Nat → Option Addr) (L C : Nat → Nat) (n : Nat) : List Value := (List.range n).map fun i => Value.slice (A i) (L i) (C i)
theorem hds_get (A : Nat → Option Addr) (L C : Nat → Nat) (n i : Nat) (h : i < n) : (hds A L C n)[i]? = some (Value.slice (A i) (L i) (C i)) := by simp [hds, h]
theorem hds_congr {A A' : Nat → Option Addr} {L L' C C' : Nat → Nat} {n : Nat} (h : ∀ i, i < n → A i = A' i ∧ L i = L' i ∧ C i = C' i) : hds A L C n = hds A' L' C' n := by
 unfold hds
 apply List.map_congr_left
 intro i hi
 obtain ⟨h1, h2, h3⟩ := h i (List.mem_range.1 hi)
 rw [h1, h2, h3]
theorem hds_snoc (A : Nat → Option Addr) (L C : Nat → Nat) (n : Nat) : hds A L C (n + 1) = hds A L C n ++ [Value.slice (A n) (L n) (C n)] := by
 unfold hds
 rw [List.range_succ, List.map_append]
 rfl
structure MatZ (k : IntKind) (T TT : Nat) (w : World) (B E : Nat) (a : Option Addr) (n cap : Nat) (A : Nat → Option Addr) (L C : Nat → Nat) (Z : Nat → Nat → Int) : Prop where
 out : w.ownsRow B TT 1 (.slice a n cap) n (hds A L C n)
 oE : ∀ x, a = some x → x.block < E
 row : ∀ i, i < n → w.ownsRow B T 1 (.slice (A i) (L i) (C i)) (L i) ((zI (Z i) (L i)).map (Value.int k))
 rE : ∀ i, i < n → ∀ x, A i = some x → x.block < E
 apart : ∀ i j, i < n → j < n → i ≠ j → ∀ x y, A i = some x → A j = some y → x.block ≠ y.block
section
variable {k : IntKind} {T TT : Nat} {w w' : World} {B E : Nat} {a : Option Addr} {n cap : Nat} {A : Nat → Option Addr} {L C : Nat → Nat} {Z : Nat → Nat → Int}
theorem MatZ.addr (h : MatZ k T TT w B E a n cap A L C Z) (hn : 0 < n) : ∃ G, a = some ⟨G, 0, none⟩ := by
 rcases own_shape h.out with ⟨_, h0, _⟩ | ⟨g, _, e, _⟩
 ·omega
 ·exact ⟨g, e⟩
theorem MatZ.hdr {G i : Nat} (h : MatZ k T TT w B E (some ⟨G, 0, none⟩) n cap A L C Z) (hi : i < n) : w.cell? ⟨G, i, none⟩ = some (.slice (A i) (L i) (C i)) := by
 rw [h.out.cellAt i (by omega), hds_get _ _ _ _ _ hi]
theorem MatZ.olt {G : Nat} (h : MatZ k T TT w B E (some ⟨G, 0, none⟩) n cap A L C Z) : B ≤ G ∧ G < w.heap.size := h.out.lt G rfl
theorem MatZ.below (h : MatZ k T TT w B E a n cap A L C Z) (hb : Below w.heap.size w w') : MatZ k T TT w' B E a n cap A L C Z :=
 ⟨ownsRow_below h.out hb, h.oE, fun i hi => ownsRow_below (h.row i hi) hb, h.rE, h.apart⟩
theorem MatZ.congr {A' : Nat → Option Addr} {L' C' : Nat → Nat} {Z' : Nat → Nat → Int} (h : MatZ k T TT w B E a n cap A L C Z) (e : ∀ i, i < n → A i = A' i ∧ L i = L' i ∧ C i = C' i ∧ ∀ j, j < L i → Z i j = Z' i j) : MatZ k T TT w B E a n cap A' L' C' Z' := by
 refine ⟨?_, h.oE, fun i hi => ?_, fun i hi x ex => ?_, fun i j hi hj hij x y ex ey => ?_⟩
 ·rw [← hds_congr (fun i hi => ⟨(e i hi).1, (e i hi).2.1, (e i hi).2.2.1⟩)]; exact h.out
 ·obtain ⟨e1, e2, e3, e4⟩ := e i hi
  have hr := h.row i hi
  rw [zI_congr e4, e1, e2, e3] at hr
  exact hr
 ·exact h.rE i hi x ((e i hi).1.trans ex)
 ·exact h.apart i j hi hj hij x y ((e i hi).1.trans ex) ((e j hj).1.trans ey)
theorem MatZ.kept {b : Nat} (h : MatZ k T TT w B E a n cap A L C Z) (hg : w.grownBy w' (some b)) (ho : ∀ x, a = some x → x.block ≠ b) (hr : ∀ i, i < n → ∀ x, A i = some x → x.block ≠ b) : MatZ k T TT w' B E a n cap A L C Z :=
 ⟨own_kept h.out hg ho, h.oE, fun i hi => own_kept (h.row i hi) hg (hr i hi), h.rE, h.apart⟩
theorem MatZ.keptE {b : Nat} (h : MatZ k T TT w B E a n cap A L C Z) (hg : w.grownBy w' (some b)) (hb : E ≤ b) : MatZ k T TT w' B E a n cap A L C Z :=
 h.kept hg (fun x e => by have := h.oE x e; omega) (fun i hi x e => by have := h.rE i hi x e; omega)
theorem MatZ.push (hT : T ≠ TT) {E' : Nat} {a' : Option Addr} {cap' l c : Nat} {x : Option Addr} {z : Nat → Int} (h : MatZ k T TT w B E a n cap A L C Z)
  (hg : w.grownBy w' (Value.slice a n cap).ownBlock) (hout : w'.ownsRow B TT 1 (.slice a' (n + 1) cap') (n + 1) (hds A L C n ++ [Value.slice x l c])) (hsz : w'.heap.size ≤ E') (hE : E ≤ E')
  (hrow : w.ownsRow B T 1 (.slice x l c) l ((zI z l).map (Value.int k))) (hap : ∀ j, j < n → ∀ y u, A j = some y → x = some u → y.block ≠ u.block) :
  MatZ k T TT w' B E' a' (n + 1) cap' (fun j => if j = n then x else A j) (fun j => if j = n then l else L j) (fun j => if j = n then c else C j) (fun j => if j = n then z else Z j) := by
 have hrk : ∀ (u : Option Addr) (l c : Nat) (xs : List Value), w.ownsRow B T 1 (.slice u l c) l xs → w'.ownsRow B T 1 (.slice u l c) l xs := by
  intro u l c xs hr
  refine World.ownsRow.kept hr hg ?_
  rcases own_shape hr with ⟨rfl, _⟩ | ⟨g1, c1, rfl, _, hg1, _⟩
  ·exact .inl rfl
  ·right
   rcases own_shape h.out with ⟨rfl, _⟩ | ⟨g2, c2, rfl, _, hg2, _⟩
   ·simp [Value.ownBlock]
   ·simp only [Value.ownBlock, ne_eq, Option.some.injEq]
    intro e
    subst e
    rw [hg1] at hg2
    cases hg2
    exact hT rfl
 refine ⟨?_, fun y e => ?_, fun i hi => ?_, fun i hi y e => ?_, fun i j hi hj hij y u e1 e2 => ?_⟩
 ·rw [hds_snoc]
  simp only [if_pos]
  rw [← hds_congr (A := A) (L := L) (C := C) (fun i hi => by simp [show i ≠ n by omega])]
  exact hout
 ·subst e; exact Nat.lt_of_lt_of_le (hout.lt y.block rfl).2 hsz
 ·by_cases e : i = n
  ·subst e; simp only [if_pos]; exact hrk _ _ _ _ hrow
  ·simp only [if_neg e]; exact hrk _ _ _ _ (h.row i (by omega))
 ·by_cases e' : i = n
  ·subst e'
   simp only [if_pos] at e
   subst e
   exact Nat.lt_of_lt_of_le (Nat.lt_of_lt_of_le (hrow.lt y.block rfl).2 hg.size) hsz
  ·simp only [if_neg e'] at e
   exact Nat.lt_of_lt_of_le (h.rE i (by omega) y e) hE
 ·by_cases e : i = n
  ·subst e
   simp only [if_pos] at e1
   simp only [if_neg (show j ≠ i by omega)] at e2
   exact (hap j (by omega) u y e2 e1).symm
  ·simp only [if_neg e] at e1
   by_cases e' : j = n
   ·subst e'
    simp only [if_pos] at e2
    exact hap i (by omega) y u e1 e2
   ·simp only [if_neg e'] at e2
    exact h.apart i j (by omega) (by omega) hij y u e1 e2
theorem MatZ.nil (k : IntKind) (T TT : Nat) (w : World) (B E : Nat) (A : Nat → Option Addr) (L C : Nat → Nat) (Z : Nat → Nat → Int) : MatZ k T TT w B E none 0 0 A L C Z :=
 ⟨World.ownsRow_nil w B _ _, fun x e => (by cases e), fun i hi => by omega, fun i hi => by omega, fun i j hi => by omega⟩
theorem MatZ.zero {G c : Nat} (k : IntKind) (T TT : Nat) (w : World) (B E : Nat) (A : Nat → Option Addr) (L C : Nat → Nat) (Z : Nat → Nat → Int) (h : w.ownsRow B TT 1 (.slice (some ⟨G, 0, none⟩) 0 c) 0 []) (hE : G < E) : MatZ k T TT w B E (some ⟨G, 0, none⟩) 0 c A L C Z :=
 ⟨h, fun x e => by cases e; exact hE, fun i hi => by omega, fun i hi => by omega, fun i j hi => by omega⟩
end
def MatAt (w : World) (a : Option Addr) (n : Nat) (L : Nat → Nat) (Z : Nat → Nat → Int) : Prop :=
 ∀ i, i < n → ∃ b off ai ci, a = some ⟨b, off, none⟩ ∧ w.cell? ⟨b, off + i, none⟩ = some (.slice ai (L i) ci) ∧ IntsAt w ai (L i) (zI (Z i) (L i))
theorem own_ints {w : World} {B T n c : Nat} {a : Option Addr} {z : Nat → Int} (h : w.ownsRow B T 1 (.slice a n c) n ((zI z n).map (Value.int .i64))) : IntsAt w a n (zI z n) := by
 rcases own_shape h with ⟨rfl, rfl, rfl⟩ | ⟨g, cur, rfl, _⟩
 ·exact ⟨zI_len _ _, fun i hi => by omega⟩
 ·exact ownsRow.ints h
theorem MatZ.at {T TT : Nat} {w : World} {B E : Nat} {a : Option Addr} {n cap : Nat} {A : Nat → Option Addr} {L C : Nat → Nat} {Z : Nat → Nat → Int} (h : MatZ .i64 T TT w B E a n cap A L C Z) : MatAt w a n L Z := by
 intro i hi
 obtain ⟨G, rfl⟩ := h.addr (by omega)
 exact ⟨G, 0, A i, C i, rfl, by rw [Nat.zero_add]; exact h.hdr hi, own_ints (h.row i hi)⟩
end Go.Proofs.YtaenoiffamgcfaaGreatDoor
namespace Go.Proofs.YtaenoiffamgcfaaGreatDoor
open Go.Proofs.YtaenoiffamgcfaaGreatDoor.Gp (m m_lt m_comm m_nat xor_can xor_eq xor_lt)
def txt (f : Nat → Nat) (l : Nat) : ByteArray := strOfNums (eI f l)
theorem txt_size (f : Nat → Nat) (l : Nat) : (txt f l).size = l := by unfold txt; rw [strOfNums_size, eI_len]
theorem tat_txt {f : Nat → Nat} {l k : Nat} (hk : k < l) (hf : f k < 256) : tat (txt f l) k = f k := by
 unfold txt
 rw [tat_str, eI_getD _ _ _ hk, Int.toNat_natCast, Nat.mod_eq_of_lt hf]
theorem txt_congr {f g : Nat → Nat} {l : Nat} (h : ∀ i, i < l → f i = g i) : txt f l = txt g l := by unfold txt; rw [eI_congr h]
theorem txt_of (s : ByteArray) : txt (tat s) s.size = s := by
 refine str_ext (txt_size _ _) fun k => ?_
 by_cases hk : k < s.size
 ·exact tat_txt hk (tat_lt s k)
 ·rw [tat_out s k hk, tat_out _ k (by rw [txt_size]; exact hk)]
theorem txt_is {s : ByteArray} {f : Nat → Nat} {l : Nat} (hs : s.size = l) (h : ∀ k, k < l → tat s k = f k) : s = txt f l := by
 rw [← txt_of s, hs]
 exact txt_congr h
def blen (s k : Nat) : Nat := (s + 2 + k - 1) / k
theorem blen_ge {s k : Nat} (hk : 1 ≤ k) : s + 2 ≤ k * blen s k := by
 unfold blen
 have := Nat.div_add_mod (s + 2 + k - 1) k
 have h2 := Nat.mod_lt (s + 2 + k - 1) (show k > 0 by omega)
 omega
theorem blen_pos {s k : Nat} (hk : 1 ≤ k) : 1 ≤ blen s k := by
 have := blen_ge (s := s) hk
 rcases Nat.eq_zero_or_pos (blen s k) with h | h
 ·rw [h] at this; omega
 ·exact h
theorem blen_le {s k : Nat} (hk : 1 ≤ k) : blen s k ≤ s + 2 := by
 unfold blen
 rw [Nat.div_le_iff_le_mul_add_pred (by omega)]
 have : s + 2 ≤ k * (s + 2) := Nat.le_mul_of_pos_left _ (by omega)
 omega
def frm (s : ByteArray) (q : Nat) : Nat := if q = 0 then s.size / 256 else if q = 1 then s.size % 256 else tat s (q - 2)
theorem frm_lt {s : ByteArray} (hs : s.size < 65536) (q : Nat) : frm s q < 256 := by
 unfold frm
 split
 ·omega
 ·split
  ·omega
  ·exact tat_lt _ _
theorem frm_out {s : ByteArray} {q : Nat} (h : s.size + 2 ≤ q) : frm s q = 0 := by
 unfold frm
 rw [if_neg (by omega), if_neg (by omega), tat_out _ _ (by omega)]
def pcs (W : Nat → Nat) (l i p : Nat) : Nat := W (i * l + p)
def bod (k : Nat) (F T : Nat → Nat → Nat) (l i : Nat) : ByteArray := txt (Gm.mp k F T i) l
theorem bod_congr {k : Nat} {F F' T T' : Nat → Nat → Nat} {l i : Nat} (h1 : ∀ t, t < k → F i t = F' i t) (h2 : ∀ t p, t < k → p < l → T t p = T' t p) : bod k F T l i = bod k F' T' l i :=
 txt_congr (fun p hp => Gm.mp_congr h1 (fun t ht => h2 t p ht hp))
def enc (s : ByteArray) (k i p : Nat) : Nat := pcs (frm s) (blen s.size k) i p
def tells (W : Nat → Nat) (N k : Nat) : Prop := 2 ≤ N ∧ W 0 * 256 + W 1 ≤ 2000 ∧ N = k * blen (W 0 * 256 + W 1) k ∧ ∀ q, W 0 * 256 + W 1 + 2 ≤ q → q < N → W q = 0
def told (W : Nat → Nat) : ByteArray := txt (fun q => W (q + 2)) (W 0 * 256 + W 1)
end Go.Proofs.YtaenoiffamgcfaaGreatDoor
namespace Go.Proofs.YtaenoiffamgcfaaGreatDoor
theorem Tryz.infoInts : (Tryz.prog.info? 45).map (fun i => (i.zero, i.size, i.bytes)) = some (some (.slice none 0 0), 1, 24) := by kernel_rfl
abbrev MatI (w : World) (B E : Nat) (a : Option Addr) (n cap : Nat) (A : Nat → Option Addr) (L C : Nat → Nat) (Z : Nat → Nat → Int) : Prop := MatZ .i64 3 45 w B E a n cap A L C Z
theorem tiNe : (3 : Nat) ≠ 45 := by decide
def side (n : Int) : Bool := decide (1 ≤ n ∧ n ≤ 16)
def ResM (w w' : World) (v : Value) (r c : Nat) (F : Nat → Nat → Nat) : Prop := ∃ a cap A C, v = .slice a r cap ∧ MatI w' w.heap.size w'.heap.size a r cap A (fun _ => c) C (fun i j => ((F i j : Nat) : Int))
theorem ResM.mk {w w' : World} {a : Option Addr} {r cap c : Nat} {A : Nat → Option Addr} {C : Nat → Nat} {F : Nat → Nat → Nat} {B : Nat} (h : MatI w' B w'.heap.size a r cap A (fun _ => c) C (fun i j => ((F i j : Nat) : Int))) (hB : w.heap.size ≤ B) : ResM w w' (.slice a r cap) r c F :=
 ⟨a, cap, A, C, rfl, ⟨own_base h.out hB, h.oE, fun i hi => own_base (h.row i hi) hB, h.rE, h.apart⟩⟩
def sprOk (k n : Int) : Bool := side n && decide (1 ≤ k ∧ k ≤ n)
def sprR (k n : Int) : Nat := if sprOk k n = true then n.toNat else 0
theorem MatI.pushed {wr w2 : World} {B b0 G k cap g2 cap3 gr W capr : Nat} {A : Nat → Option Addr} {C : Nat → Nat} {F : Nat → Nat → Nat} (o : Obj) (hM : MatI wr B b0 (some ⟨G, 0, none⟩) k cap A (fun _ => W) C (fun i j => ((F i j : Nat) : Int)))
  (hb : B ≤ b0) (hr : OwnR wr b0 gr W capr (F k)) (hgrow : (wr.alloc o).grownBy w2 (some G))
  (hout : w2.ownsRow B 45 1 (.slice (some ⟨g2, 0, none⟩) (k + 1) cap3) (k + 1) (hds A (fun _ => W) C k ++ [.slice (some ⟨gr, 0, none⟩) W capr])) :
  ∃ A' C', MatI w2 B w2.heap.size (some ⟨g2, 0, none⟩) (k + 1) cap3 A' (fun _ => W) C' (fun i j => ((F i j : Nat) : Int)) := by
 have hbo : Below wr.heap.size wr (wr.alloc o) := (Below.refl _ _).alloc (Nat.le_refl _) _
 have hM1 := hM.below hbo
 have hr1 : (wr.alloc o).ownsRow B 3 1 (.slice (some ⟨gr, 0, none⟩) W capr) W ((zI (fun j => ((F k j : Nat) : Int)) W).map (Value.int .i64)) := own_base (ownsRow_below hr hbo) hb
 have hgr := hr.lt.1
 refine ⟨_, _, (MatZ.push tiNe hM1 hgrow hout (Nat.le_refl _) ?_ hr1 (fun j hj y u ey eu => ?_)).congr (fun i _ => ⟨rfl, by split <;> rfl, rfl, fun j _ => by by_cases e : i = k; subst e; simp; simp [e]⟩)⟩
 ·by_cases h0 : G < b0
  ·exact Nat.le_trans (Nat.le_of_lt (Nat.lt_of_le_of_lt hgr hr.lt.2)) (Nat.le_trans hbo.size hgrow.size)
  ·exact Nat.le_trans (Nat.le_of_lt (Nat.lt_of_le_of_lt hgr hr.lt.2)) (Nat.le_trans hbo.size hgrow.size)
 ·cases eu
  have := hM.rE j hj y ey
  exact Nat.ne_of_lt (Nat.lt_of_lt_of_le this hgr)
theorem MatI.rowed {wr w2 : World} {B b0 gr : Nat} {a : Option Addr} {k cap W : Nat} {A : Nat → Option Addr} {C : Nat → Nat} {F : Nat → Nat → Nat} (o : Obj) (hM : MatI wr B b0 a k cap A (fun _ => W) C (fun i j => ((F i j : Nat) : Int))) (hgr : b0 ≤ gr) (hgrow : (wr.alloc o).grownBy w2 (some gr)) :
  MatI w2 B b0 a k cap A (fun _ => W) C (fun i j => ((F i j : Nat) : Int)) := (hM.below ((Below.refl _ _).alloc (Nat.le_refl _) o)).keptE hgrow hgr
theorem litM (w : World) (A : Nat → Option Addr) (L C : Nat → Nat) (Z : Nat → Nat → Int) : MatI (w.alloc (.cells #[] 45)) w.heap.size (w.alloc (.cells #[] 45)).heap.size (some ⟨w.heap.size, 0, none⟩) 0 0 A L C Z :=
 MatZ.zero _ _ _ _ _ _ _ _ _ _ (World.ownsRow_lit w #[] 0 (Nat.le_refl _) (by unfold maxLen; omega) rfl) (by simp)
theorem resLit0 (w w1 : World) (h : w.heap.size ≤ w1.heap.size) (c : Nat) (F : Nat → Nat → Nat) : ResM w (w1.alloc (.cells #[] 45)) (.slice (some ⟨w1.heap.size, 0, none⟩) 0 0) 0 c F :=
 ResM.mk (litM w1 (fun _ => none) (fun _ => c) (fun _ => 0) _) h
def blOk (s k : Int) : Bool := decide (0 ≤ s ∧ s ≤ 2000) && side k
def blI (s k : Int) : Int := if blOk s k = true then ((blen s.toNat k.toNat : Nat) : Int) else -1
theorem blI_yes {s k : Nat} (hs : s ≤ 2000) (hk : 1 ≤ k) (hk2 : k ≤ 16) : blI (s : Int) (k : Int) = ((blen s k : Nat) : Int) := by
 unfold blI
 rw [if_pos (by unfold blOk side; simp; omega)]
 simp
theorem blI_no {s k : Int} (h : ¬ (0 ≤ s ∧ s ≤ 2000 ∧ 1 ≤ k ∧ k ≤ 16)) : blI s k = -1 := by
 unfold blI
 rw [if_neg]
 unfold blOk side
 simp
 omega
theorem quo_blen {s k : Nat} (_hk : 1 ≤ k) : Int.tdiv ((s : Int) + 2 + (k : Int) - 1) (k : Int) = ((blen s k : Nat) : Int) := by
 unfold blen
 rw [show (s : Int) + 2 + (k : Int) - 1 = ((s + 2 + k - 1 : Nat) : Int) by omega, ← Int.ofNat_tdiv]
theorem sBodyLen_any (s k : Int) (w : World) : Calls Tryz.prog 107 #[.int .i64 s, .int .i64 k] w fun e w' => e = .returned (.int .i64 (blI s k)) ∧ w' = w := by
 by_cases h : 0 ≤ s ∧ s ≤ 2000 ∧ 1 ≤ k ∧ k ≤ 16
 ·obtain ⟨h1, h2, h3, h4⟩ := h
  obtain ⟨S, rfl⟩ := Int.eq_ofNat_of_zero_le h1
  obtain ⟨K, rfl⟩ := Int.eq_ofNat_of_zero_le (show 0 ≤ k by omega)
  have hi1 : inB (S : Int) 0 2000 = true := by unfold inB; simp; omega
  have hi2 : inB (K : Int) 1 16 = true := by unfold inB; simp; omega
  have HB : Hid (blI (S : Int) (K : Int) = ((blen S K : Nat) : Int)) := blI_yes (by omega) (by omega) (by omega)
  have hq := quo_blen (s := S) (k := K) (by omega)
  have hw1 : IntKind.i64.wrap ((S : Int) + 2) = (S : Int) + 2 := by rw [IntKind.wrap_i64]; omega
  have hw2 : IntKind.i64.wrap ((S : Int) + 2 + (K : Int)) = (S : Int) + 2 + (K : Int) := by rw [IntKind.wrap_i64]; omega
  have hw3 : IntKind.i64.wrap ((S : Int) + 2 + (K : Int) - 1) = (S : Int) + 2 + (K : Int) - 1 := by rw [IntKind.wrap_i64]; omega
  have hbl := blen_le (s := S) (k := K) (by omega)
  have hw4 : IntKind.i64.wrap ((blen S K : Nat) : Int) = ((blen S K : Nat) : Int) := by rw [IntKind.wrap_i64]; omega
  have hk0 : ((K : Int) == 0) = false := by simp; omega
  have hk0' : ¬ ((K : Int) = 0) := by omega
  generalize blen S K = b at hq hw4 HB
  go_enter Tryz.func107, Tryz.ntmps107
  go_wp2_with (go_at_call 63; refine (sIn_any _ _ _ _).mono ?_; rintro e w' ⟨rfl, hw⟩; obtain rfl := hw.symm)
  go_ret
  exact ⟨ret_int (by rw [HB.out] <;> simp [*]), rfl⟩
 ·have HB : Hid (blI s k = -1) := blI_no h
  by_cases h1 : 0 ≤ s ∧ s ≤ 2000
  ·have hi1 : inB s 0 2000 = true := by unfold inB; simp; omega
   have hi2 : inB k 1 16 = false := by unfold inB; simp; omega
   go_enter Tryz.func107, Tryz.ntmps107
   go_wp2_with (go_at_call 63; refine (sIn_any _ _ _ _).mono ?_; rintro e w' ⟨rfl, hw⟩; obtain rfl := hw.symm)
   go_ret
   exact ⟨ret_int HB.out.symm, rfl⟩
  ·have hi1 : inB s 0 2000 = false := by unfold inB; simp; omega
   go_enter Tryz.func107, Tryz.ntmps107
   go_wp2_with (go_at_call 63; refine (sIn_any _ _ _ _).mono ?_; rintro e w' ⟨rfl, hw⟩; obtain rfl := hw.symm)
   go_ret
   exact ⟨ret_int HB.out.symm, rfl⟩
theorem sUnit0_any (n : Nat) (w : World) (hn : n ≤ 1000) :
  Calls Tryz.prog 128 #[.int .i64 (n : Int)] w fun e w' => ∃ G cap A C, e = .returned (.slice (some ⟨G, 0, none⟩) n cap) ∧ MatI w' w.heap.size w'.heap.size (some ⟨G, 0, none⟩) n cap A (fun _ => n) C (fun i j => ((Gm.dl i j : Nat) : Int)) ∧ Below w.heap.size w w' := by
 obtain ⟨i0, hi, hz0, hz1, hz2⟩ := info_parts Tryz.infoInt
 obtain ⟨i1, hj, hy0, hy1, hy2⟩ := info_parts Tryz.infoInts
 have H0 : Hid (MatI (w.alloc (.cells #[] 45)) w.heap.size (w.alloc (.cells #[] 45)).heap.size (some ⟨w.heap.size, 0, none⟩) 0 0 (fun _ => none) (fun _ => n) (fun _ => 0) (fun i j => ((Gm.dl i j : Nat) : Int))) := litM w _ _ _ _
 go_enter Tryz.func128, Tryz.ntmps128
 go_wp2
 go_loopw [3, 4] (fun v i wr => ∃ k G cap A C, k ≤ n ∧ i = .int .i64 ((k : Nat) : Int) ∧ v = .slice (some ⟨G, 0, none⟩) k cap ∧ MatI wr w.heap.size wr.heap.size (some ⟨G, 0, none⟩) k cap A (fun _ => n) C (fun i j => ((Gm.dl i j : Nat) : Int)) ∧ Below w.heap.size w wr) (fun _ i _ => n - (intOf i).toNat)
 case atStart => exact ⟨0, _, _, _, _, Nat.zero_le _, rfl, rfl, H0.out, (Below.refl _ _).alloc (Nat.le_refl _) _⟩
 case round =>
  obtain ⟨k, G, cap, A, C, hk, rfl, rfl, hM, hbel⟩ := hrel
  clear H0
  by_cases hlt : k < n
  ·have hki : (k : Int) < (n : Int) := by omega
   have hsz0 := hbel.size
   have KR : Hid (OwnR (wr.alloc (.cells #[] 3)) wr.heap.size wr.heap.size 0 0 (Gm.dl k)) := lit0 wr (Gm.dl k)
   have KM : Hid (MatI (wr.alloc (.cells #[] 3)) w.heap.size wr.heap.size (some ⟨G, 0, none⟩) k cap A (fun _ => n) C (fun i j => ((Gm.dl i j : Nat) : Int))) := hM.below ((Below.refl _ _).alloc (Nat.le_refl _) _)
   have KB : Hid (Below w.heap.size w (wr.alloc (.cells #[] 3))) := hbel.alloc hsz0 _
   have hGl := hM.olt.1
   clear hM hbel
   obtain ⟨b0, hb0⟩ : ∃ b0, wr.heap.size = b0 := ⟨_, rfl⟩
   rw [hb0] at KR KM hsz0
   go_wp2
   clear hb0
   go_loopw [5, 6] (fun v i wr => ∃ q gr capr, q ≤ n ∧ i = .int .i64 ((q : Nat) : Int) ∧ v = .slice (some ⟨gr, 0, none⟩) q capr ∧ OwnR wr b0 gr q capr (Gm.dl k) ∧ MatI wr w.heap.size b0 (some ⟨G, 0, none⟩) k cap A (fun _ => n) C (fun i j => ((Gm.dl i j : Nat) : Int)) ∧ Below w.heap.size w wr) (fun _ i _ => n - (intOf i).toNat)
   case atStart => exact ⟨0, _, _, Nat.zero_le _, rfl, rfl, KR.out, KM.out, KB.out⟩
   case round =>
    obtain ⟨q, gr, capr, hq, rfl, rfl, hown, hM, hbel⟩ := hrel
    clear KR KM KB
    have hgr := hown.lt.1
    have hsz := hbel.size
    have hglt := hown.lt.2
    by_cases hqn : q < n
    ·have hqi : (q : Int) < (n : Int) := by omega
     obtain ⟨x, hx⟩ : ∃ x, Gm.dl k q = x := ⟨_, rfl⟩
     by_cases e : k = q
     ·subst e
      have hxe : Gm.dl k k = 1 := Gm.dl_self k
      clear hx
      go_wp2_with (at_builtin; refine wpList_append_lies _ (by rfl) _ _ 45 (by rfl) b0 3 i0 (.int .i64 0) 1 8 Tryz.underlying45 hi hz0 hz1 hz2 rfl (by decide) (.slice (some ⟨gr, 0, none⟩) k capr) k _ (by rfl) (World.ownsRow.alloc hown _) ⟨wr.heap.size, 0, none⟩ 1 1 [.int .i64 1] (by rfl) (by rfl) (World.news_of_block (cs := #[.int .i64 1]) (t := 3) (fr := (0, 0)) (heap_alloc_new wr _)) (by simp [Value.oneCell']) (by omega) (by unfold maxLen; omega) (by omega) (by simp; omega) (wr.heap.size + 1) (by simp) ?_; intro g2 cap3 w2 hown2 hgrow hat hltg)
      have HO : Hid (OwnR w2 b0 g2 (k + 1) cap3 (Gm.dl k)) := OwnR.snoc (by rw [hxe]; exact hown2)
      have HM : Hid (MatI w2 w.heap.size b0 (some ⟨G, 0, none⟩) k cap A (fun _ => n) C (fun i j => ((Gm.dl i j : Nat) : Int))) := MatI.rowed _ hM hgr hgrow
      have hb' : Below w.heap.size w w2 := (hbel.alloc hsz _).grown (show World.grownBy _ w2 (some gr) from hgrow) (by simp; omega) (fun j hj => by cases hj; omega)
      clear hown2 hgrow hat hltg hown hM
      go_roundw
      case rel => exact ⟨k + 1, g2, cap3, by omega, by go_num, rfl, HO.out, HM.out, hb'⟩
      case measure => simp [intOf] <;> omega
     ·have hxe : Gm.dl k q = 0 := Gm.dl_ne e
      have hee : ((k : Int) == (q : Int)) = false := by simp; omega
      clear hx
      go_wp2_with (at_builtin; refine wpList_append_lies _ (by rfl) _ _ 45 (by rfl) b0 3 i0 (.int .i64 0) 1 8 Tryz.underlying45 hi hz0 hz1 hz2 rfl (by decide) (.slice (some ⟨gr, 0, none⟩) q capr) q _ (by rfl) (World.ownsRow.alloc hown _) ⟨wr.heap.size, 0, none⟩ 1 1 [.int .i64 0] (by rfl) (by rfl) (World.news_of_block (cs := #[.int .i64 0]) (t := 3) (fr := (0, 0)) (heap_alloc_new wr _)) (by simp [Value.oneCell']) (by omega) (by unfold maxLen; omega) (by omega) (by simp; omega) (wr.heap.size + 1) (by simp) ?_; intro g2 cap3 w2 hown2 hgrow hat hltg)
      have HO : Hid (OwnR w2 b0 g2 (q + 1) cap3 (Gm.dl k)) := OwnR.snoc (by rw [hxe]; exact hown2)
      have HM : Hid (MatI w2 w.heap.size b0 (some ⟨G, 0, none⟩) k cap A (fun _ => n) C (fun i j => ((Gm.dl i j : Nat) : Int))) := MatI.rowed _ hM hgr hgrow
      have hb' : Below w.heap.size w w2 := (hbel.alloc hsz _).grown (show World.grownBy _ w2 (some gr) from hgrow) (by simp; omega) (fun j hj => by cases hj; omega)
      clear hown2 hgrow hat hltg hown hM
      go_roundw
      case rel => exact ⟨q + 1, g2, cap3, by omega, by go_num, rfl, HO.out, HM.out, hb'⟩
      case measure => simp [intOf] <;> omega
    ·obtain rfl : q = n := by omega
     have hqi : ¬ (q : Int) < (q : Int) := by omega
     go_wp2_with (at_builtin; refine wpList_append_lies _ (by rfl) _ _ 146 (by rfl) w.heap.size 45 i1 (.slice none 0 0) 1 24 Tryz.underlying146 hj hy0 hy1 hy2 rfl (by decide) (.slice (some ⟨G, 0, none⟩) k cap) k _ (by rfl) (World.ownsRow.alloc hM.out _) ⟨wr.heap.size, 0, none⟩ 1 1 [.slice (some ⟨gr, 0, none⟩) q capr] (by rfl) (by rfl) (World.news_of_block (cs := #[.slice (some ⟨gr, 0, none⟩) q capr]) (t := 45) (fr := (0, 0)) (heap_alloc_new wr _)) (by simp [Value.oneCell']) (by omega) (by unfold maxLen; omega) (by omega) (by simp; omega) (wr.heap.size + 1) (by simp) ?_; intro g2 cap3 w2 hown2 hgrow hat hltg)
     obtain ⟨A', C', hP⟩ := MatI.pushed _ hM hsz0 hown hgrow hown2
     have HP : Hid (MatI w2 w.heap.size w2.heap.size (some ⟨g2, 0, none⟩) (k + 1) cap3 A' (fun _ => q) C' (fun i j => ((Gm.dl i j : Nat) : Int))) := hP
     have hb' : Below w.heap.size w w2 := (hbel.alloc hsz _).grown (show World.grownBy _ w2 (some G) from hgrow) (by simp; omega) (fun j hj => by cases hj; exact hGl)
     clear hown2 hgrow hat hltg hown hM hP
     go_roundw
     case rel => exact ⟨k + 1, g2, cap3, A', C', by omega, by go_num, rfl, HP.out, hb'⟩
     case measure => simp [intOf] <;> omega
  ·obtain rfl : k = n := by omega
   have KM : Hid _ := hM
   clear hM
   go_wp2
   go_ret
   exact ⟨G, cap, A, C, rfl, KM.out, hbel⟩
section
variable {k : IntKind} {T TT : Nat} {w w' : World} {B E : Nat} {n cap : Nat} {A : Nat → Option Addr} {L C : Nat → Nat} {Z : Nat → Nat → Int}
end
end Go.Proofs.YtaenoiffamgcfaaGreatDoor
namespace Go.Proofs.YtaenoiffamgcfaaGreatDoor
def OwnB (w : World) (B g n cap : Nat) (f : Nat → Nat) : Prop := w.ownsRow B 5 1 (.slice (some ⟨g, 0, none⟩) n cap) n ((eI f n).map (Value.int .u8))
theorem OwnB.lt {w : World} {B g n cap : Nat} {f : Nat → Nat} (h : OwnB w B g n cap f) : B ≤ g ∧ g < w.heap.size := World.ownsRow.lt h g rfl
theorem OwnB.cell {w : World} {B g n cap i : Nat} {f : Nat → Nat} (h : OwnB w B g n cap f) (hi : i < n) : w.cell? ⟨g, i, none⟩ = some (.int .u8 ((f i : Nat) : Int)) := by
 rw [World.ownsRow.cellAt h i (by omega)]
 simp [eI, hi]
def rs (R : Nat → Nat) (T : Nat → Nat → Nat) (i p : Nat) : Nat := Gm.sm (fun t => Gp.m (R t) (T t p)) i
theorem rs_lt (R : Nat → Nat) (T : Nat → Nat → Nat) (i p : Nat) : rs R T i p < 256 := Gm.sm_lt (fun _ => Gp.m_lt _ _) _
def lenV : Value → Nat
 | .slice _ n _ => n
 | _ => 0
theorem side_inB (n : Int) : inB n 1 16 = side n := rfl
theorem invM {x : Nat} (h : x < 256) (h0 : x ≠ 0) : invI (x : Int) = ((Gf.inv x : Nat) : Int) := by
 unfold invI
 rw [if_pos (by omega)]
 simp
theorem sSpread_any (k n : Int) (w : World) : Calls Tryz.prog 108 #[.int .i64 k, .int .i64 n] w fun e w' => ∃ v, e = .returned (.tuple #[v, .bool (sprOk k n)]) ∧ ResM w w' v (sprR k n) k.toNat (Gm.sprd k.toNat) ∧ Below w.heap.size w w' := by
 obtain ⟨i0, hi, hz0, hz1, hz2⟩ := info_parts Tryz.infoInt
 obtain ⟨i1, hj, hy0, hy1, hy2⟩ := info_parts Tryz.infoInts
 have hin := side_inB n
 by_cases h1 : side n = true
 case neg =>
  have h1' : side n = false := by simpa using h1
  have hok : sprOk k n = false := by unfold sprOk; simp [h1']
  have hN : sprR k n = 0 := by unfold sprR; rw [if_neg (by rw [hok]; simp)]
  rw [hN, hok]
  rw [h1'] at hin
  clear hok hN hi hz0 hz1 hz2 hj hy0 hy1 hy2
  go_enter Tryz.func108, Tryz.ntmps108
  go_wp2_with (go_at_call 63; refine (sIn_any _ _ _ _).mono ?_; rintro e w' ⟨rfl, hw⟩; obtain rfl := hw.symm)
  go_ret2
  exact ⟨_, rfl, resLit0 _ _ (Nat.le_refl _) _ _, (Below.refl _ _).alloc (Nat.le_refl _) _⟩
 rw [h1] at hin
 by_cases h2 : 1 ≤ k ∧ k ≤ n
 case neg =>
  have hok : sprOk k n = false := by unfold sprOk; simp [h2]
  have hN : sprR k n = 0 := by unfold sprR; rw [if_neg (by rw [hok]; simp)]
  have hin2 : inB k 1 n = false := by unfold inB; simpa using h2
  rw [hN, hok]
  clear hok hN h2 hi hz0 hz1 hz2 hj hy0 hy1 hy2
  go_enter Tryz.func108, Tryz.ntmps108
  go_wp2_with (go_at_call 63; refine (sIn_any _ _ _ _).mono ?_; rintro e w' ⟨rfl, hw⟩; obtain rfl := hw.symm)
  go_ret2
  exact ⟨_, rfl, resLit0 _ _ (Nat.le_refl _) _ _, (Below.refl _ _).alloc (Nat.le_refl _) _⟩
 have hr : 1 ≤ n ∧ n ≤ 16 := by simpa [side] using h1
 have hin2 : inB k 1 n = true := by unfold inB; simpa using h2
 have hok : sprOk k n = true := by unfold sprOk; rw [h1]; simp; omega
 obtain ⟨N, rfl⟩ : ∃ N : Nat, n = (N : Int) := ⟨n.toNat, by omega⟩
 obtain ⟨K, rfl⟩ : ∃ K : Nat, k = (K : Int) := ⟨k.toNat, by omega⟩
 have hN : sprR (K : Int) (N : Int) = N := by unfold sprR; rw [if_pos hok]; simp
 rw [hN, hok, Int.toNat_natCast]
 have hK1 : 1 ≤ K := by omega
 have hKN : K ≤ N := by omega
 have hN16 : N ≤ 16 := by omega
 clear hN hok hr h1 h2
 have KU : Hid _ := sUnit0_any K w (by omega)
 go_enter Tryz.func108, Tryz.ntmps108
 go_wp2_with (go_at_call 63; refine (sIn_any _ _ _ _).mono ?_; rintro e w' ⟨rfl, hw⟩; obtain rfl := hw.symm)
 refine Calls.mono KU.out ?_
 rintro e w1 ⟨G1, cap1, A1, C1, rfl, hM1, hb1⟩
 have H0 : Hid (MatI w1 w.heap.size w1.heap.size (some ⟨G1, 0, none⟩) K cap1 A1 (fun _ => K) C1 (fun i j => ((Gm.sprd K i j : Nat) : Int))) := hM1.congr (fun i hi => ⟨rfl, rfl, rfl, fun j _ => by unfold Gm.sprd; rw [if_pos hi]⟩)
 clear hM1 KU hin hin2
 go_wp2
 go_loopw [6, 7] (fun v i wr => ∃ k G cap A C, K ≤ k ∧ k ≤ N ∧ i = .int .i64 ((k : Nat) : Int) ∧ v = .slice (some ⟨G, 0, none⟩) k cap ∧ MatI wr w.heap.size wr.heap.size (some ⟨G, 0, none⟩) k cap A (fun _ => K) C (fun i j => ((Gm.sprd K i j : Nat) : Int)) ∧ Below w.heap.size w wr) (fun _ i _ => N - (intOf i).toNat)
 case atStart => exact ⟨K, G1, cap1, A1, C1, Nat.le_refl _, hKN, rfl, rfl, H0.out, hb1⟩
 case round =>
  obtain ⟨k, G, cap, A, C, hk0, hk, rfl, rfl, hM, hbel⟩ := hrel
  clear H0
  by_cases hlt : k < N
  ·have hki : (k : Int) < (N : Int) := by omega
   have hsz0 := hbel.size
   have KR : Hid (OwnR (wr.alloc (.cells #[] 3)) wr.heap.size wr.heap.size 0 0 (Gm.sprd K k)) := lit0 wr (Gm.sprd K k)
   have KM : Hid (MatI (wr.alloc (.cells #[] 3)) w.heap.size wr.heap.size (some ⟨G, 0, none⟩) k cap A (fun _ => K) C (fun i j => ((Gm.sprd K i j : Nat) : Int))) := hM.below ((Below.refl _ _).alloc (Nat.le_refl _) _)
   have KB : Hid (Below w.heap.size w (wr.alloc (.cells #[] 3))) := hbel.alloc hsz0 _
   have hGl := hM.olt.1
   clear hM hbel
   obtain ⟨b0, hb0⟩ : ∃ b0, wr.heap.size = b0 := ⟨_, rfl⟩
   rw [hb0] at KR KM hsz0
   go_wp2
   clear hb0
   go_loopw [8, 9] (fun v i wr => ∃ q gr capr, q ≤ K ∧ i = .int .i64 ((q : Nat) : Int) ∧ v = .slice (some ⟨gr, 0, none⟩) q capr ∧ OwnR wr b0 gr q capr (Gm.sprd K k) ∧ MatI wr w.heap.size b0 (some ⟨G, 0, none⟩) k cap A (fun _ => K) C (fun i j => ((Gm.sprd K i j : Nat) : Int)) ∧ Below w.heap.size w wr) (fun _ i _ => K - (intOf i).toNat)
   case atStart => exact ⟨0, _, _, Nat.zero_le _, rfl, rfl, KR.out, KM.out, KB.out⟩
   case round =>
    obtain ⟨q, gr, capr, hq, rfl, rfl, hown, hM, hbel⟩ := hrel
    clear KR KM KB
    have hgr := hown.lt.1
    have hsz := hbel.size
    have hglt := hown.lt.2
    by_cases hqn : q < K
    ·have hqi : (q : Int) < (K : Int) := by omega
     have hxr := xor_i64 k q (by omega) (by omega)
     have hx0 : k ^^^ q ≠ 0 := fun e => by have := Gp.xor_eq e; omega
     have hxl : k ^^^ q < 256 := Gf.xor_lt (by omega) (by omega)
     have HV : Hid (Gm.sprd K k q = Gf.inv (k ^^^ q)) := by show _ = _; unfold Gm.sprd; rw [if_neg (by omega)]
     have hiv := invM hxl hx0
     have hS := fun w => sInv_any ((k ^^^ q : Nat) : Int) w
     rw [hiv] at hS
     generalize Gf.inv (k ^^^ q) = V at HV hS
     clear hiv hx0
     go_wp2_with (first | (go_at_call 129; refine (hS _).mono ?_; rintro e w' ⟨rfl, hw⟩; obtain rfl := hw.symm) | (at_builtin; refine wpList_append_lies _ (by rfl) _ _ 45 (by rfl) b0 3 i0 (.int .i64 0) 1 8 Tryz.underlying45 hi hz0 hz1 hz2 rfl (by decide) (.slice (some ⟨gr, 0, none⟩) q capr) q _ (by rfl) (World.ownsRow.alloc hown _) ⟨wr.heap.size, 0, none⟩ 1 1 [.int .i64 (V : Int)] (by rfl) (by rfl) (World.news_of_block (cs := #[.int .i64 (V : Int)]) (t := 3) (fr := (0, 0)) (heap_alloc_new wr _)) (by simp [Value.oneCell']) (by omega) (by unfold maxLen; omega) (by omega) (by simp; omega) (wr.heap.size + 1) (by simp) ?_; intro g2 cap3 w2 hown2 hgrow hat hltg))
     have HO : Hid (OwnR w2 b0 g2 (q + 1) cap3 (Gm.sprd K k)) := OwnR.snoc (by rw [HV.out]; exact hown2)
     have HM : Hid (MatI w2 w.heap.size b0 (some ⟨G, 0, none⟩) k cap A (fun _ => K) C (fun i j => ((Gm.sprd K i j : Nat) : Int))) := MatI.rowed _ hM hgr hgrow
     have hb' : Below w.heap.size w w2 := (hbel.alloc hsz _).grown (show World.grownBy _ w2 (some gr) from hgrow) (by simp; omega) (fun j hj => by cases hj; omega)
     clear hown2 hgrow hat hltg hown hM
     go_roundw
     case rel => exact ⟨q + 1, g2, cap3, by omega, by go_num, rfl, HO.out, HM.out, hb'⟩
     case measure => simp [intOf] <;> omega
    ·obtain rfl : K = q := by omega
     have hqi : ¬ (K : Int) < (K : Int) := by omega
     go_wp2_with (at_builtin; refine wpList_append_lies _ (by rfl) _ _ 146 (by rfl) w.heap.size 45 i1 (.slice none 0 0) 1 24 Tryz.underlying146 hj hy0 hy1 hy2 rfl (by decide) (.slice (some ⟨G, 0, none⟩) k cap) k _ (by rfl) (World.ownsRow.alloc hM.out _) ⟨wr.heap.size, 0, none⟩ 1 1 [.slice (some ⟨gr, 0, none⟩) K capr] (by rfl) (by rfl) (World.news_of_block (cs := #[.slice (some ⟨gr, 0, none⟩) K capr]) (t := 45) (fr := (0, 0)) (heap_alloc_new wr _)) (by simp [Value.oneCell']) (by omega) (by unfold maxLen; omega) (by omega) (by simp; omega) (wr.heap.size + 1) (by simp) ?_; intro g2 cap3 w2 hown2 hgrow hat hltg)
     obtain ⟨A', C', hP⟩ := MatI.pushed _ hM hsz0 hown hgrow hown2
     have HP : Hid (MatI w2 w.heap.size w2.heap.size (some ⟨g2, 0, none⟩) (k + 1) cap3 A' (fun _ => K) C' (fun i j => ((Gm.sprd K i j : Nat) : Int))) := hP
     have hb' : Below w.heap.size w w2 := (hbel.alloc hsz _).grown (show World.grownBy _ w2 (some G) from hgrow) (by simp; omega) (fun j hj => by cases hj; exact hGl)
     clear hown2 hgrow hat hltg hown hM hP
     go_roundw
     case rel => exact ⟨k + 1, g2, cap3, A', C', by omega, by omega, by go_num, rfl, HP.out, hb'⟩
     case measure => simp [intOf] <;> omega
  ·obtain rfl : k = N := by omega
   have KM : Hid _ := hM
   clear hM
   go_wp2
   go_ret2
   exact ⟨_, rfl, ResM.mk KM.out (Nat.le_refl _), hbel⟩
theorem MatAt.rowE {w : World} {a : Option Addr} {r n : Nat} {F : Nat → Nat → Nat} (h : MatAt w a r (fun _ => n) (fun i j => ((F i j : Nat) : Int))) {i : Nat} (hi : i < r) : ∃ b off ai ci, a = some ⟨b, off, none⟩ ∧ w.cell? ⟨b, off + i, none⟩ = some (.slice ai n ci) ∧ IntsAt w ai n (eI (F i) n) := h i hi
def encOk (s : ByteArray) (k n : Int) : Bool := decide (s.size ≤ 2000) && sprOk k n
def encR (s : ByteArray) (k n : Int) : Nat := if encOk s k n = true then n.toNat else 0
def encS (s : ByteArray) (k : Nat) : Nat → ByteArray := bod k (Gm.sprd k) (enc s k) (blen s.size k)
theorem sprOk_parts {k n : Int} (h : sprOk k n = true) : 1 ≤ k ∧ k ≤ n ∧ n ≤ 16 := by
 have : (1 ≤ n ∧ n ≤ 16) ∧ 1 ≤ k ∧ k ≤ n := by simpa [sprOk, side] using h
 omega
theorem encS_size (s : ByteArray) (k i : Nat) : (encS s k i).size = blen s.size k := txt_size _ _
theorem sprOk_of {k n : Nat} (hk : 1 ≤ k) (hkn : k ≤ n) (hn : n ≤ 16) : sprOk (k : Int) (n : Int) = true := by unfold sprOk side; simp; omega
end Go.Proofs.YtaenoiffamgcfaaGreatDoor
