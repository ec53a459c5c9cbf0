/- Lists of sayings: counted and copied. Conditions: lists of at most 2^20. Written by a program. -/
import Derived.Test.YtggmcgcmpgofcaaI23
import Derived.Test.YtggmcgcmpgofcaaI25
namespace Go.Proofs.Ytggmcgcmpgofcaa
set_option maxRecDepth 2000
open Go.ChangeShapes Go.WideShapes Go.ChangeAt Go.RowKit

end Go.Proofs.Ytggmcgcmpgofcaa
/- Nets: opened, counted, copied and compared. Conditions: lists of at most 2^20. Written by a program. -/
namespace Go.Proofs.Ytggmcgcmpgofcaa
set_option maxRecDepth 2000
open Go.ChangeShapes Go.WideShapes Go.ChangeAt Go.RowKit

abbrev ntV (f : Int) (v1 v2 v3 : Value) : Value := .agg #[.int .i64 f, v1, v2, v3]
section
variable {H : Type} {enc : TypeId × Value → H} {w : World} {base : Nat} {spare : Nat → Bool} {held : Bool}
end
set_option maxHeartbeats 2000000 in
theorem eqNt_same (f : Int) (a b : Option Addr) (n ca cb : Nat) (l k : Option Addr) (zs : List Int) (cl ck : Nat) (e q : Option Addr) (m ce cq : Nat) (N : Nat → Nd) (Y : Nat → Sy) (w : World) (h1 : Rd w (ndsD n N) (.slice a n ca)) (h2 : Rd w (ndsD n N) (.slice b n cb)) (h3 : IntsAt w l zs.length zs) (h4 : IntsAt w k zs.length zs) (h5 : Rd w (sysD m Y) (.slice e m ce)) (h6 : Rd w (sysD m Y) (.slice q m cq)) (hn : n ≤ 1048576) (hN : ∀ i, i < n → NdS (N i)) (hz : zs.length ≤ 1048576) (hm : m ≤ 1048576) (hY : ∀ i, i < m → (Y i).p.m ≤ 1048576) :
    Calls Try.prog 19 #[ntV f (.slice a n ca) (.slice l zs.length cl) (.slice e m ce), ntV f (.slice b n cb) (.slice k zs.length ck) (.slice q m cq)] w fun e w' => e = .returned (.bool true) ∧ Below w.heap.size w w' := by
  obtain ⟨A, HA⟩ : ∃ x, Hid (x = w.heap.size) := ⟨_, rfl⟩
  obtain ⟨D, HD⟩ : ∃ x, Hid (x = w.heap.size + 1) := ⟨_, rfl⟩
  obtain ⟨w0, HW0⟩ : ∃ x, Hid (x = (w.alloc (.cells #[.int .i64 f, .slice a n ca, .slice l zs.length cl, .slice e m ce] 36)).alloc (.cells #[.int .i64 f, .slice b n cb, .slice k zs.length ck, .slice q m cq] 36)) := ⟨_, rfl⟩
  have RA : Hid (Row w0 A 36 #[.int .i64 f, .slice a n ca, .slice l zs.length cl, .slice e m ce]) := by show Row _ _ _ _; rw [HW0.out, HA.out]; exact Row.alloc (Row.new w _ _) _
  have RD : Hid (Row w0 D 36 #[.int .i64 f, .slice b n cb, .slice k zs.length ck, .slice q m cq]) := by
    show Row _ _ _ _
    rw [HW0.out, HD.out]
    have := Row.new (w.alloc (.cells #[.int .i64 f, .slice a n ca, .slice l zs.length cl, .slice e m ce] 36)) #[.int .i64 f, .slice b n cb, .slice k zs.length ck, .slice q m cq] 36
    simpa using this
  have hb0 : Below w.heap.size w w0 := by rw [HW0.out]; exact ((Below.refl _ _).alloc (Nat.le_refl _) _).alloc (by simp) _
  have KB0 : Hid (Below w.heap.size w w0) := hb0
  have K1 : Hid _ := eqNds_same a b n ca cb N w0 (h1.below hb0) (h2.below hb0) hn hN
  have K2 : Hid (∀ W, Below w0.heap.size w0 W → Calls Try.prog 11 #[.slice l zs.length cl, .slice k zs.length ck] W _) := fun W hW => eqIntS_same l k zs.length cl ck zs W ((h3.below hb0).below hW) ((h4.below hb0).below hW) hz
  have K3 : Hid (∀ W, Below w0.heap.size w0 W → Calls Try.prog 42 #[.slice e m ce, .slice q m cq] W _) := fun W hW => eqSys_same e q m ce cq Y W ((h5.below hb0).below hW) ((h6.below hb0).below hW) hm hY
  have hff : (f != f) = false := by simp
  clear h1 h2 h3 h4 h5 h6 hb0 hN hY
  go_enter Try.func19, Try.ntmps19
  go_wp2_with fail
  rw [← HW0.out, ← HD.out, ← HA.out]
  refine Calls.mono K1.out ?_
  rintro e' w1 ⟨rfl, b1⟩
  have R1 := RA.out.below b1 RA.out.lt
  have S1 := RD.out.below b1 RD.out.lt
  have x2 := R1.cell 2
  have x3 := R1.cell 3
  have y2 := S1.cell 2
  have y3 := S1.cell 3
  simp at x2 x3 y2 y3
  have KB1 : Hid (Below w0.heap.size w0 w1) := b1
  clear b1 R1 S1
  go_wp2_with fail
  refine Calls.mono (K2.out _ KB1.out) ?_
  rintro e' w2 ⟨rfl, b2⟩
  replace x3 := (b2.cell (p := ⟨A, 3, none⟩) (block_lt_of_cell x3)).trans x3
  replace y3 := (b2.cell (p := ⟨D, 3, none⟩) (block_lt_of_cell y3)).trans y3
  have KB2 : Hid (Below w0.heap.size w0 w2) := below2 KB1.out b2
  clear b2 x2 y2 KB1
  go_wp2_with fail
  refine Calls.mono (K3.out _ KB2.out) ?_
  rintro e' w3 ⟨rfl, b3⟩
  go_wp2
  go_ret
  exact ⟨rfl, below2 KB0.out (below2 KB2.out b3)⟩
theorem Ow.apart {w : World} {B : Nat} {d : Dt} {v : Value} {F : Nat → Prop} (h : Ow w B d v F) {g : Nat} (o : Nat) (x : Value) (hn : ¬ F g) : Ow (w.setCell ⟨g, o, none⟩ x) B d v F :=
  h.turned (Trn.set w o x (F := fun y => y = g) rfl) (fun _ hy e => hn (e ▸ hy))
theorem Try.infoNt : (Try.prog.info? 36).map (·.size) = some 4 := by kernel_rfl
end Go.Proofs.Ytggmcgcmpgofcaa
