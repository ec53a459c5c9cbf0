/- Which nodes that are no liars are done with a root (NetDone), in the model. Conditions: lists of at most 2^20. -/
import Derived.Test.YtjhbjfplgmcbpaaI39
import Derived.Test.YtjhbjfplgmcbpaaI37
namespace Go.Proofs.Ytjhbjfplgmcbpaa
set_option maxRecDepth 2000
open Go.ChangeShapes Go.WideShapes Go.ChangeAt Go.RowKit

/-- What stands when k nodes are looked at. -/
structure DnS (w : World) (A : Nat) (f : Int) (a : Option Addr) (n c : Nat) (l : Option Addr) (zl d : Nat) (v3 : Value) (L : List Int) (gg len cc : Nat) (wr : World) : Prop where
  ro : wr.ownsRow (A + 1) 3 1 (.slice (some ⟨gg, 0, none⟩) len cc) len (L.map (Value.int .i64))
  ra : Row wr A 31 #[.int .i64 f, .slice a n c, .slice l zl d, v3]
  ln : L.length = len
  bw : Below w.heap.size w wr
  wA : w.heap.size ≤ A
section
variable {w wr w' : World} {A : Nat} {f : Int} {a : Option Addr} {n c : Nat} {l : Option Addr} {zl d : Nat} {v3 : Value} {L : List Int} {gg len cc : Nat}
theorem DnS.below (h : DnS w A f a n c l zl d v3 L gg len cc wr) (hb : Below wr.heap.size wr w') : DnS w A f a n c l zl d v3 L gg len cc w' := ⟨ownsRow_below h.ro hb, h.ra.below hb h.ra.lt, h.ln, below2 h.bw hb, h.wA⟩
theorem DnS.grow {g3 c3 : Nat} {x : Int} (h : DnS w A f a n c l zl d v3 L gg len cc wr) (ho : w'.ownsRow (A + 1) 3 1 (.slice (some ⟨g3, 0, none⟩) (len + 1) c3) (len + 1) (L.map (Value.int .i64) ++ [.int .i64 x])) (hg : wr.grownBy w' (some gg)) : DnS w A f a n c l zl d v3 (L ++ [x]) g3 (len + 1) c3 w' := by
  have lg := (World.ownsRow.lt h.ro gg rfl).1
  have hA := h.wA
  exact ⟨by rw [List.map_append]; exact ho, (hg.block A h.ra.lt (fun e => by cases e; omega)).trans h.ra, by rw [List.length_append, h.ln]; rfl, h.bw.grown hg h.bw.size (fun k e => by cases e; omega), h.wA⟩
end
end Go.Proofs.Ytjhbjfplgmcbpaa
/- What the count of a net tells of it, for the laws over nets. Lemmas. -/
namespace Go.Proofs.Ytjhbjfplgmcbpaa
set_option maxRecDepth 2000
open Go.ChangeShapes Go.WideShapes Go.ChangeAt Go.RowKit

theorem tot_mul {g h : Nat → Nat} {c : Nat} (hg : ∀ i, g i ≤ c + 10 * h i) (n : Nat) : tot g n ≤ c * n + 10 * tot h n := by
  induction n with
  | zero => exact Nat.zero_le _
  | succ n ih =>
    show tot g n + g n ≤ c * (n + 1) + 10 * (tot h n + h n)
    have := hg n
    rw [Nat.mul_succ]
    omega
theorem wkN_le (d : Nd) : wkN d ≤ 2 + 10 * wtN d := by
  have h1 := tot_mul (g := fun i => wkS (d.S i)) (h := fun i => wtS (d.S i)) (c := 10) (fun i => by unfold wkS wtS wtP; omega) d.n
  unfold wkN wtN wtL
  omega
theorem ofy_wt (k : Nat) (Y : Nat → Sy) (m : Nat) : ofy k Y m ≤ k + 9 * m + tot (fun i => wtY (Y i)) m := by
  induction m with
  | zero => simp [ofy, tot]
  | succ m ih =>
    show ofy k Y m + 9 + (Y m).p.m ≤ k + 9 * (m + 1) + (tot (fun i => wtY (Y i)) m + wtY (Y m))
    have : (Y m).p.m ≤ wtY (Y m) := by unfold wtY wtP; omega
    omega
theorem wtT_little {n : Nat} {N : Nat → Nd} {zs : List Int} {m : Nat} {Y : Nat → Sy} (h : wtT n N zs m Y ≤ 1048576) : (∀ i, i < n → NdQ (N i)) ∧ NtW n N zs m Y := by
  unfold wtT wtNs wtYs at h
  have hw : ∀ i, i < n → wtL (N i).n (N i).S ≤ 1048576 := fun i hi => by show wtN (N i) ≤ 1048576; have : wtN (N i) ≤ tot (fun i => wtN (N i)) n := tot_ge2 (g := fun i => wtN (N i)) hi; omega
  have hy : ∀ i, i < m → wtY (Y i) ≤ 1048576 := fun i hi => by have : wtY (Y i) ≤ tot (fun i => wtY (Y i)) m := tot_ge2 (g := fun i => wtY (Y i)) hi; omega
  refine ⟨fun i hi => ?_, by omega, fun i hi => ?_, by omega, by omega, fun i hi => ?_, ?_⟩
  · obtain ⟨h1, h2, h3, _⟩ := wtL_little (hw i hi)
    exact ⟨h1, h3, h2⟩
  · obtain ⟨h1, h2, _, _⟩ := wtL_little (hw i hi)
    exact ⟨h1, h2⟩
  · have := hy i hi
    unfold wtY wtP at this
    omega
  · have h1 := tot_mul (g := fun i => wkN (N i)) (h := fun i => wtN (N i)) (c := 2) (fun i => wkN_le (N i)) n
    have h2 := ofy_wt (mq2 n N zs) Y m
    unfold mq3
    unfold mq2 mq1 at h2 ⊢
    omega
theorem Try.infoNtL2 : (Try.prog.info? 26).map (·.size) = some 4 := by kernel_rfl
theorem Trn.turned {w w' : World} {F : Nat → Prop} {b e : Nat} (h : Trn w w' F) (hF : ∀ g, F g → rng b e g) : Trn w w' (rng b e) := h.mono hF
end Go.Proofs.Ytjhbjfplgmcbpaa
