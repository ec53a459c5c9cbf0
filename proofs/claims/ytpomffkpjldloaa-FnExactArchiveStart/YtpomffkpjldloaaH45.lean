/- A net's start, in the program and in the model, told in one way; what stands in memory while its law is gone through. Conditions: lists of at most 2^20. -/
import Derived.Test.YtpomffkpjldloaaH44
import Derived.Test.YtpomffkpjldloaaH37
namespace Go.Proofs.Ytpomffkpjldloaa
set_option maxRecDepth 2000
open Go.ChangeShapes Go.WideShapes Go.ChangeAt Go.RowKit

noncomputable def nsM (f : Int) (zs : List Int) : Nat := if nsB f zs = true then (3 * f + 1).toNat else 0
noncomputable def nsZ (f : Int) (zs : List Int) : List Int := if nsB f zs = true then zs else []
noncomputable def nsF (f : Int) (zs : List Int) : Int := if nsB f zs = true then f else 0
theorem nsB_f {f : Int} {zs : List Int} (h : nsB f zs = true) : 1 ≤ f ∧ f ≤ 3 := by
  unfold nsB fB at h
  rw [Bool.and_eq_true] at h
  exact of_decide_eq_true h.1
theorem nsM_le (f : Int) (zs : List Int) : nsM f zs ≤ 10 := by
  unfold nsM
  split
  · rename_i h
    have := nsB_f h
    omega
  · omega
theorem nsZ_le (f : Int) (zs : List Int) : (nsZ f zs).length ≤ 3 := by
  unfold nsZ
  split
  · rename_i h
    have h1 := nsB_f h
    unfold nsB lsB at h
    rw [Bool.and_eq_true, Bool.and_eq_true] at h
    have := of_decide_eq_true h.2.1
    omega
  · simp
theorem netStart_any (f : Int) (a : Option Addr) (cap : Nat) (zs : List Int) (w : World) (h : IntsAt w a zs.length zs) (hn : zs.length ≤ 1048576) :
    Calls Try.prog 13 #[.int .i64 f, .slice a zs.length cap] w fun e w' => ∃ a1 c1 a2 c2 a3 c3 F1 F2 F3, e = .returned (.tuple #[ntV (nsF f zs) (.slice a1 (nsM f zs) c1) (.slice a2 (nsZ f zs).length c2) (.slice a3 0 c3), .bool (nsB f zs)]) ∧ NtO w' w.heap.size (nsM f zs) (nd0 f) (nsZ f zs) 0 (fun _ => syO) (.slice a1 (nsM f zs) c1) (.slice a2 (nsZ f zs).length c2) (.slice a3 0 c3) F1 F2 F3 ∧ Below w.heap.size w w' := by
  cases hb : nsB f zs with
  | false =>
    have e1 : nsM f zs = 0 := by unfold nsM; rw [hb]; rfl
    have e2 : nsZ f zs = [] := by unfold nsZ; rw [hb]; rfl
    have e3 : nsF f zs = 0 := by unfold nsF; rw [hb]; rfl
    rw [e1, e2, e3]
    refine (netStart_no f a cap zs w h hn hb).mono ?_
    rintro e w' ⟨rfl, hbw⟩
    exact ⟨none, 0, none, 0, none, 0, fun _ => False, fun _ => False, fun _ => False, rfl, ⟨Ow.nil _ _ _ _ _ _, Ow.nil _ _ _ _ _ _, Ow.nil _ _ _ _ _ _, fun _ h => h.elim, fun _ h => h.elim, fun _ h => h.elim⟩, hbw⟩
  | true =>
    have hf := nsB_f hb
    have e1 : nsM f zs = (3 * f + 1).toNat := by unfold nsM; rw [hb]; rfl
    have e2 : nsZ f zs = zs := by unfold nsZ; rw [hb]; rfl
    have e3 : nsF f zs = f := by unfold nsF; rw [hb]; rfl
    rw [e1, e2, e3]
    refine (netStart_yes f a cap zs (3 * f + 1).toNat w h hn hb (by omega)).mono ?_
    rintro e w' ⟨g1, a2, c2, g3, F1, F2, F3, rfl, ho, hbw⟩
    exact ⟨_, _, _, _, _, _, _, _, _, rfl, ho, hbw⟩
/-- The model's, and where what it answers lies. -/
theorem sNetStart_own (f : Int) (a : Option Addr) (cap : Nat) (zs : List Int) (w : World) (h : IntsAt w a zs.length zs) (hn : zs.length ≤ 1048576) :
    Calls Try.prog 12 #[.int .i64 f, .slice a zs.length cap] w fun e w' => ∃ a1 c1 a2 c2, e = .returned (.tuple #[ntV (nsF f zs) (.slice a1 (nsM f zs) c1) (.slice a2 (nsZ f zs).length c2) (.slice none 0 0), .bool (nsB f zs)]) ∧ Ow w' w.heap.size (ndsD (nsM f zs) (nd0 f)) (.slice a1 (nsM f zs) c1) (fun _ => True) ∧ IntsAt w' a2 (nsZ f zs).length (nsZ f zs) ∧ (∀ x, a2 = some x → w.heap.size ≤ x.block) ∧ Below w.heap.size w w' := by
  cases hb : nsB f zs with
  | false =>
    have e1 : nsM f zs = 0 := by unfold nsM; rw [hb]; rfl
    have e2 : nsZ f zs = [] := by unfold nsZ; rw [hb]; rfl
    have e3 : nsF f zs = 0 := by unfold nsF; rw [hb]; rfl
    rw [e1, e2, e3]
    refine (sNetStart_no f a cap zs w h hn hb).mono ?_
    rintro e w' ⟨rfl, hbw⟩
    exact ⟨none, 0, none, 0, rfl, Ow.nil _ _ _ _ _ _, ⟨rfl, fun i hi => absurd hi (Nat.not_lt_zero _)⟩, (fun x e => by cases e), hbw⟩
  | true =>
    have hf := nsB_f hb
    have e1 : nsM f zs = (3 * f + 1).toNat := by unfold nsM; rw [hb]; rfl
    have e2 : nsZ f zs = zs := by unfold nsZ; rw [hb]; rfl
    have e3 : nsF f zs = f := by unfold nsF; rw [hb]; rfl
    rw [e1, e2, e3]
    refine (sNetStart_yes f a cap zs (3 * f + 1).toNat w h hn hb (by omega)).mono ?_
    rintro e w' ⟨v, g2, c2, rfl, ho, hi, hg, hbw⟩
    obtain ⟨a1, c1, _, _, rfl, _⟩ := id ho
    exact ⟨a1, c1, _, _, rfl, ho, hi, (fun x e => by cases e; exact hg), hbw⟩
theorem ns_k (f : Int) (zs : List Int) : NtK (nsM f zs) (nd0 f) (nsZ f zs) 0 (fun _ => syO) := by
  have h1 := nsM_le f zs
  have h2 := nsZ_le f zs
  have ht : ∀ m, tot (fun i => wkN (nd0 f i)) m = 2 * m := fun m => by
    induction m with
    | zero => rfl
    | succ m ih =>
      show tot (fun i => wkN (nd0 f i)) m + wkN (nd0 f m) = _
      rw [ih]
      show 2 * m + wkN (nd0 f m) = 2 * (m + 1)
      have : wkN (nd0 f m) = 2 := by simp [wkN, nd0, tot]
      omega
  refine ⟨by omega, fun i _ => ⟨Nat.zero_le _, fun j hj => absurd hj (Nat.not_lt_zero _)⟩, by omega, by omega, fun i hi => absurd hi (Nat.not_lt_zero _), ?_⟩
  show mq1 (nsM f zs) (nd0 f) + (nsZ f zs).length ≤ _
  unfold mq1
  rw [ht]
  omega
/-- What stands while the law is gone through: the answer's block, and its lists. -/
structure NsF (w4 : World) (bg G : Nat) (fx : Int) (m : Nat) (N : Nat → Nd) (zs : List Int) (Y : Nat → Sy) (b1 b2 b3 : Option Addr) (d1 l2 d2 d3 : Nat) (W : World) : Prop where
  bw : Below w4.heap.size w4 W
  rg : Row W G 26 #[.int .i64 fx, .slice b1 m d1, .slice b2 l2 d2, .slice b3 0 d3]
  og : ∃ F1 F2 F3, NtO W bg m N zs 0 Y (.slice b1 m d1) (.slice b2 l2 d2) (.slice b3 0 d3) F1 F2 F3 ∧ ∀ g, F1 g ∨ F2 g ∨ F3 g → bg ≤ g ∧ g < G
theorem NtO.below {w w' : World} {B n m : Nat} {N : Nat → Nd} {zs : List Int} {Y : Nat → Sy} {v1 v2 v3 : Value} {F1 F2 F3 : Nat → Prop} (h : NtO w B n N zs m Y v1 v2 v3 F1 F2 F3) (hb : Below w.heap.size w w') : NtO w' B n N zs m Y v1 v2 v3 F1 F2 F3 := ⟨h.n.below hb, h.z.below hb, h.y.below hb, h.d1, h.d2, h.d3⟩
theorem NtO.cut {w : World} {B n m : Nat} {N : Nat → Nd} {zs : List Int} {Y : Nat → Sy} {v1 v2 v3 : Value} {F1 F2 F3 : Nat → Prop} (h : NtO w B n N zs m Y v1 v2 v3 F1 F2 F3) : ∃ G1 G2 G3, NtO w B n N zs m Y v1 v2 v3 G1 G2 G3 ∧ ∀ g, G1 g ∨ G2 g ∨ G3 g → B ≤ g ∧ g < w.heap.size :=
  ⟨_, _, _, ⟨h.n.cut, h.z.cut, h.y.cut, fun g a b => h.d1 g a.1 b.1, fun g a b => h.d2 g a.1 b.1, fun g a b => h.d3 g a.1 b.1⟩, fun g hg => by rcases hg with hg | hg | hg <;> exact hg.2⟩
section
variable {w4 W W' : World} {bg G : Nat} {fx : Int} {m : Nat} {N N' : Nat → Nd} {zs zs' : List Int} {Y Y' : Nat → Sy} {b1 b2 b3 : Option Addr} {d1 l2 d2 d3 : Nat}
theorem NsF.below (h : NsF w4 bg G fx m N zs Y b1 b2 b3 d1 l2 d2 d3 W) (hb : Below W.heap.size W W') : NsF w4 bg G fx m N zs Y b1 b2 b3 d1 l2 d2 d3 W' := by
  obtain ⟨F1, F2, F3, o, hd⟩ := h.og
  exact ⟨below2 h.bw hb, h.rg.below hb h.rg.lt, F1, F2, F3, o.below hb, hd⟩
theorem NsF.turnX {b e : Nat} (h : NsF w4 bg G fx m N zs Y b1 b2 b3 d1 l2 d2 d3 W) (ht : Turned W W' b e) (hb : w4.heap.size ≤ b) (he : e ≤ bg) (hG : bg ≤ G) : NsF w4 bg G fx m N zs Y b1 b2 b3 d1 l2 d2 d3 W' := by
  obtain ⟨F1, F2, F3, o, hd⟩ := h.og
  obtain ⟨r, hg, hr⟩ := ht
  have ht : Trn W W' (rng b e) := ⟨hg.os, hg.tape, hg.output, hg.size, fun j hj hn => hg.block j hj (fun e' => hn (hr j e'.symm))⟩
  have hn : ∀ g, F1 g ∨ F2 g ∨ F3 g → ¬ rng b e g := fun g hg' k => by have := hd g hg'; have := k.2; omega
  refine ⟨?_, (ht.block G h.rg.lt (fun k => by have := k.2; omega)).trans h.rg, F1, F2, F3, ⟨o.n.turned ht (fun g hg' => hn g (.inl hg')), o.z.turned ht (fun g hg' => hn g (.inr (.inl hg'))), o.y.turned ht (fun g hg' => hn g (.inr (.inr hg'))), o.d1, o.d2, o.d3⟩, hd⟩
  exact h.bw.trans (ht.below (fun g k => by have := k.1; omega) h.bw.size)
theorem NsF.turnG {F1 F2 F3 : Nat → Prop} (h : NsF w4 bg G fx m N zs Y b1 b2 b3 d1 l2 d2 d3 W) (ht : Trn W W' (fun x => F1 x ∨ F2 x ∨ F3 x)) (hF : ∀ g, F1 g ∨ F2 g ∨ F3 g → bg ≤ g ∧ g < G) (o : NtO W' bg m N' zs' 0 Y' (.slice b1 m d1) (.slice b2 l2 d2) (.slice b3 0 d3) F1 F2 F3) (hb : w4.heap.size ≤ bg) : NsF w4 bg G fx m N' zs' Y' b1 b2 b3 d1 l2 d2 d3 W' :=
  ⟨h.bw.trans (ht.below (fun g k => by have := hF g k; omega) h.bw.size), (ht.block G h.rg.lt (fun k => by have := hF G k; omega)).trans h.rg, F1, F2, F3, o, hF⟩
end
end Go.Proofs.Ytpomffkpjldloaa
