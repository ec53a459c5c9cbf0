import Derived.Test.YtaenoiffamgcfaaGreatDoorProg
import Derived.Deep.RegionHeld2
set_option maxHeartbeats 8000000
set_option maxRecDepth 2000
namespace Go.Proofs.YtaenoiffamgcfaaGreatDoor
def Deps (ops : Array Oper) (i : Nat) (L : Nat → Bool) : Prop := ∀ o, ops[i]? = some o → ∀ e ∈ o.after, Region.binds .any e = true → L e.on = true
def edgeB (ops : Array Oper) (i k : Nat) : Bool := ((ops[i]?).map fun o => o.after.toList.any fun e => Region.binds .any e && e.on == k).getD false
theorem Deps.dep {ops : Array Oper} {i : Nat} {L : Nat → Bool} (h : Deps ops i L) (k : Nat) (hb : edgeB ops i k = true) : L k = true := by
 unfold edgeB at hb
 cases ho : ops[i]? with
 | none => rw [ho] at hb; cases hb
 | some o =>
  rw [ho] at hb
  simp only [Option.map_some, Option.getD_some, List.any_eq_true, Bool.and_eq_true, beq_iff_eq] at hb
  obtain ⟨e, he, h1, h2⟩ := hb
  rw [← h2]
  exact h o ho e (Array.mem_toList_iff.1 he) h1
def backB (ops : Array Oper) : Bool := (List.range ops.size).all fun i => ((ops[i]?).map fun o => o.after.toList.all fun e => !Region.binds .any e || decide (e.on < i)).getD true
theorem ready_none {ops : Array Oper} (hb : backB ops = true) {listed : Array Bool} (hz : listed.size = ops.size) (h : Region.ready .any ops listed = []) : ∀ i, i < ops.size → listed.getD i false = true := by
 intro i
 induction i using Nat.strongRecOn with
 | _ i ih =>
  intro hi
  cases hl : listed.getD i false with
  | true => rfl
  | false =>
   exfalso
   have ho : ops[i]? = some ops[i] := Array.getElem?_eq_getElem hi
   have hm : i ∈ Region.ready .any ops listed := by
    refine mem_ready.2 ⟨?_, ops[i], ho, fun e he hbd => ?_⟩
    ·rw [Array.getD_eq_getD_getElem?, Array.getElem?_eq_getElem (by omega)] at hl ⊢
     simpa using hl
    ·have h1 := List.all_eq_true.1 hb i (List.mem_range.2 hi)
     rw [ho] at h1
     simp only [Option.map_some, Option.getD_some, List.all_eq_true] at h1
     have h2 := h1 e (Array.mem_toList_iff.2 he)
     rw [hbd, Bool.not_true, Bool.false_or, decide_eq_true_eq] at h2
     exact ih e.on h2 (by omega)
   rw [h] at hm
   cases hm
theorem set_is {listed : Array Bool} {i : Nat} (hi : i < listed.size) : (fun k => (listed.setIfInBounds i true).getD k false) = fun k => k == i || listed.getD k false := by
 funext k
 by_cases h : i = k
 ·subst h
  simp [Array.getD_eq_getD_getElem?, hi]
 ·rw [getD_set_ne false h]
  have : (k == i) = false := by simp; omega
  rw [this, Bool.false_or]
def leftC (listed : Array Bool) : Nat := listed.toList.countP (fun b => !b)
theorem count_set : ∀ (l : List Bool) (i : Nat), l[i]? = some false → (l.set i true).countP (fun b => !b) + 1 = l.countP (fun b => !b)
 | [], i, h => by simp at h
 | b :: l, 0, h => by
  simp at h
  subst h
  simp
 | b :: l, i + 1, h => by
  have ih := count_set l i (by simpa using h)
  rw [List.set_cons_succ, List.countP_cons, List.countP_cons]
  omega
theorem leftC_set {listed : Array Bool} {i : Nat} (hi : i < listed.size) (hf : listed.getD i false = false) : leftC (listed.setIfInBounds i true) + 1 = leftC listed := by
 unfold leftC
 rw [Array.toList_setIfInBounds]
 refine count_set _ _ ?_
 rw [Array.getD_eq_getD_getElem?, Array.getElem?_eq_getElem hi] at hf
 rw [List.getElem?_eq_getElem (by simpa using hi)]
 simpa using hf
theorem wpAny_inv {P : Program} {ops : Array Oper} {Q : Exit → Act → World → Prop} (hb : backB ops = true) (I : (Nat → Bool) → Act → World → Prop)
  (hstep : ∀ i, i < ops.size → ∀ L a w, L i = false → Deps ops i L → I L a w → wpOp P ops Q i (I fun k => k == i || L k) a w)
  (hend : ∀ L a w, (∀ i, i < ops.size → L i = true) → I L a w → Q .normal a w) :
  ∀ fuel (listed : Array Bool) a w, listed.size = ops.size → leftC listed ≤ fuel → I (fun k => listed.getD k false) a w → wpAny P .any ops Q fuel listed a w
 | 0, listed, a, w, hz, hf, hI => by
  have hr : Region.ready .any ops listed = [] := List.eq_nil_iff_forall_not_mem.2 fun i hi => by
   obtain ⟨h1, o, ho, _⟩ := mem_ready.1 hi
   have hlt : i < listed.size := by rw [hz]; exact (Array.getElem?_eq_some_iff.1 ho).1
   have h2 : listed.getD i false = false := by
    rw [Array.getD_eq_getD_getElem?, Array.getElem?_eq_getElem hlt] at h1 ⊢
    simpa using h1
   have := leftC_set hlt h2
   omega
  exact ⟨hr, hend _ a w (ready_none hb hz hr) hI⟩
 | fuel + 1, listed, a, w, hz, hf, hI => by
  refine ⟨fun hr => hend _ a w (ready_none hb hz hr) hI, fun i hi => ?_⟩
  obtain ⟨h1, o, ho, hd⟩ := mem_ready.1 hi
  have hlt : i < ops.size := (Array.getElem?_eq_some_iff.1 ho).1
  have h2 : listed.getD i false = false := by
   rw [Array.getD_eq_getD_getElem?, Array.getElem?_eq_getElem (by omega)] at h1 ⊢
   simpa using h1
  refine wpOp_mono (fun a' w' h => ?_) (hstep i hlt (fun k => listed.getD k false) a w h2 (fun o' ho' e he hbd => ?_) hI)
  ·refine wpAny_inv hb I hstep hend fuel _ a' w' (by simpa using hz) ?_ ?_
   ·have := leftC_set (listed := listed) (i := i) (by omega) h2
    omega
   ·rw [set_is (by omega)]
    exact h
  ·rw [ho] at ho'
   obtain rfl := Option.some.inj ho'
   exact hd e he hbd
theorem wp_region_inv {P : Program} {id : Nat} {ops : Array Oper} {Q : Exit → Act → World → Prop} {a : Act} {w : World} (hm : P.follows .mixedOrders = true) (hb : backB ops = true) (I : (Nat → Bool) → Act → World → Prop) (h0 : I (fun _ => false) a w.drew)
  (hstep : ∀ i, i < ops.size → ∀ L a w, L i = false → Deps ops i L → I L a w → wpOp P ops Q i (I fun k => k == i || L k) a w)
  (hend : ∀ L a w, (∀ i, i < ops.size → L i = true) → I L a w → Q .normal a w) : (Code.region id ops true).wp P Q a w := by
 refine wp_region_any hm (wpAny_inv hb I hstep hend ops.size _ a _ (by simp) ?_ ?_)
 ·unfold leftC
  refine Nat.le_trans (List.countP_le_length) (by simp)
 ·have : (fun k => (Array.replicate ops.size false).getD k false) = fun _ => false := by
   funext k
   rw [Array.getD_eq_getD_getElem?, Array.getElem?_replicate]
   split <;> rfl
  rw [this]
  exact h0
theorem wpOp_plain {P : Program} {ops : Array Oper} {Q : Exit → Act → World → Prop} {i : Nat} {o : Oper} {K' : Act → World → Prop} {a : Act} {w : World} (hi : ops[i]? = some o) (hg : ∀ t, Region.wanted o t = true) (h : ∀ K : Act → World → Prop, (∀ a w, K' a w → K a w) → o.wp P a w K Q) : wpOp P ops Q i K' a w := by
 unfold wpOp
 rw [hi]
 dsimp only
 rw [if_pos (hg _)]
 exact .inl (h K' fun _ _ h => h)
def cV (b : Bool) (v : Value) : Value := if b = true then v else undef
theorem cV_y (v : Value) : cV true v = v := rfl
def PostOf (R : Act → World → Prop) (Q : Exit → Act → World → Prop) : Exit → Act → World → Prop
 | .normal, a, w => R a w
 | e, a, w => Q e a w
theorem wp_region_post {P : Program} {id : Nat} {ops : Array Oper} {b : Bool} {Q : Exit → Act → World → Prop} {a : Act} {w : World} (R : Act → World → Prop) (h1 : (Code.region id ops b).wp P (PostOf R Q) a w) (h2 : ∀ a w, R a w → Q .normal a w) : (Code.region id ops b).wp P Q a w :=
 Code.wp_mono (fun e a w h => by cases e <;> first | exact h2 _ _ h | exact h) h1
theorem Deps.mono {ops : Array Oper} {i : Nat} {L L' : Nat → Bool} (h : Deps ops i L) (hm : ∀ k, L k = true → L' k = true) : Deps ops i L' := fun o ho e he hb => hm _ (h o ho e he hb)
theorem wp_region_cl {P : Program} {id : Nat} {ops : Array Oper} {Q : Exit → Act → World → Prop} {a : Act} {w : World} (hm : P.follows .mixedOrders = true) (hb : backB ops = true) (I : (Nat → Bool) → Act → World → Prop) (h0 : I (fun _ => false) a w.drew)
  (hstep : ∀ i, i < ops.size → ∀ L a w, L i = false → Deps ops i L → (∀ k, L k = true → Deps ops k L) → I L a w → wpOp P ops Q i (I fun k => k == i || L k) a w)
  (hend : ∀ L a w, (∀ i, i < ops.size → L i = true) → I L a w → Q .normal a w) : (Code.region id ops true).wp P Q a w :=
 wp_region_inv hm hb (fun L a w => (∀ k, L k = true → Deps ops k L) ∧ I L a w) ⟨(fun k h => by cases h), h0⟩
  (fun i hi L a w hl hd h => wpOp_mono (fun a' w' h' => ⟨fun k hk => by
   have up : ∀ q, L q = true → (fun k => k == i || L k) q = true := fun q hq => by show (q == i || L q) = true; rw [hq, Bool.or_true]
   by_cases e : k = i
   ·subst e; exact hd.mono up
   ·have hk' : L k = true := by
     have h1 : (k == i || L k) = true := hk
     have h2 : (k == i) = false := by simpa using e
     rw [h2, Bool.false_or] at h1
     exact h1
    exact (h.1 k hk').mono up, h'⟩) (hstep i hi L a w hl hd h.1 h.2))
  (fun L a w hall h => hend L a w hall h.2)
theorem wpOp_take {P : Program} {ops : Array Oper} {Q : Exit → Act → World → Prop} {i : Nat} {o : Oper} {K' : Act → World → Prop} {a : Act} {w : World} (hi : ops[i]? = some o) (hg : Region.wanted o (yielded ops a.tmps) = true) (h : ∀ K : Act → World → Prop, (∀ a w, K' a w → K a w) → o.wp P a w K Q) : wpOp P ops Q i K' a w := by
 unfold wpOp
 rw [hi]
 dsimp only
 rw [if_pos hg]
 exact .inl (h K' fun _ _ h => h)
def cX (b : Bool) (v o : Value) : Value := if b = true then v else o
theorem cX_y (v o : Value) : cX true v o = v := rfl
theorem cX_n (v o : Value) : cX false v o = o := rfl
end Go.Proofs.YtaenoiffamgcfaaGreatDoor
