/- A leaf's proof, in the program. Conditions: at most 2^20 texts. -/
import Derived.Test.YtcnigfejpfcfaaaJ5
import Derived.Test.YtcnigfejpfcfaaaJ1
import Derived.Test.YtcnigfejpfcfaaaJ3
namespace Go.Proofs.Ytcnigfejpfcfaaa
set_option maxRecDepth 2000
open Go.ChangeShapes Go.WideShapes Go.ChangeAt Go.RowKit Go.Shelf
open Gt (hf up nb pl pf)

def pfB (n : Nat) (S : Nat → ByteArray) (i : Int) : Bool := lvB n S && inT i (n : Int)
def pfR (n : Nat) (S : Nat → ByteArray) (i : Int) : Nat := if pfB n S i = true then pl i.toNat n else 0
def pfF (n : Nat) (S : Nat → ByteArray) (i : Int) : Nat → ByteArray := pf n S i.toNat

/-- Nothing that lay has turned but blocks of 'X'. -/
structure Kp (X : Nat → Prop) (W W' : World) : Prop where
  os : W'.os = W.os
  tape : W'.tape = W.tape
  output : W'.output = W.output
  size : W.heap.size ≤ W'.heap.size
  block : ∀ j, j < W.heap.size → ¬ X j → W'.heap[j]? = W.heap[j]?
theorem Kp.trans {X : Nat → Prop} {A B C : World} (h : Kp X A B) (k : Kp X B C) : Kp X A C :=
  ⟨k.os.trans h.os, k.tape.trans h.tape, k.output.trans h.output, Nat.le_trans h.size k.size, fun j hj hx => (k.block j (Nat.lt_of_lt_of_le hj h.size) hx).trans (h.block j hj hx)⟩
theorem Kp.below {X : Nat → Prop} {A B : World} (h : Below A.heap.size A B) : Kp X A B := ⟨h.os, h.tape, h.output, h.size, fun j hj _ => h.block j hj⟩
theorem Kp.grown {X : Nat → Prop} {A B : World} {g : Nat} (h : A.grownBy B (some g)) (hx : X g) : Kp X A B := ⟨h.os, h.tape, h.output, h.size, fun j hj hn => h.block j hj (fun e => by cases e; exact hn hx)⟩
theorem Kp.set {X : Nat → Prop} (A : World) (g i : Nat) (v : Value) (hx : X g) : Kp X A (A.setCell ⟨g, i, none⟩ v) := Kp.grown (grown_set A g i v) hx
theorem Kp.row {X : Nat → Prop} {A B : World} {g : Nat} {t : TypeId} {cs : Array Value} (h : Kp X A B) (r : Row A g t cs) (hx : ¬ X g) : Row B g t cs := (h.block g r.lt hx).trans r
theorem Kp.base {X : Nat → Prop} {N : Nat} {w A B : World} (h : Kp X A B) (hb : Below N w A) (hN : N ≤ A.heap.size) (hx : ∀ j, j < N → ¬ X j) : Below N w B :=
  hb.trans ⟨h.os, h.tape, h.output, h.size, fun j hj => h.block j (by omega) (hx j hj)⟩

/-- What an append of one text onto the list makes. -/
theorem app_one {W9 : World} {Bm Bs Bl G c cp : Nat} {vs vl : Array Value} {O : Nat → ByteArray} (z : ByteArray) (ho : OwnT W9 Bm (some ⟨G, 0, none⟩) c cp O) (rs : Row W9 Bs 141 vs) (rl : Row W9 Bl 37 vl) (hs : G ≠ Bs) (hl : G ≠ Bl) (hc : c ≤ 64) :
    ∃ g3 c3 w3, (Builtin.append_ #[37, 37] 37 #[.slice (some ⟨G, 0, none⟩) c cp, .slice (some ⟨W9.heap.size, 0, none⟩) 1 1]).run Try.prog (W9.alloc (.cells #[.string z] 9)) = .ok (.slice (some ⟨g3, 0, none⟩) (c + 1) c3) w3 ∧
      Hid (OwnT w3 Bm (some ⟨g3, 0, none⟩) (c + 1) c3 (fun j => if j = c then z else O j) ∧ Row w3 Bs 141 vs ∧ Row w3 Bl 37 vl ∧ (g3 = G ∨ W9.heap.size < g3) ∧ Kp (fun j => j = G ∨ j = Bs ∨ j = Bl) W9 w3) := by
  obtain ⟨i0, hi, hz0, hz1, hz2⟩ := info_parts Try.infoStr
  have hb := (World.ownsRow.lt ho _ rfl)
  obtain ⟨g3, c3, w3, hrun, hown3, hgrow3, hat3, hlt3⟩ := run_append_lies (P := Try.prog) (W9.alloc (.cells #[.string z] 9)) 37 37 Bm 9 i0 (.string ByteArray.empty) 1 16 Try.underlying37 hi hz0 hz1 hz2 rfl (by decide) (.slice (some ⟨G, 0, none⟩) c cp) c _ (World.ownsRow.alloc ho _) ⟨W9.heap.size, 0, none⟩ 1 1 [.string z] (by rfl) (World.news_of_block (cs := #[.string z]) (t := 9) (fr := (0, 0)) (heap_alloc_new W9 _)) (by simp [Value.oneCell']) (by omega) (by unfold maxLen; omega) (by omega) (by simp; omega) (W9.heap.size + 1) (by simp)
  have hgr : (W9.alloc (.cells #[.string z] 9)).grownBy w3 (some G) := hgrow3
  refine ⟨g3, c3, w3, hrun, ?_, (rs.alloc _).grown hgr (Ne.symm hs), (rl.alloc _).grown hgr (Ne.symm hl), ?_, ?_⟩
  · have hx : sL (fun j => if j = c then z else O j) (c + 1) = sL O c ++ [Value.string z] := by
      rw [sL_snoc, sL_congr (S' := O) (fun i hi => by rw [if_neg (by omega)])]
      simp
    unfold OwnT
    rw [hx]
    exact hown3
  · rcases hat3 with h | h
    · left; have h' : some G = some g3 := h; cases h'; rfl
    · right; omega
  · exact (Kp.below ((Below.refl _ W9).alloc (Nat.le_refl _) _)).trans (Kp.grown hgr (.inl rfl))

set_option maxHeartbeats 2000000 in
theorem proof_no (a : Option Addr) (n cap : Nat) (S : Nat → ByteArray) (i : Int) (w : World) (h : TxtAt w a n S) (hn : n ≤ 1048576) (hL : ∀ i, i < n → (S i).size ≤ maxLen) (hno : pfB n S i = false) :
    Calls Try.prog 96 #[.slice a n cap, .int .i64 i] w fun e w' => ∃ v, e = .returned (.tuple #[v, .bool false]) ∧ ResT w w' v 0 (pfF n S i) ∧ Below w.heap.size w w' := by
  have KL : Hid (∃ (T : Nat → ByteArray) (m : Nat), Calls Try.prog 118 #[.slice a n cap] w fun e w' => e = .returned (.tuple #[RwV T m, .bool (lvB n S)]) ∧ Below w.heap.size w w') := by
    cases hB : lvB n S with
    | false => exact ⟨_, _, leafRow_no a n cap S w h hn hL hB⟩
    | true => exact ⟨_, _, leafRow_yes a n cap S w h hB⟩
  obtain ⟨T, m, KL2⟩ := KL.out
  have KC : Hid (Calls Try.prog 118 #[.slice a n cap] w fun e w' => e = .returned (.tuple #[RwV T m, .bool (lvB n S)]) ∧ Below w.heap.size w w') := KL2
  clear KL KL2 h hL
  obtain ⟨F, HF⟩ : ∃ F, Hid (pfF n S i = F) := ⟨_, rfl⟩
  rw [HF.out]
  unfold pfB at hno
  have KT : Hid (∀ w0, Calls Try.prog 120 #[SpV i (n : Int)] w0 fun e w' => e = .returned (.bool (inT i (n : Int))) ∧ Below w0.heap.size w0 w') := fun w0 => isInTree_any i (n : Int) w0
  cases hB : lvB n S with
  | false =>
    rw [hB] at KC
    go_enter Try.func96, Try.ntmps96
    go_wp2_with fail
    refine KC.out.mono ?_
    rintro e w1 ⟨rfl, hb1⟩
    have HS : Hid ((w1.alloc (.cells (rowC noT 0) 136)).setRow w1.heap.size (rowC T m) = w1.alloc (.cells (rowC T m) 136)) := setRow_alloc _ _ _ _
    go_wp2_with (first | (refine p_alloc (by rfl) (by rfl) ?_) | (refine p_store (by rfl) _ _ (by rfl) w1.heap.size (by rfl) T m (by rfl) noT 0 (Row.new w1 _ _) ?_; rw [HS.out]))
    go_ret2
    have HL := litT ((w1.alloc (.cells (rowC T m) 136)).alloc (.cells #[.int .i64 i, .int .i64 (n : Int)] 141)) F
    simp only [World.size_alloc] at HL
    exact ⟨_, rfl, ⟨_, _, rfl, HL.base (by have := hb1.size; omega)⟩, ((hb1.alloc hb1.size _).alloc (by simp; have := hb1.size; omega) _).alloc (by simp; have := hb1.size; omega) _⟩
  | true =>
    rw [hB] at KC hno
    have hin : inT i (n : Int) = false := by simpa using hno
    rw [hin] at KT
    go_enter Try.func96, Try.ntmps96
    go_wp2_with fail
    refine KC.out.mono ?_
    rintro e w1 ⟨rfl, hb1⟩
    have HS : Hid ((w1.alloc (.cells (rowC noT 0) 136)).setRow w1.heap.size (rowC T m) = w1.alloc (.cells (rowC T m) 136)) := setRow_alloc _ _ _ _
    go_wp2_with (first | (refine p_alloc (by rfl) (by rfl) ?_) | (refine p_store (by rfl) _ _ (by rfl) w1.heap.size (by rfl) T m (by rfl) noT 0 (Row.new w1 _ _) ?_; rw [HS.out]) | (go_at_call 120; refine (KT.out _).mono ?_; rintro e w5 ⟨rfl, hb5⟩))
    go_ret2
    have hb := below2 ((hb1.alloc hb1.size (.cells (rowC T m) 136)).alloc (by simp; have := hb1.size; omega) _) hb5
    exact ⟨_, rfl, ⟨_, _, rfl, (litT _ F).base (by have := hb.size; omega)⟩, hb.alloc hb.size _⟩
end Go.Proofs.Ytcnigfejpfcfaaa

/- A leaf's proof, in the program: where there is one. -/
namespace Go.Proofs.Ytcnigfejpfcfaaa
set_option maxRecDepth 2000
open Go.ChangeShapes Go.WideShapes Go.ChangeAt Go.RowKit Go.Shelf
open Gt (hf up nb pl pf)

/-- append at a step of a region that draws its order, inside a fence, by its run. -/
theorem stepIn_append {P : Program} {F : Fence} {n : Nat} {w : World} {ops : Array Oper} {o : Oper} {a : Act} {K : Act → World → Prop} {Q : Exit → Act → World → Prop} {E : Prop} (hgd : o.guard = none) (s x : Operand) (t : TypeId)
    (ho : o.op = .call { callee := .builtin .append, args := #[s, x], argTypes := #[t, t] }) (ty : TypeId) (hty : o.type = ty) (v1 v2 : Value) (hs : a.eval s = v1) (hx : a.eval x = v2) (v : Value) (w' : World)
    (hrun : (Builtin.append_ #[t, t] ty #[v1, v2]).run P w = .ok v w') (h : K (a.put o.dst v) w') : if Region.wanted o (yielded ops a.tmps) = true then Oper.wpIn F n P o a w K Q else E := by
  have hw : Region.wanted o (yielded ops a.tmps) = true := by simp [Region.wanted, hgd]
  rw [if_pos hw]
  subst hty
  unfold Oper.wpIn
  refine ⟨?_, ?_⟩
  · simp [Oper.about, ho, resolve, Target.leads, Sem.run_pure]
  · rw [Oper.semAt_plain F _ _ (by rw [ho]; intro c hc'; cases hc')]
    simp [execOp, ho, resolve, invoke, builtin, hs, hx, hrun, Result.andThen]
    exact h
/-- What the call of 'above' and its two stores leave. -/
theorem fin_step {W6 w7 : World} {Bm Bs Bl G c cp : Nat} {a0 a1 : Value} {vl : Array Value} {O : Nat → ByteArray} (p' s' : Nat) (ho : OwnT W6 Bm (some ⟨G, 0, none⟩) c cp O) (rs : Row W6 Bs 141 #[a0, a1]) (rl : Row W6 Bl 37 vl) (hb : Below W6.heap.size W6 w7) (hs : G ≠ Bs) (hl : Bl ≠ Bs) :
    Hid (Row ((w7.setCell ⟨Bs, 0, none⟩ (.int .i64 (p' : Int))).setCell ⟨Bs, 1, none⟩ (.int .i64 (s' : Int))) Bs 141 #[.int .i64 (p' : Int), .int .i64 (s' : Int)] ∧
      Row ((w7.setCell ⟨Bs, 0, none⟩ (.int .i64 (p' : Int))).setCell ⟨Bs, 1, none⟩ (.int .i64 (s' : Int))) Bl 37 vl ∧
      OwnT ((w7.setCell ⟨Bs, 0, none⟩ (.int .i64 (p' : Int))).setCell ⟨Bs, 1, none⟩ (.int .i64 (s' : Int))) Bm (some ⟨G, 0, none⟩) c cp O ∧
      Kp (fun j => j = G ∨ j = Bs ∨ j = Bl) W6 ((w7.setCell ⟨Bs, 0, none⟩ (.int .i64 (p' : Int))).setCell ⟨Bs, 1, none⟩ (.int .i64 (s' : Int)))) := by
  have h1 := ((rs.below hb rs.lt).set 0 (.int .i64 (p' : Int))).set 1 (.int .i64 (s' : Int))
  refine ⟨h1, ((rl.below hb rl.lt).other _ _ hl).other _ _ hl, ?_, ?_⟩
  · exact own_kept (own_kept (ho.below hb) (grown_set _ _ _ _) (fun x e => by cases e; exact hs)) (grown_set _ _ _ _) (fun x e => by cases e; exact hs)
  · exact ((Kp.below hb).trans (Kp.set _ _ _ _ (.inr (.inl rfl)))).trans (Kp.set _ _ _ _ (.inr (.inl rfl)))
theorem Kp.mono {X Y : Nat → Prop} {A B : World} (h : Kp X A B) (hxy : ∀ j, X j → Y j) : Kp Y A B := ⟨h.os, h.tape, h.output, h.size, fun j hj hn => h.block j hj (fun hx => hn (hxy j hx))⟩
/-- What a whole round leaves of the blocks that are not its own. -/
theorem round_kept {w W2 w5 w9 w3 Wf : World} {N G g3 Bs Bl C : Nat} {v : Value} (hb5 : Below W2.heap.size W2 w5) (hb9 : Below w5.heap.size w5 w9) (K3 : Kp (fun j => j = G ∨ j = Bs ∨ j = Bl) w9 w3) (K7 : Kp (fun j => j = g3 ∨ j = Bs ∨ j = Bl) (w3.setCell ⟨Bl, 0, none⟩ v) Wf)
    (hg3 : g3 = G ∨ w9.heap.size < g3) (hG : G < C + 2 ∨ C + 5 ≤ G) (hs : Bs < C + 2) (hl : Bl < C + 2) (hC : C + 5 ≤ W2.heap.size) (hb : Below N w W2) (hN : N ≤ W2.heap.size) (n1 : N ≤ G) (n2 : N ≤ Bs) (n3 : N ≤ Bl) :
    W2.heap.size ≤ Wf.heap.size ∧ (∀ j, C + 2 ≤ j → j < C + 5 → Wf.heap[j]? = W2.heap[j]?) ∧ Below N w Wf := by
  have hz : W2.heap.size ≤ w9.heap.size := Nat.le_trans hb5.size hb9.size
  have t : Kp (fun j => j = G ∨ j = Bs ∨ j = Bl ∨ w9.heap.size < j) W2 Wf :=
    ((((Kp.below hb5).trans (Kp.below hb9)).trans (K3.mono (fun j hj => by omega))).trans (Kp.set w3 Bl 0 v (.inr (.inr (.inl rfl))))).trans (K7.mono (fun j hj => by omega))
  exact ⟨t.size, fun j h1 h2 => t.block j (by omega) (by omega), t.base hb hN (fun j hj => by omega)⟩
/-- The list's header written anew. -/
theorem hd_step {W : World} {Bm Bs Bl G c cp : Nat} {vs : Array Value} {v v' : Value} {O : Nat → ByteArray} (ho : OwnT W Bm (some ⟨G, 0, none⟩) c cp O) (rs : Row W Bs 141 vs) (rl : Row W Bl 37 #[v]) (hs : Bs ≠ Bl) (hl : G ≠ Bl) :
    OwnT (W.setCell ⟨Bl, 0, none⟩ v') Bm (some ⟨G, 0, none⟩) c cp O ∧ Row (W.setCell ⟨Bl, 0, none⟩ v') Bs 141 vs ∧ Row (W.setCell ⟨Bl, 0, none⟩ v') Bl 37 #[v'] :=
  ⟨own_kept ho (grown_set _ _ _ _) (fun x e => by cases e; exact hl), rs.other _ _ hs, rl.set 0 v'⟩

set_option maxHeartbeats 4000000 in
theorem proof_yes (a : Option Addr) (n cap : Nat) (S : Nat → ByteArray) (i : Nat) (w : World) (h : TxtAt w a n S) (hyes : lvB n S = true) (hin : inT (i : Int) (n : Int) = true) :
    Calls Try.prog 96 #[.slice a n cap, .int .i64 (i : Int)] w fun e w' => ∃ v, e = .returned (.tuple #[v, .bool true]) ∧ ResT w w' v (pl i n) (pf n S i) ∧ Below w.heap.size w w' := by
  have KL : Hid (Calls Try.prog 118 #[.slice a n cap] w fun e w' => e = .returned (.tuple #[RwV (padT n S) n, .bool true]) ∧ Below w.heap.size w w') := leafRow_yes a n cap S w h hyes
  obtain ⟨h1, h64, h16⟩ := lvB_parts hyes
  have hi : i < n := by simp [inT] at hin; omega
  have KT : Hid (∀ w0, Calls Try.prog 120 #[SpV (i : Int) (n : Int)] w0 fun e w' => e = .returned (.bool true) ∧ Below w0.heap.size w0 w') := fun w0 => by have := isInTree_any (i : Int) (n : Int) w0; rw [hin] at this; exact this
  obtain ⟨L, HL⟩ : ∃ L, Hid (pl i n = L) := ⟨_, rfl⟩
  have hL6 : L ≤ 6 := by rw [← HL.out]; exact Gt.pl_le 6 _ _ (by omega)
  obtain ⟨PF, HPF⟩ : ∃ PF, Hid (pf n S i = PF) := ⟨_, rfl⟩
  have HP0 : Hid (∀ j, pf n (padT n S) i j = PF j) := fun j => by rw [← HPF.out]; exact Gt.pf_congr (fun k hk => padT_at S hk) i j
  have H16 : Hid (∀ i, i < n → (padT n S i).size = 16) := fun i hi => by rw [padT_at S hi]; exact h16 i hi
  rw [HL.out, HPF.out]
  clear h hyes h16 hin HPF
  generalize padT n S = T at *
  refine (callsIn_wide (n := 2)).1 (callsIn_of_wp_marks Try.func96 rfl trivial (wpIn_wide.2 ?_) rfl)
  simp only [Try.ntmps96, List.size_toArray, List.length_cons, List.length_nil, Nat.reduceAdd, Nat.reduceSub, Array.replicate_succ, Array.replicate_zero, List.push_toArray, List.append_toArray, List.nil_append, List.cons_append]
  go_wp2_with fail
  refine KL.out.mono ?_
  rintro e w1 ⟨rfl, hb1⟩
  obtain ⟨w2, HW2⟩ : ∃ w2, Hid (w2 = w1.alloc (.cells (rowC T n) 136)) := ⟨_, rfl⟩
  have HF : Hid ((w1.alloc (.cells (rowC noT 0) 136)).setRow w1.heap.size (rowC T n) = w2) := by rw [HW2.out]; exact setRow_alloc _ _ _ _
  obtain ⟨B, hB⟩ : ∃ B, w1.heap.size = B := ⟨_, rfl⟩
  have K2 : Hid (Row w2 B 136 (rowC T n) ∧ Below w.heap.size w w2 ∧ w2.heap.size = B + 1 ∧ w.heap.size ≤ B) := by
    rw [HW2.out, ← hB]
    exact ⟨Row.new w1 _ _, hb1.alloc hb1.size _, by simp, hb1.size⟩
  have hz2 := K2.out.2.2.1
  go_wp2_with (first | (refine p_alloc (by rfl) (by rfl) ?_) | (refine p_store (by rfl) _ _ (by rfl) w1.heap.size (by rfl) T n (by rfl) noT 0 (Row.new w1 _ _) ?_; rw [HF.out]) | fail)
  refine (KT.out _).mono ?_
  rintro e w4 ⟨rfl, hb4⟩
  obtain ⟨C, hC⟩ : ∃ C, w4.heap.size = C := ⟨_, rfl⟩
  have K4 : Hid (Row w4 B 136 (rowC T n) ∧ Row w4 (B + 1) 141 #[.int .i64 (i : Int), .int .i64 (n : Int)] ∧ Below w.heap.size w w4 ∧ B + 1 < C ∧ w.heap.size ≤ B) := by
    obtain ⟨a1, a2, a3, a4⟩ := K2.out
    have r1 := a1.alloc (.cells #[.int .i64 (i : Int), .int .i64 (n : Int)] 141)
    have r2 := Row.new w2 #[.int .i64 (i : Int), .int .i64 (n : Int)] 141
    rw [a3] at r2
    have r2' := r2.below hb4 r2.lt
    exact ⟨r1.below hb4 r1.lt, r2', below2 (a2.alloc (by omega) _) hb4, by rw [← hC]; exact r2'.lt, a4⟩
  obtain ⟨w8, HW8⟩ : ∃ w8, Hid (w8 = (w4.alloc (.cells #[] 9)).alloc (.cells #[.slice (some ⟨C, 0, none⟩) 0 0] 37)) := ⟨_, rfl⟩
  have HN : Hid (Row w8 B 136 (rowC T n) ∧ Row w8 (B + 1) 141 #[.int .i64 (i : Int), .int .i64 (n : Int)] ∧ Row w8 (C + 1) 37 #[.slice (some ⟨C, 0, none⟩) 0 0] ∧ OwnT w8 w.heap.size (some ⟨C, 0, none⟩) 0 0 PF ∧ Below w.heap.size w w8 ∧ w8.heap.size = C + 2 ∧ B + 1 < C ∧ w.heap.size ≤ B) := by
    rw [HW8.out]
    obtain ⟨a1, a2, a3, a4, a5⟩ := K4.out
    have l1 := litT w4 PF
    rw [hC] at l1
    have l2 := Row.new (w4.alloc (.cells #[] 9)) #[.slice (some ⟨C, 0, none⟩) 0 0] 37
    rw [show (w4.alloc (.cells #[] 9)).heap.size = C + 1 by simp [hC]] at l2
    exact ⟨(a1.alloc _).alloc _, (a2.alloc _).alloc _, l2, OwnT.base (World.ownsRow.alloc l1 _) (by omega), (a3.alloc (by omega) _).alloc (by simp; omega) _, by simp [hC], a4, a5⟩
  have K8 : Hid (Row ((w4.alloc (.cells #[] 9)).alloc (.cells #[.slice (some ⟨C, 0, none⟩) 0 0] 37)) B 136 (rowC T n)) := by rw [← HW8.out]; exact HN.out.1
  go_wp2_with (refine p_load (by rfl) _ (by rfl) B (by rfl) T n K8.out ?_)
  rw [← HW8.out]
  clear hB hC hz2 hb1 hb4 K8
  refine (wpIn_wide (n := 2)).1 ?_
  refine wpIn_rangeM (recv := RwV T n) (gf := 119) (by rfl) (enters_of Try.func119 (by kernel_rfl) rfl) (rows_iter T n h1 h64 H16.out) (fun _ => rfl)
    (fun s W => Below w.heap.size w W ∧ ∃ (p z c G cp : Nat) (O : Nat → ByteArray), Row W (B + 1) 141 #[.int .i64 (p : Int), .int .i64 (z : Int)] ∧ Row W (C + 1) 37 #[.slice (some ⟨G, 0, none⟩) c cp] ∧ OwnT W w.heap.size (some ⟨G, 0, none⟩) c cp O ∧ (G ≠ B + 1 ∧ G ≠ C + 1 ∧ (G < C + 2 ∨ C + 5 ≤ G)) ∧ (∀ j, j < c → O j = PF j) ∧ c ≤ L ∧ (s.1 = false → z = s.2.1 ∧ p < s.2.1 ∧ c + pl p s.2.1 = L ∧ ∀ j, pf s.2.1 s.2.2 p j = PF (c + j)) ∧ (s.1 = true → c = L)) ?abide ?start ?round ?done
  case abide =>
    rintro s A A' j h1 h2 ⟨hb, p, z, c, G, cp, O, r1, r2, ho, hG, hO, hc, hf, ht⟩ hg
    have hn := HN.out.2.2.2.2.2
    exact ⟨below_grown hb hg hb.size (by omega), p, z, c, G, cp, O, r1.grown hg (by omega), r2.grown hg (by omega), own_kept ho hg (fun x e => by cases e; simp; omega), hG, hO, hc, hf, ht⟩
  case start =>
    obtain ⟨a1, a2, a3, a4, a5, a6, a7, a8⟩ := HN.out
    exact ⟨a5, i, n, 0, C, 0, PF, a2, a3, a4, ⟨by omega, by omega, by omega⟩, fun _ _ => rfl, by omega, fun _ => ⟨rfl, hi, by have := HL.out; simp; omega, fun j => by rw [Nat.zero_add]; exact HP0.out j⟩, fun e => by cases e⟩
  case round =>
    rintro l ⟨d, m, T'⟩ W hok ⟨hb, p, z, c, G, cp, O, r1, r2, ho, hG, hO, hc, hf', ht⟩ hlt
    have hn := HN.out.2.2.2.2.2
    have hd : d = false := hok.1
    obtain ⟨hz, hp, hcl, hpf⟩ := hf' hd
    subst hd
    have hm1 : 1 ≤ m := hok.2.1
    have hm64 : m ≤ 64 := hok.2.2.1
    have HM16 : Hid (∀ i, i < m → (T' i).size = 16) := hok.2.2.2
    have hzm : z = m := hz
    subst hzm
    have hpm : p < z := hp
    have HC0 : Hid (c + pl p z = L) := hcl
    have HP : Hid (∀ j, pf z T' p j = PF (c + j)) := hpf
    have HO : Hid (∀ j, j < c → O j = PF j) := hO
    clear hf' ht hz hp hcl hpf hO hok
    have hsem := Oper.semAt_some
    have hfn := wideFn
    have hdp := wideDepth
    have hmx := Try.mixed
    have HF2 : Hid ((W.alloc (.cells (rowC noT 0) 136)).setRow W.heap.size (rowC T' z) = W.alloc (.cells (rowC T' z) 136)) := setRow_alloc _ _ _ _
    go_simp
    gi_wp2_with (first | (refine i_alloc (by rfl) (by rfl) ?_) | (refine i_store (by rfl) _ _ (by rfl) W.heap.size (by rfl) T' z (by rfl) noT 0 (Row.new W _ _) ?_; rw [HF2.out]))
    refine ⟨World.grownBy_alloc _ _ _, ?_⟩
    intro W2 hg2 hs2
    obtain ⟨X, hX⟩ : ∃ X, W.heap.size = X := ⟨_, rfl⟩
    have hXC : C + 4 < X := by omega
    have K5 : Hid (Row W2 (B + 1) 141 #[.int .i64 (p : Int), .int .i64 (z : Int)] ∧ Row W2 (C + 1) 37 #[.slice (some ⟨G, 0, none⟩) c cp] ∧ OwnT W2 w.heap.size (some ⟨G, 0, none⟩) c cp O ∧ Row W2 X 136 (rowC T' z) ∧ Below w.heap.size w W2 ∧ W2.heap.size = X + 1) := by
      have rx := (Row.new W (rowC T' z) 136).grown hg2 (by omega)
      rw [hX] at rx
      exact ⟨(r1.alloc _).grown hg2 (by omega), (r2.alloc _).grown hg2 (by omega), own_kept (World.ownsRow.alloc ho _) hg2 (fun x e => by cases e; simp; omega), rx, below_grown (hb.alloc hb.size _) hg2 (by simp; have := hb.size; omega) (by omega), by rw [hs2]; simp [hX]⟩
    have HG : Hid (G ≠ B + 1 ∧ G ≠ C + 1 ∧ (G < C + 2 ∨ C + 5 ≤ G) ∧ w.heap.size ≤ G) := ⟨hG.1, hG.2.1, hG.2.2, (World.ownsRow.lt ho _ rfl).1⟩
    have Hn : Hid (w8.heap.size = C + 2 ∧ B + 1 < C ∧ w.heap.size ≤ B) := hn
    obtain ⟨p', hp'⟩ : ∃ p', p / 2 = p' := ⟨_, rfl⟩
    obtain ⟨z', hz'⟩ : ∃ z', hf z = z' := ⟨_, rfl⟩
    have KA : Hid (∀ w0, Calls Try.prog 122 #[SpV (p : Int) (z : Int)] w0 fun e w' => e = .returned (SpV (p' : Int) (z' : Int)) ∧ Below w0.heap.size w0 w') := fun w0 => by rw [← hp', ← hz']; exact spotAbove_any p z w0 (by omega) (by omega)
    have c0 := K5.out.1.cell 0
    have c1 := K5.out.1.cell 1
    simp at c0 c1
    clear hg2 hs2 hb ho r1 r2 hG hn HF2
    by_cases hnb : nb p < z
    · have KN : Hid (∀ w0, Calls Try.prog 121 #[SpV (p : Int) (z : Int)] w0 fun e w' => e = .returned (.tuple #[.int .i64 ((nb p : Nat) : Int), .bool true]) ∧ Below w0.heap.size w0 w') := fun w0 => by
        have := neighbour_any p z w0 (by omega)
        rw [show decide (nb p < z) = true by simpa using hnb] at this
        exact this
      have hz1 : ¬ z ≤ 1 := by intro e; unfold nb at hnb; split at hnb <;> omega
      have HE : Hid (c + 1 ≤ L ∧ ((rNx (false, z, T')).1 = false → z' = (rNx (false, z, T')).2.1 ∧ p' < (rNx (false, z, T')).2.1 ∧ c + 1 + pl p' (rNx (false, z, T')).2.1 = L ∧ ∀ j, pf (rNx (false, z, T')).2.1 (rNx (false, z, T')).2.2 p' j = PF (c + 1 + j)) ∧ ((rNx (false, z, T')).1 = true → c + 1 = L)) := by
        have hcl := HC0.out
        rw [Gt.pl_yes p hz1 hnb, hp', hz'] at hcl
        show _ ∧ _
        unfold rNx
        rw [if_neg hz1]
        refine ⟨by omega, fun _ => ⟨hz'.symm, ?_, ?_, fun j => ?_⟩, fun e => (by cases e)⟩
        · show p' < hf z; rw [← hp']; unfold hf; omega
        · show c + 1 + pl p' (hf z) = L; rw [hz']; omega
        · show pf (hf z) (up z T') p' j = _
          rw [← hp', ← Gt.pf_tl T' p j hz1 hnb, HP.out, show c + (j + 1) = c + 1 + j by omega]
      have HQ : Hid (T' (nb p) = PF c) := by
        have := HP.out 0
        rw [Gt.pf_hd T' p hz1 hnb] at this
        exact this
      obtain ⟨q, hq⟩ : ∃ q, nb p = q := ⟨_, rfl⟩
      rw [hq] at KN HQ hnb
      obtain ⟨x, hx⟩ : ∃ x, T' q = x := ⟨_, rfl⟩
      have hx16 := HM16.out q hnb
      rw [hx] at HQ hx16
      have KC : Hid (∀ w0, Calls Try.prog 52 #[.string x] w0 fun e w' => e = .returned (.string x) ∧ Below w0.heap.size w0 w') := fun w0 => clone_any x w0 (by omega)
      have hc6 : c ≤ 64 := by omega
      have hq64 : (q : Int) < 64 := by omega
      clear hx16 hp' hz' HC0 HP
      gi_wp2_with fail
      refine (CallsIn.inRound l (callsIn_wide.2 (KN.out _))).mono ?_
      rintro e w5 ⟨rfl, hb5⟩
      have K6 : Hid (Row w5 (B + 1) 141 #[.int .i64 (p : Int), .int .i64 (z : Int)] ∧ Row w5 (C + 1) 37 #[.slice (some ⟨G, 0, none⟩) c cp] ∧ OwnT w5 w.heap.size (some ⟨G, 0, none⟩) c cp O ∧ Row w5 X 136 (rowC T' z)) := by
        obtain ⟨a1, a2, a3, a4, a5, a6⟩ := K5.out
        exact ⟨a1.below hb5 a1.lt, a2.below hb5 a2.lt, a3.below hb5, a4.below hb5 a4.lt⟩
      have k1 := K6.out.2.1.cell 0
      have k2 : w5.cell? ⟨X, q, none⟩ = some (.string x) := by rw [K6.out.2.2.2.cell q, rowC_get _ _ _ (by omega), hx]
      simp at k1
      clear c0 c1 hx
      gi_wp2_with fail
      refine wpIn_region_any (by assumption) ?_
      try (change wpAnyIn _ _ _ _ _ _ _ _ _ (World.drew _))
      refine wpAnyIn_ready (rs := [0, 1, 2]) (by kernel_rfl) (by simp) ?_
      refine AllReadyIn.cons rfl (fun K hK => ?_) ?_
      · skip
        go_simp
        refine hK _ _ ?_
        clear hK K
        refine wpAnyIn_ready (rs := [1, 2]) (by kernel_rfl) (by simp) ?_
        refine AllReadyIn.cons rfl (fun K hK => ?_) ?_
        · skip
          go_simp
          refine hK _ _ ?_
          clear hK K
          refine wpAnyIn_ready (rs := [2]) (by kernel_rfl) (by simp) ?_
          refine AllReadyIn.cons rfl (fun K hK => ?_) ?_
          · skip
            go_simp
            refine hK _ _ ?_
            clear hK K
            refine wpAnyIn_ready (rs := [3]) (by kernel_rfl) (by simp) ?_
            refine AllReadyIn.cons rfl (fun K hK => ?_) ?_
            · skip
              go_simp
              refine hK _ _ ?_
              clear hK K
              refine wpAnyIn_ready (rs := [4]) (by kernel_rfl) (by simp) ?_
              refine AllReadyIn.cons rfl (fun K hK => ?_) ?_
              · skip
                go_simp
                refine hK _ _ ?_
                clear hK K
                refine wpAnyIn_ready (rs := [5]) (by kernel_rfl) (by simp) ?_
                refine AllReadyIn.cons rfl (fun K hK => ?_) ?_
                · skip
                  go_simp
                  gi_wp2_with (gi_at_call 52; refine (CallsIn.inRound l (callsIn_wide.2 (KC.out _))).mono ?_; rintro e w9 ⟨rfl, hb9'⟩; have hb9 := below_of_drew hb9'; clear hb9'; obtain ⟨g3, c3, w3, hrun, H3⟩ := app_one x (K6.out.2.2.1.below hb9) (K6.out.1.below hb9 K6.out.1.lt) (K6.out.2.1.below hb9 K6.out.2.1.lt) HG.out.1 HG.out.2.1 hc6; have HRUN : Hid _ := hrun; clear hrun; have l9 : C + 1 < w9.heap.size := Nat.lt_of_lt_of_le K6.out.2.1.lt hb9.size; have m1 := (K6.out.2.1.below hb9 K6.out.2.1.lt).cell 0; have m2 := ((K6.out.2.1.below hb9 K6.out.2.1.lt).alloc (.cells #[.string x] 9)).cell 0; have m3 := H3.out.2.2.1.cell 0; have f3 := H3.out.2.2.1.free 0; simp at m1 m2 m3)
                  refine wpAnyIn_ready (rs := [6]) (by kernel_rfl) (by simp) ?_
                  refine AllReadyIn.cons rfl (fun K hK => ?_) ?_
                  · skip
                    go_simp
                    refine hK _ _ ?_
                    clear hK K
                    refine wpAnyIn_ready (rs := [7]) (by kernel_rfl) (by simp) ?_
                    refine AllReadyIn.cons rfl (fun K hK => ?_) ?_
                    · skip
                      refine stepIn_append (by rfl) _ _ 37 (by rfl) 37 (by rfl) (.slice (some ⟨G, 0, none⟩) c cp) (.slice (some ⟨w9.heap.size, 0, none⟩) 1 1) (by rfl) (by rfl) _ _ HRUN.out ?_
                      go_simp
                      refine hK _ _ ?_
                      clear hK K
                      refine wpAnyIn_ready (rs := [8]) (by kernel_rfl) (by simp) ?_
                      refine AllReadyIn.cons rfl (fun K hK => ?_) ?_
                      · skip
                        go_simp
                        refine hK _ _ ?_
                        clear hK K
                        refine wpAnyIn_done (by kernel_rfl) ?_ _
                        have hw9 := l9
                        have hg3 := H3.out.2.2.2.1
                        have hgC : g3 ≠ C + 1 := by have := HG.out; omega
                        have hgB : g3 ≠ B + 1 := by have := HG.out; have := Hn.out; omega
                        have H6 : Hid _ := hd_step (v' := .slice (some ⟨g3, 0, none⟩) (c + 1) c3) H3.out.1 H3.out.2.1 H3.out.2.2.1 (by have := Hn.out; omega) hgC
                        have t0 := H6.out.2.1.cell 0
                        have t1 := H6.out.2.1.cell 1
                        simp at t0 t1
                        clear k1 k2 m1 m2 m3 f3
                        gi_wp2_with fail
                        refine (CallsIn.inRound l (callsIn_wide.2 (KA.out _))).mono ?_
                        rintro e w7 ⟨rfl, hb7⟩
                        have HFin := fin_step p' z' H6.out.1 H6.out.2.1 H6.out.2.2 hb7 hgB (by have := Hn.out; omega)
                        have HK := round_kept (N := w.heap.size) (C := C) hb5 hb9 H3.out.2.2.2.2 HFin.out.2.2.2 hg3 HG.out.2.2.1 (by have := Hn.out; omega) (by omega) (by have := K5.out.2.2.2.2.2; omega) K5.out.2.2.2.2.1 (by have := K5.out.2.2.2.2.2; have := Hn.out; omega) HG.out.2.2.2 (by have := Hn.out; omega) (by have := Hn.out; omega)
                        have HKK : Hid _ := HK
                        have u0 := (H6.out.2.1.below hb7 H6.out.2.1.lt).cell 0
                        have u1 := (H6.out.2.1.below hb7 H6.out.2.1.lt).cell 1
                        have v0 := (H6.out.2.1.below hb7 H6.out.2.1.lt).free 0
                        have v1 := (H6.out.2.1.below hb7 H6.out.2.1.lt).free 1
                        simp at u0 u1
                        clear HK t0 t1
                        gi_wp2
                        exact ⟨HKK.out.1, fun j h1 h2 => HKK.out.2.1 j (by have := Hn.out; omega) (by have := Hn.out; omega), HKK.out.2.2, p', z', HFin.out.1, c + 1, g3, c3, HFin.out.2.1, _, HFin.out.2.2.1, ⟨hgB, hgC, by have := HG.out; have := Hn.out; have := K5.out.2.2.2.2.2; have := hb5.size; have := hb9.size; omega⟩, fun j hj => (by by_cases e : j = c <;> simp only [e, if_true, if_false] <;> first | exact HQ.out | exact HO.out j (by omega)), HE.out.1, HE.out.2.1, HE.out.2.2⟩
                      exact AllReadyIn.nil
                    exact AllReadyIn.nil
                  exact AllReadyIn.nil
                exact AllReadyIn.nil
              exact AllReadyIn.nil
            exact AllReadyIn.nil
          exact AllReadyIn.nil
        refine AllReadyIn.cons rfl (fun K hK => ?_) ?_
        · skip
          go_simp
          refine hK _ _ ?_
          clear hK K
          refine wpAnyIn_ready (rs := [1]) (by kernel_rfl) (by simp) ?_
          refine AllReadyIn.cons rfl (fun K hK => ?_) ?_
          · skip
            go_simp
            refine hK _ _ ?_
            clear hK K
            refine wpAnyIn_ready (rs := [3]) (by kernel_rfl) (by simp) ?_
            refine AllReadyIn.cons rfl (fun K hK => ?_) ?_
            · skip
              go_simp
              refine hK _ _ ?_
              clear hK K
              refine wpAnyIn_ready (rs := [4]) (by kernel_rfl) (by simp) ?_
              refine AllReadyIn.cons rfl (fun K hK => ?_) ?_
              · skip
                go_simp
                refine hK _ _ ?_
                clear hK K
                refine wpAnyIn_ready (rs := [5]) (by kernel_rfl) (by simp) ?_
                refine AllReadyIn.cons rfl (fun K hK => ?_) ?_
                · skip
                  go_simp
                  gi_wp2_with (gi_at_call 52; refine (CallsIn.inRound l (callsIn_wide.2 (KC.out _))).mono ?_; rintro e w9 ⟨rfl, hb9'⟩; have hb9 := below_of_drew hb9'; clear hb9'; obtain ⟨g3, c3, w3, hrun, H3⟩ := app_one x (K6.out.2.2.1.below hb9) (K6.out.1.below hb9 K6.out.1.lt) (K6.out.2.1.below hb9 K6.out.2.1.lt) HG.out.1 HG.out.2.1 hc6; have HRUN : Hid _ := hrun; clear hrun; have l9 : C + 1 < w9.heap.size := Nat.lt_of_lt_of_le K6.out.2.1.lt hb9.size; have m1 := (K6.out.2.1.below hb9 K6.out.2.1.lt).cell 0; have m2 := ((K6.out.2.1.below hb9 K6.out.2.1.lt).alloc (.cells #[.string x] 9)).cell 0; have m3 := H3.out.2.2.1.cell 0; have f3 := H3.out.2.2.1.free 0; simp at m1 m2 m3)
                  refine wpAnyIn_ready (rs := [6]) (by kernel_rfl) (by simp) ?_
                  refine AllReadyIn.cons rfl (fun K hK => ?_) ?_
                  · skip
                    go_simp
                    refine hK _ _ ?_
                    clear hK K
                    refine wpAnyIn_ready (rs := [7]) (by kernel_rfl) (by simp) ?_
                    refine AllReadyIn.cons rfl (fun K hK => ?_) ?_
                    · skip
                      refine stepIn_append (by rfl) _ _ 37 (by rfl) 37 (by rfl) (.slice (some ⟨G, 0, none⟩) c cp) (.slice (some ⟨w9.heap.size, 0, none⟩) 1 1) (by rfl) (by rfl) _ _ HRUN.out ?_
                      go_simp
                      refine hK _ _ ?_
                      clear hK K
                      refine wpAnyIn_ready (rs := [8]) (by kernel_rfl) (by simp) ?_
                      refine AllReadyIn.cons rfl (fun K hK => ?_) ?_
                      · skip
                        go_simp
                        refine hK _ _ ?_
                        clear hK K
                        refine wpAnyIn_done (by kernel_rfl) ?_ _
                        have hw9 := l9
                        have hg3 := H3.out.2.2.2.1
                        have hgC : g3 ≠ C + 1 := by have := HG.out; omega
                        have hgB : g3 ≠ B + 1 := by have := HG.out; have := Hn.out; omega
                        have H6 : Hid _ := hd_step (v' := .slice (some ⟨g3, 0, none⟩) (c + 1) c3) H3.out.1 H3.out.2.1 H3.out.2.2.1 (by have := Hn.out; omega) hgC
                        have t0 := H6.out.2.1.cell 0
                        have t1 := H6.out.2.1.cell 1
                        simp at t0 t1
                        clear k1 k2 m1 m2 m3 f3
                        gi_wp2_with fail
                        refine (CallsIn.inRound l (callsIn_wide.2 (KA.out _))).mono ?_
                        rintro e w7 ⟨rfl, hb7⟩
                        have HFin := fin_step p' z' H6.out.1 H6.out.2.1 H6.out.2.2 hb7 hgB (by have := Hn.out; omega)
                        have HK := round_kept (N := w.heap.size) (C := C) hb5 hb9 H3.out.2.2.2.2 HFin.out.2.2.2 hg3 HG.out.2.2.1 (by have := Hn.out; omega) (by omega) (by have := K5.out.2.2.2.2.2; omega) K5.out.2.2.2.2.1 (by have := K5.out.2.2.2.2.2; have := Hn.out; omega) HG.out.2.2.2 (by have := Hn.out; omega) (by have := Hn.out; omega)
                        have HKK : Hid _ := HK
                        have u0 := (H6.out.2.1.below hb7 H6.out.2.1.lt).cell 0
                        have u1 := (H6.out.2.1.below hb7 H6.out.2.1.lt).cell 1
                        have v0 := (H6.out.2.1.below hb7 H6.out.2.1.lt).free 0
                        have v1 := (H6.out.2.1.below hb7 H6.out.2.1.lt).free 1
                        simp at u0 u1
                        clear HK t0 t1
                        gi_wp2
                        exact ⟨HKK.out.1, fun j h1 h2 => HKK.out.2.1 j (by have := Hn.out; omega) (by have := Hn.out; omega), HKK.out.2.2, p', z', HFin.out.1, c + 1, g3, c3, HFin.out.2.1, _, HFin.out.2.2.1, ⟨hgB, hgC, by have := HG.out; have := Hn.out; have := K5.out.2.2.2.2.2; have := hb5.size; have := hb9.size; omega⟩, fun j hj => (by by_cases e : j = c <;> simp only [e, if_true, if_false] <;> first | exact HQ.out | exact HO.out j (by omega)), HE.out.1, HE.out.2.1, HE.out.2.2⟩
                      exact AllReadyIn.nil
                    exact AllReadyIn.nil
                  exact AllReadyIn.nil
                exact AllReadyIn.nil
              exact AllReadyIn.nil
            exact AllReadyIn.nil
          exact AllReadyIn.nil
        exact AllReadyIn.nil
      refine AllReadyIn.cons rfl (fun K hK => ?_) ?_
      · skip
        go_simp
        refine hK _ _ ?_
        clear hK K
        refine wpAnyIn_ready (rs := [0, 2]) (by kernel_rfl) (by simp) ?_
        refine AllReadyIn.cons rfl (fun K hK => ?_) ?_
        · skip
          go_simp
          refine hK _ _ ?_
          clear hK K
          refine wpAnyIn_ready (rs := [2]) (by kernel_rfl) (by simp) ?_
          refine AllReadyIn.cons rfl (fun K hK => ?_) ?_
          · skip
            go_simp
            refine hK _ _ ?_
            clear hK K
            refine wpAnyIn_ready (rs := [3]) (by kernel_rfl) (by simp) ?_
            refine AllReadyIn.cons rfl (fun K hK => ?_) ?_
            · skip
              go_simp
              refine hK _ _ ?_
              clear hK K
              refine wpAnyIn_ready (rs := [4]) (by kernel_rfl) (by simp) ?_
              refine AllReadyIn.cons rfl (fun K hK => ?_) ?_
              · skip
                go_simp
                refine hK _ _ ?_
                clear hK K
                refine wpAnyIn_ready (rs := [5]) (by kernel_rfl) (by simp) ?_
                refine AllReadyIn.cons rfl (fun K hK => ?_) ?_
                · skip
                  go_simp
                  gi_wp2_with (gi_at_call 52; refine (CallsIn.inRound l (callsIn_wide.2 (KC.out _))).mono ?_; rintro e w9 ⟨rfl, hb9'⟩; have hb9 := below_of_drew hb9'; clear hb9'; obtain ⟨g3, c3, w3, hrun, H3⟩ := app_one x (K6.out.2.2.1.below hb9) (K6.out.1.below hb9 K6.out.1.lt) (K6.out.2.1.below hb9 K6.out.2.1.lt) HG.out.1 HG.out.2.1 hc6; have HRUN : Hid _ := hrun; clear hrun; have l9 : C + 1 < w9.heap.size := Nat.lt_of_lt_of_le K6.out.2.1.lt hb9.size; have m1 := (K6.out.2.1.below hb9 K6.out.2.1.lt).cell 0; have m2 := ((K6.out.2.1.below hb9 K6.out.2.1.lt).alloc (.cells #[.string x] 9)).cell 0; have m3 := H3.out.2.2.1.cell 0; have f3 := H3.out.2.2.1.free 0; simp at m1 m2 m3)
                  refine wpAnyIn_ready (rs := [6]) (by kernel_rfl) (by simp) ?_
                  refine AllReadyIn.cons rfl (fun K hK => ?_) ?_
                  · skip
                    go_simp
                    refine hK _ _ ?_
                    clear hK K
                    refine wpAnyIn_ready (rs := [7]) (by kernel_rfl) (by simp) ?_
                    refine AllReadyIn.cons rfl (fun K hK => ?_) ?_
                    · skip
                      refine stepIn_append (by rfl) _ _ 37 (by rfl) 37 (by rfl) (.slice (some ⟨G, 0, none⟩) c cp) (.slice (some ⟨w9.heap.size, 0, none⟩) 1 1) (by rfl) (by rfl) _ _ HRUN.out ?_
                      go_simp
                      refine hK _ _ ?_
                      clear hK K
                      refine wpAnyIn_ready (rs := [8]) (by kernel_rfl) (by simp) ?_
                      refine AllReadyIn.cons rfl (fun K hK => ?_) ?_
                      · skip
                        go_simp
                        refine hK _ _ ?_
                        clear hK K
                        refine wpAnyIn_done (by kernel_rfl) ?_ _
                        have hw9 := l9
                        have hg3 := H3.out.2.2.2.1
                        have hgC : g3 ≠ C + 1 := by have := HG.out; omega
                        have hgB : g3 ≠ B + 1 := by have := HG.out; have := Hn.out; omega
                        have H6 : Hid _ := hd_step (v' := .slice (some ⟨g3, 0, none⟩) (c + 1) c3) H3.out.1 H3.out.2.1 H3.out.2.2.1 (by have := Hn.out; omega) hgC
                        have t0 := H6.out.2.1.cell 0
                        have t1 := H6.out.2.1.cell 1
                        simp at t0 t1
                        clear k1 k2 m1 m2 m3 f3
                        gi_wp2_with fail
                        refine (CallsIn.inRound l (callsIn_wide.2 (KA.out _))).mono ?_
                        rintro e w7 ⟨rfl, hb7⟩
                        have HFin := fin_step p' z' H6.out.1 H6.out.2.1 H6.out.2.2 hb7 hgB (by have := Hn.out; omega)
                        have HK := round_kept (N := w.heap.size) (C := C) hb5 hb9 H3.out.2.2.2.2 HFin.out.2.2.2 hg3 HG.out.2.2.1 (by have := Hn.out; omega) (by omega) (by have := K5.out.2.2.2.2.2; omega) K5.out.2.2.2.2.1 (by have := K5.out.2.2.2.2.2; have := Hn.out; omega) HG.out.2.2.2 (by have := Hn.out; omega) (by have := Hn.out; omega)
                        have HKK : Hid _ := HK
                        have u0 := (H6.out.2.1.below hb7 H6.out.2.1.lt).cell 0
                        have u1 := (H6.out.2.1.below hb7 H6.out.2.1.lt).cell 1
                        have v0 := (H6.out.2.1.below hb7 H6.out.2.1.lt).free 0
                        have v1 := (H6.out.2.1.below hb7 H6.out.2.1.lt).free 1
                        simp at u0 u1
                        clear HK t0 t1
                        gi_wp2
                        exact ⟨HKK.out.1, fun j h1 h2 => HKK.out.2.1 j (by have := Hn.out; omega) (by have := Hn.out; omega), HKK.out.2.2, p', z', HFin.out.1, c + 1, g3, c3, HFin.out.2.1, _, HFin.out.2.2.1, ⟨hgB, hgC, by have := HG.out; have := Hn.out; have := K5.out.2.2.2.2.2; have := hb5.size; have := hb9.size; omega⟩, fun j hj => (by by_cases e : j = c <;> simp only [e, if_true, if_false] <;> first | exact HQ.out | exact HO.out j (by omega)), HE.out.1, HE.out.2.1, HE.out.2.2⟩
                      exact AllReadyIn.nil
                    exact AllReadyIn.nil
                  exact AllReadyIn.nil
                exact AllReadyIn.nil
              exact AllReadyIn.nil
            exact AllReadyIn.nil
          exact AllReadyIn.nil
        refine AllReadyIn.cons rfl (fun K hK => ?_) ?_
        · skip
          go_simp
          refine hK _ _ ?_
          clear hK K
          refine wpAnyIn_ready (rs := [0, 3]) (by kernel_rfl) (by simp) ?_
          refine AllReadyIn.cons rfl (fun K hK => ?_) ?_
          · skip
            go_simp
            refine hK _ _ ?_
            clear hK K
            refine wpAnyIn_ready (rs := [3]) (by kernel_rfl) (by simp) ?_
            refine AllReadyIn.cons rfl (fun K hK => ?_) ?_
            · skip
              go_simp
              refine hK _ _ ?_
              clear hK K
              refine wpAnyIn_ready (rs := [4]) (by kernel_rfl) (by simp) ?_
              refine AllReadyIn.cons rfl (fun K hK => ?_) ?_
              · skip
                go_simp
                refine hK _ _ ?_
                clear hK K
                refine wpAnyIn_ready (rs := [5]) (by kernel_rfl) (by simp) ?_
                refine AllReadyIn.cons rfl (fun K hK => ?_) ?_
                · skip
                  go_simp
                  gi_wp2_with (gi_at_call 52; refine (CallsIn.inRound l (callsIn_wide.2 (KC.out _))).mono ?_; rintro e w9 ⟨rfl, hb9'⟩; have hb9 := below_of_drew hb9'; clear hb9'; obtain ⟨g3, c3, w3, hrun, H3⟩ := app_one x (K6.out.2.2.1.below hb9) (K6.out.1.below hb9 K6.out.1.lt) (K6.out.2.1.below hb9 K6.out.2.1.lt) HG.out.1 HG.out.2.1 hc6; have HRUN : Hid _ := hrun; clear hrun; have l9 : C + 1 < w9.heap.size := Nat.lt_of_lt_of_le K6.out.2.1.lt hb9.size; have m1 := (K6.out.2.1.below hb9 K6.out.2.1.lt).cell 0; have m2 := ((K6.out.2.1.below hb9 K6.out.2.1.lt).alloc (.cells #[.string x] 9)).cell 0; have m3 := H3.out.2.2.1.cell 0; have f3 := H3.out.2.2.1.free 0; simp at m1 m2 m3)
                  refine wpAnyIn_ready (rs := [6]) (by kernel_rfl) (by simp) ?_
                  refine AllReadyIn.cons rfl (fun K hK => ?_) ?_
                  · skip
                    go_simp
                    refine hK _ _ ?_
                    clear hK K
                    refine wpAnyIn_ready (rs := [7]) (by kernel_rfl) (by simp) ?_
                    refine AllReadyIn.cons rfl (fun K hK => ?_) ?_
                    · skip
                      refine stepIn_append (by rfl) _ _ 37 (by rfl) 37 (by rfl) (.slice (some ⟨G, 0, none⟩) c cp) (.slice (some ⟨w9.heap.size, 0, none⟩) 1 1) (by rfl) (by rfl) _ _ HRUN.out ?_
                      go_simp
                      refine hK _ _ ?_
                      clear hK K
                      refine wpAnyIn_ready (rs := [8]) (by kernel_rfl) (by simp) ?_
                      refine AllReadyIn.cons rfl (fun K hK => ?_) ?_
                      · skip
                        go_simp
                        refine hK _ _ ?_
                        clear hK K
                        refine wpAnyIn_done (by kernel_rfl) ?_ _
                        have hw9 := l9
                        have hg3 := H3.out.2.2.2.1
                        have hgC : g3 ≠ C + 1 := by have := HG.out; omega
                        have hgB : g3 ≠ B + 1 := by have := HG.out; have := Hn.out; omega
                        have H6 : Hid _ := hd_step (v' := .slice (some ⟨g3, 0, none⟩) (c + 1) c3) H3.out.1 H3.out.2.1 H3.out.2.2.1 (by have := Hn.out; omega) hgC
                        have t0 := H6.out.2.1.cell 0
                        have t1 := H6.out.2.1.cell 1
                        simp at t0 t1
                        clear k1 k2 m1 m2 m3 f3
                        gi_wp2_with fail
                        refine (CallsIn.inRound l (callsIn_wide.2 (KA.out _))).mono ?_
                        rintro e w7 ⟨rfl, hb7⟩
                        have HFin := fin_step p' z' H6.out.1 H6.out.2.1 H6.out.2.2 hb7 hgB (by have := Hn.out; omega)
                        have HK := round_kept (N := w.heap.size) (C := C) hb5 hb9 H3.out.2.2.2.2 HFin.out.2.2.2 hg3 HG.out.2.2.1 (by have := Hn.out; omega) (by omega) (by have := K5.out.2.2.2.2.2; omega) K5.out.2.2.2.2.1 (by have := K5.out.2.2.2.2.2; have := Hn.out; omega) HG.out.2.2.2 (by have := Hn.out; omega) (by have := Hn.out; omega)
                        have HKK : Hid _ := HK
                        have u0 := (H6.out.2.1.below hb7 H6.out.2.1.lt).cell 0
                        have u1 := (H6.out.2.1.below hb7 H6.out.2.1.lt).cell 1
                        have v0 := (H6.out.2.1.below hb7 H6.out.2.1.lt).free 0
                        have v1 := (H6.out.2.1.below hb7 H6.out.2.1.lt).free 1
                        simp at u0 u1
                        clear HK t0 t1
                        gi_wp2
                        exact ⟨HKK.out.1, fun j h1 h2 => HKK.out.2.1 j (by have := Hn.out; omega) (by have := Hn.out; omega), HKK.out.2.2, p', z', HFin.out.1, c + 1, g3, c3, HFin.out.2.1, _, HFin.out.2.2.1, ⟨hgB, hgC, by have := HG.out; have := Hn.out; have := K5.out.2.2.2.2.2; have := hb5.size; have := hb9.size; omega⟩, fun j hj => (by by_cases e : j = c <;> simp only [e, if_true, if_false] <;> first | exact HQ.out | exact HO.out j (by omega)), HE.out.1, HE.out.2.1, HE.out.2.2⟩
                      exact AllReadyIn.nil
                    exact AllReadyIn.nil
                  exact AllReadyIn.nil
                exact AllReadyIn.nil
              exact AllReadyIn.nil
            exact AllReadyIn.nil
          refine AllReadyIn.cons rfl (fun K hK => ?_) ?_
          · skip
            go_simp
            refine hK _ _ ?_
            clear hK K
            refine wpAnyIn_ready (rs := [0, 4]) (by kernel_rfl) (by simp) ?_
            refine AllReadyIn.cons rfl (fun K hK => ?_) ?_
            · skip
              go_simp
              refine hK _ _ ?_
              clear hK K
              refine wpAnyIn_ready (rs := [4]) (by kernel_rfl) (by simp) ?_
              refine AllReadyIn.cons rfl (fun K hK => ?_) ?_
              · skip
                go_simp
                refine hK _ _ ?_
                clear hK K
                refine wpAnyIn_ready (rs := [5]) (by kernel_rfl) (by simp) ?_
                refine AllReadyIn.cons rfl (fun K hK => ?_) ?_
                · skip
                  go_simp
                  gi_wp2_with (gi_at_call 52; refine (CallsIn.inRound l (callsIn_wide.2 (KC.out _))).mono ?_; rintro e w9 ⟨rfl, hb9'⟩; have hb9 := below_of_drew hb9'; clear hb9'; obtain ⟨g3, c3, w3, hrun, H3⟩ := app_one x (K6.out.2.2.1.below hb9) (K6.out.1.below hb9 K6.out.1.lt) (K6.out.2.1.below hb9 K6.out.2.1.lt) HG.out.1 HG.out.2.1 hc6; have HRUN : Hid _ := hrun; clear hrun; have l9 : C + 1 < w9.heap.size := Nat.lt_of_lt_of_le K6.out.2.1.lt hb9.size; have m1 := (K6.out.2.1.below hb9 K6.out.2.1.lt).cell 0; have m2 := ((K6.out.2.1.below hb9 K6.out.2.1.lt).alloc (.cells #[.string x] 9)).cell 0; have m3 := H3.out.2.2.1.cell 0; have f3 := H3.out.2.2.1.free 0; simp at m1 m2 m3)
                  refine wpAnyIn_ready (rs := [6]) (by kernel_rfl) (by simp) ?_
                  refine AllReadyIn.cons rfl (fun K hK => ?_) ?_
                  · skip
                    go_simp
                    refine hK _ _ ?_
                    clear hK K
                    refine wpAnyIn_ready (rs := [7]) (by kernel_rfl) (by simp) ?_
                    refine AllReadyIn.cons rfl (fun K hK => ?_) ?_
                    · skip
                      refine stepIn_append (by rfl) _ _ 37 (by rfl) 37 (by rfl) (.slice (some ⟨G, 0, none⟩) c cp) (.slice (some ⟨w9.heap.size, 0, none⟩) 1 1) (by rfl) (by rfl) _ _ HRUN.out ?_
                      go_simp
                      refine hK _ _ ?_
                      clear hK K
                      refine wpAnyIn_ready (rs := [8]) (by kernel_rfl) (by simp) ?_
                      refine AllReadyIn.cons rfl (fun K hK => ?_) ?_
                      · skip
                        go_simp
                        refine hK _ _ ?_
                        clear hK K
                        refine wpAnyIn_done (by kernel_rfl) ?_ _
                        have hw9 := l9
                        have hg3 := H3.out.2.2.2.1
                        have hgC : g3 ≠ C + 1 := by have := HG.out; omega
                        have hgB : g3 ≠ B + 1 := by have := HG.out; have := Hn.out; omega
                        have H6 : Hid _ := hd_step (v' := .slice (some ⟨g3, 0, none⟩) (c + 1) c3) H3.out.1 H3.out.2.1 H3.out.2.2.1 (by have := Hn.out; omega) hgC
                        have t0 := H6.out.2.1.cell 0
                        have t1 := H6.out.2.1.cell 1
                        simp at t0 t1
                        clear k1 k2 m1 m2 m3 f3
                        gi_wp2_with fail
                        refine (CallsIn.inRound l (callsIn_wide.2 (KA.out _))).mono ?_
                        rintro e w7 ⟨rfl, hb7⟩
                        have HFin := fin_step p' z' H6.out.1 H6.out.2.1 H6.out.2.2 hb7 hgB (by have := Hn.out; omega)
                        have HK := round_kept (N := w.heap.size) (C := C) hb5 hb9 H3.out.2.2.2.2 HFin.out.2.2.2 hg3 HG.out.2.2.1 (by have := Hn.out; omega) (by omega) (by have := K5.out.2.2.2.2.2; omega) K5.out.2.2.2.2.1 (by have := K5.out.2.2.2.2.2; have := Hn.out; omega) HG.out.2.2.2 (by have := Hn.out; omega) (by have := Hn.out; omega)
                        have HKK : Hid _ := HK
                        have u0 := (H6.out.2.1.below hb7 H6.out.2.1.lt).cell 0
                        have u1 := (H6.out.2.1.below hb7 H6.out.2.1.lt).cell 1
                        have v0 := (H6.out.2.1.below hb7 H6.out.2.1.lt).free 0
                        have v1 := (H6.out.2.1.below hb7 H6.out.2.1.lt).free 1
                        simp at u0 u1
                        clear HK t0 t1
                        gi_wp2
                        exact ⟨HKK.out.1, fun j h1 h2 => HKK.out.2.1 j (by have := Hn.out; omega) (by have := Hn.out; omega), HKK.out.2.2, p', z', HFin.out.1, c + 1, g3, c3, HFin.out.2.1, _, HFin.out.2.2.1, ⟨hgB, hgC, by have := HG.out; have := Hn.out; have := K5.out.2.2.2.2.2; have := hb5.size; have := hb9.size; omega⟩, fun j hj => (by by_cases e : j = c <;> simp only [e, if_true, if_false] <;> first | exact HQ.out | exact HO.out j (by omega)), HE.out.1, HE.out.2.1, HE.out.2.2⟩
                      exact AllReadyIn.nil
                    exact AllReadyIn.nil
                  exact AllReadyIn.nil
                exact AllReadyIn.nil
              exact AllReadyIn.nil
            refine AllReadyIn.cons rfl (fun K hK => ?_) ?_
            · skip
              go_simp
              refine hK _ _ ?_
              clear hK K
              refine wpAnyIn_ready (rs := [0, 5]) (by kernel_rfl) (by simp) ?_
              refine AllReadyIn.cons rfl (fun K hK => ?_) ?_
              · skip
                go_simp
                refine hK _ _ ?_
                clear hK K
                refine wpAnyIn_ready (rs := [5]) (by kernel_rfl) (by simp) ?_
                refine AllReadyIn.cons rfl (fun K hK => ?_) ?_
                · skip
                  go_simp
                  gi_wp2_with (gi_at_call 52; refine (CallsIn.inRound l (callsIn_wide.2 (KC.out _))).mono ?_; rintro e w9 ⟨rfl, hb9'⟩; have hb9 := below_of_drew hb9'; clear hb9'; obtain ⟨g3, c3, w3, hrun, H3⟩ := app_one x (K6.out.2.2.1.below hb9) (K6.out.1.below hb9 K6.out.1.lt) (K6.out.2.1.below hb9 K6.out.2.1.lt) HG.out.1 HG.out.2.1 hc6; have HRUN : Hid _ := hrun; clear hrun; have l9 : C + 1 < w9.heap.size := Nat.lt_of_lt_of_le K6.out.2.1.lt hb9.size; have m1 := (K6.out.2.1.below hb9 K6.out.2.1.lt).cell 0; have m2 := ((K6.out.2.1.below hb9 K6.out.2.1.lt).alloc (.cells #[.string x] 9)).cell 0; have m3 := H3.out.2.2.1.cell 0; have f3 := H3.out.2.2.1.free 0; simp at m1 m2 m3)
                  refine wpAnyIn_ready (rs := [6]) (by kernel_rfl) (by simp) ?_
                  refine AllReadyIn.cons rfl (fun K hK => ?_) ?_
                  · skip
                    go_simp
                    refine hK _ _ ?_
                    clear hK K
                    refine wpAnyIn_ready (rs := [7]) (by kernel_rfl) (by simp) ?_
                    refine AllReadyIn.cons rfl (fun K hK => ?_) ?_
                    · skip
                      refine stepIn_append (by rfl) _ _ 37 (by rfl) 37 (by rfl) (.slice (some ⟨G, 0, none⟩) c cp) (.slice (some ⟨w9.heap.size, 0, none⟩) 1 1) (by rfl) (by rfl) _ _ HRUN.out ?_
                      go_simp
                      refine hK _ _ ?_
                      clear hK K
                      refine wpAnyIn_ready (rs := [8]) (by kernel_rfl) (by simp) ?_
                      refine AllReadyIn.cons rfl (fun K hK => ?_) ?_
                      · skip
                        go_simp
                        refine hK _ _ ?_
                        clear hK K
                        refine wpAnyIn_done (by kernel_rfl) ?_ _
                        have hw9 := l9
                        have hg3 := H3.out.2.2.2.1
                        have hgC : g3 ≠ C + 1 := by have := HG.out; omega
                        have hgB : g3 ≠ B + 1 := by have := HG.out; have := Hn.out; omega
                        have H6 : Hid _ := hd_step (v' := .slice (some ⟨g3, 0, none⟩) (c + 1) c3) H3.out.1 H3.out.2.1 H3.out.2.2.1 (by have := Hn.out; omega) hgC
                        have t0 := H6.out.2.1.cell 0
                        have t1 := H6.out.2.1.cell 1
                        simp at t0 t1
                        clear k1 k2 m1 m2 m3 f3
                        gi_wp2_with fail
                        refine (CallsIn.inRound l (callsIn_wide.2 (KA.out _))).mono ?_
                        rintro e w7 ⟨rfl, hb7⟩
                        have HFin := fin_step p' z' H6.out.1 H6.out.2.1 H6.out.2.2 hb7 hgB (by have := Hn.out; omega)
                        have HK := round_kept (N := w.heap.size) (C := C) hb5 hb9 H3.out.2.2.2.2 HFin.out.2.2.2 hg3 HG.out.2.2.1 (by have := Hn.out; omega) (by omega) (by have := K5.out.2.2.2.2.2; omega) K5.out.2.2.2.2.1 (by have := K5.out.2.2.2.2.2; have := Hn.out; omega) HG.out.2.2.2 (by have := Hn.out; omega) (by have := Hn.out; omega)
                        have HKK : Hid _ := HK
                        have u0 := (H6.out.2.1.below hb7 H6.out.2.1.lt).cell 0
                        have u1 := (H6.out.2.1.below hb7 H6.out.2.1.lt).cell 1
                        have v0 := (H6.out.2.1.below hb7 H6.out.2.1.lt).free 0
                        have v1 := (H6.out.2.1.below hb7 H6.out.2.1.lt).free 1
                        simp at u0 u1
                        clear HK t0 t1
                        gi_wp2
                        exact ⟨HKK.out.1, fun j h1 h2 => HKK.out.2.1 j (by have := Hn.out; omega) (by have := Hn.out; omega), HKK.out.2.2, p', z', HFin.out.1, c + 1, g3, c3, HFin.out.2.1, _, HFin.out.2.2.1, ⟨hgB, hgC, by have := HG.out; have := Hn.out; have := K5.out.2.2.2.2.2; have := hb5.size; have := hb9.size; omega⟩, fun j hj => (by by_cases e : j = c <;> simp only [e, if_true, if_false] <;> first | exact HQ.out | exact HO.out j (by omega)), HE.out.1, HE.out.2.1, HE.out.2.2⟩
                      exact AllReadyIn.nil
                    exact AllReadyIn.nil
                  exact AllReadyIn.nil
                exact AllReadyIn.nil
              refine AllReadyIn.cons rfl (fun K hK => ?_) ?_
              · skip
                go_simp
                gi_wp2_with (gi_at_call 52; refine (CallsIn.inRound l (callsIn_wide.2 (KC.out _))).mono ?_; rintro e w9 ⟨rfl, hb9'⟩; have hb9 := below_of_drew hb9'; clear hb9'; obtain ⟨g3, c3, w3, hrun, H3⟩ := app_one x (K6.out.2.2.1.below hb9) (K6.out.1.below hb9 K6.out.1.lt) (K6.out.2.1.below hb9 K6.out.2.1.lt) HG.out.1 HG.out.2.1 hc6; have HRUN : Hid _ := hrun; clear hrun; have l9 : C + 1 < w9.heap.size := Nat.lt_of_lt_of_le K6.out.2.1.lt hb9.size; have m1 := (K6.out.2.1.below hb9 K6.out.2.1.lt).cell 0; have m2 := ((K6.out.2.1.below hb9 K6.out.2.1.lt).alloc (.cells #[.string x] 9)).cell 0; have m3 := H3.out.2.2.1.cell 0; have f3 := H3.out.2.2.1.free 0; simp at m1 m2 m3)
                refine wpAnyIn_ready (rs := [0, 6]) (by kernel_rfl) (by simp) ?_
                refine AllReadyIn.cons rfl (fun K hK => ?_) ?_
                · skip
                  go_simp
                  refine hK _ _ ?_
                  clear hK K
                  refine wpAnyIn_ready (rs := [6]) (by kernel_rfl) (by simp) ?_
                  refine AllReadyIn.cons rfl (fun K hK => ?_) ?_
                  · skip
                    go_simp
                    refine hK _ _ ?_
                    clear hK K
                    refine wpAnyIn_ready (rs := [7]) (by kernel_rfl) (by simp) ?_
                    refine AllReadyIn.cons rfl (fun K hK => ?_) ?_
                    · skip
                      refine stepIn_append (by rfl) _ _ 37 (by rfl) 37 (by rfl) (.slice (some ⟨G, 0, none⟩) c cp) (.slice (some ⟨w9.heap.size, 0, none⟩) 1 1) (by rfl) (by rfl) _ _ HRUN.out ?_
                      go_simp
                      refine hK _ _ ?_
                      clear hK K
                      refine wpAnyIn_ready (rs := [8]) (by kernel_rfl) (by simp) ?_
                      refine AllReadyIn.cons rfl (fun K hK => ?_) ?_
                      · skip
                        go_simp
                        refine hK _ _ ?_
                        clear hK K
                        refine wpAnyIn_done (by kernel_rfl) ?_ _
                        have hw9 := l9
                        have hg3 := H3.out.2.2.2.1
                        have hgC : g3 ≠ C + 1 := by have := HG.out; omega
                        have hgB : g3 ≠ B + 1 := by have := HG.out; have := Hn.out; omega
                        have H6 : Hid _ := hd_step (v' := .slice (some ⟨g3, 0, none⟩) (c + 1) c3) H3.out.1 H3.out.2.1 H3.out.2.2.1 (by have := Hn.out; omega) hgC
                        have t0 := H6.out.2.1.cell 0
                        have t1 := H6.out.2.1.cell 1
                        simp at t0 t1
                        clear k1 k2 m1 m2 m3 f3
                        gi_wp2_with fail
                        refine (CallsIn.inRound l (callsIn_wide.2 (KA.out _))).mono ?_
                        rintro e w7 ⟨rfl, hb7⟩
                        have HFin := fin_step p' z' H6.out.1 H6.out.2.1 H6.out.2.2 hb7 hgB (by have := Hn.out; omega)
                        have HK := round_kept (N := w.heap.size) (C := C) hb5 hb9 H3.out.2.2.2.2 HFin.out.2.2.2 hg3 HG.out.2.2.1 (by have := Hn.out; omega) (by omega) (by have := K5.out.2.2.2.2.2; omega) K5.out.2.2.2.2.1 (by have := K5.out.2.2.2.2.2; have := Hn.out; omega) HG.out.2.2.2 (by have := Hn.out; omega) (by have := Hn.out; omega)
                        have HKK : Hid _ := HK
                        have u0 := (H6.out.2.1.below hb7 H6.out.2.1.lt).cell 0
                        have u1 := (H6.out.2.1.below hb7 H6.out.2.1.lt).cell 1
                        have v0 := (H6.out.2.1.below hb7 H6.out.2.1.lt).free 0
                        have v1 := (H6.out.2.1.below hb7 H6.out.2.1.lt).free 1
                        simp at u0 u1
                        clear HK t0 t1
                        gi_wp2
                        exact ⟨HKK.out.1, fun j h1 h2 => HKK.out.2.1 j (by have := Hn.out; omega) (by have := Hn.out; omega), HKK.out.2.2, p', z', HFin.out.1, c + 1, g3, c3, HFin.out.2.1, _, HFin.out.2.2.1, ⟨hgB, hgC, by have := HG.out; have := Hn.out; have := K5.out.2.2.2.2.2; have := hb5.size; have := hb9.size; omega⟩, fun j hj => (by by_cases e : j = c <;> simp only [e, if_true, if_false] <;> first | exact HQ.out | exact HO.out j (by omega)), HE.out.1, HE.out.2.1, HE.out.2.2⟩
                      exact AllReadyIn.nil
                    exact AllReadyIn.nil
                  exact AllReadyIn.nil
                refine AllReadyIn.cons rfl (fun K hK => ?_) ?_
                · skip
                  go_simp
                  refine hK _ _ ?_
                  clear hK K
                  refine wpAnyIn_ready (rs := [0]) (by kernel_rfl) (by simp) ?_
                  refine AllReadyIn.cons rfl (fun K hK => ?_) ?_
                  · skip
                    go_simp
                    refine hK _ _ ?_
                    clear hK K
                    refine wpAnyIn_ready (rs := [7]) (by kernel_rfl) (by simp) ?_
                    refine AllReadyIn.cons rfl (fun K hK => ?_) ?_
                    · skip
                      refine stepIn_append (by rfl) _ _ 37 (by rfl) 37 (by rfl) (.slice (some ⟨G, 0, none⟩) c cp) (.slice (some ⟨w9.heap.size, 0, none⟩) 1 1) (by rfl) (by rfl) _ _ HRUN.out ?_
                      go_simp
                      refine hK _ _ ?_
                      clear hK K
                      refine wpAnyIn_ready (rs := [8]) (by kernel_rfl) (by simp) ?_
                      refine AllReadyIn.cons rfl (fun K hK => ?_) ?_
                      · skip
                        go_simp
                        refine hK _ _ ?_
                        clear hK K
                        refine wpAnyIn_done (by kernel_rfl) ?_ _
                        have hw9 := l9
                        have hg3 := H3.out.2.2.2.1
                        have hgC : g3 ≠ C + 1 := by have := HG.out; omega
                        have hgB : g3 ≠ B + 1 := by have := HG.out; have := Hn.out; omega
                        have H6 : Hid _ := hd_step (v' := .slice (some ⟨g3, 0, none⟩) (c + 1) c3) H3.out.1 H3.out.2.1 H3.out.2.2.1 (by have := Hn.out; omega) hgC
                        have t0 := H6.out.2.1.cell 0
                        have t1 := H6.out.2.1.cell 1
                        simp at t0 t1
                        clear k1 k2 m1 m2 m3 f3
                        gi_wp2_with fail
                        refine (CallsIn.inRound l (callsIn_wide.2 (KA.out _))).mono ?_
                        rintro e w7 ⟨rfl, hb7⟩
                        have HFin := fin_step p' z' H6.out.1 H6.out.2.1 H6.out.2.2 hb7 hgB (by have := Hn.out; omega)
                        have HK := round_kept (N := w.heap.size) (C := C) hb5 hb9 H3.out.2.2.2.2 HFin.out.2.2.2 hg3 HG.out.2.2.1 (by have := Hn.out; omega) (by omega) (by have := K5.out.2.2.2.2.2; omega) K5.out.2.2.2.2.1 (by have := K5.out.2.2.2.2.2; have := Hn.out; omega) HG.out.2.2.2 (by have := Hn.out; omega) (by have := Hn.out; omega)
                        have HKK : Hid _ := HK
                        have u0 := (H6.out.2.1.below hb7 H6.out.2.1.lt).cell 0
                        have u1 := (H6.out.2.1.below hb7 H6.out.2.1.lt).cell 1
                        have v0 := (H6.out.2.1.below hb7 H6.out.2.1.lt).free 0
                        have v1 := (H6.out.2.1.below hb7 H6.out.2.1.lt).free 1
                        simp at u0 u1
                        clear HK t0 t1
                        gi_wp2
                        exact ⟨HKK.out.1, fun j h1 h2 => HKK.out.2.1 j (by have := Hn.out; omega) (by have := Hn.out; omega), HKK.out.2.2, p', z', HFin.out.1, c + 1, g3, c3, HFin.out.2.1, _, HFin.out.2.2.1, ⟨hgB, hgC, by have := HG.out; have := Hn.out; have := K5.out.2.2.2.2.2; have := hb5.size; have := hb9.size; omega⟩, fun j hj => (by by_cases e : j = c <;> simp only [e, if_true, if_false] <;> first | exact HQ.out | exact HO.out j (by omega)), HE.out.1, HE.out.2.1, HE.out.2.2⟩
                      exact AllReadyIn.nil
                    exact AllReadyIn.nil
                  exact AllReadyIn.nil
                exact AllReadyIn.nil
              exact AllReadyIn.nil
            exact AllReadyIn.nil
          exact AllReadyIn.nil
        exact AllReadyIn.nil
      refine AllReadyIn.cons rfl (fun K hK => ?_) ?_
      · skip
        go_simp
        refine hK _ _ ?_
        clear hK K
        refine wpAnyIn_ready (rs := [0, 1]) (by kernel_rfl) (by simp) ?_
        refine AllReadyIn.cons rfl (fun K hK => ?_) ?_
        · skip
          go_simp
          refine hK _ _ ?_
          clear hK K
          refine wpAnyIn_ready (rs := [1]) (by kernel_rfl) (by simp) ?_
          refine AllReadyIn.cons rfl (fun K hK => ?_) ?_
          · skip
            go_simp
            refine hK _ _ ?_
            clear hK K
            refine wpAnyIn_ready (rs := [3]) (by kernel_rfl) (by simp) ?_
            refine AllReadyIn.cons rfl (fun K hK => ?_) ?_
            · skip
              go_simp
              refine hK _ _ ?_
              clear hK K
              refine wpAnyIn_ready (rs := [4]) (by kernel_rfl) (by simp) ?_
              refine AllReadyIn.cons rfl (fun K hK => ?_) ?_
              · skip
                go_simp
                refine hK _ _ ?_
                clear hK K
                refine wpAnyIn_ready (rs := [5]) (by kernel_rfl) (by simp) ?_
                refine AllReadyIn.cons rfl (fun K hK => ?_) ?_
                · skip
                  go_simp
                  gi_wp2_with (gi_at_call 52; refine (CallsIn.inRound l (callsIn_wide.2 (KC.out _))).mono ?_; rintro e w9 ⟨rfl, hb9'⟩; have hb9 := below_of_drew hb9'; clear hb9'; obtain ⟨g3, c3, w3, hrun, H3⟩ := app_one x (K6.out.2.2.1.below hb9) (K6.out.1.below hb9 K6.out.1.lt) (K6.out.2.1.below hb9 K6.out.2.1.lt) HG.out.1 HG.out.2.1 hc6; have HRUN : Hid _ := hrun; clear hrun; have l9 : C + 1 < w9.heap.size := Nat.lt_of_lt_of_le K6.out.2.1.lt hb9.size; have m1 := (K6.out.2.1.below hb9 K6.out.2.1.lt).cell 0; have m2 := ((K6.out.2.1.below hb9 K6.out.2.1.lt).alloc (.cells #[.string x] 9)).cell 0; have m3 := H3.out.2.2.1.cell 0; have f3 := H3.out.2.2.1.free 0; simp at m1 m2 m3)
                  refine wpAnyIn_ready (rs := [6]) (by kernel_rfl) (by simp) ?_
                  refine AllReadyIn.cons rfl (fun K hK => ?_) ?_
                  · skip
                    go_simp
                    refine hK _ _ ?_
                    clear hK K
                    refine wpAnyIn_ready (rs := [7]) (by kernel_rfl) (by simp) ?_
                    refine AllReadyIn.cons rfl (fun K hK => ?_) ?_
                    · skip
                      refine stepIn_append (by rfl) _ _ 37 (by rfl) 37 (by rfl) (.slice (some ⟨G, 0, none⟩) c cp) (.slice (some ⟨w9.heap.size, 0, none⟩) 1 1) (by rfl) (by rfl) _ _ HRUN.out ?_
                      go_simp
                      refine hK _ _ ?_
                      clear hK K
                      refine wpAnyIn_ready (rs := [8]) (by kernel_rfl) (by simp) ?_
                      refine AllReadyIn.cons rfl (fun K hK => ?_) ?_
                      · skip
                        go_simp
                        refine hK _ _ ?_
                        clear hK K
                        refine wpAnyIn_done (by kernel_rfl) ?_ _
                        have hw9 := l9
                        have hg3 := H3.out.2.2.2.1
                        have hgC : g3 ≠ C + 1 := by have := HG.out; omega
                        have hgB : g3 ≠ B + 1 := by have := HG.out; have := Hn.out; omega
                        have H6 : Hid _ := hd_step (v' := .slice (some ⟨g3, 0, none⟩) (c + 1) c3) H3.out.1 H3.out.2.1 H3.out.2.2.1 (by have := Hn.out; omega) hgC
                        have t0 := H6.out.2.1.cell 0
                        have t1 := H6.out.2.1.cell 1
                        simp at t0 t1
                        clear k1 k2 m1 m2 m3 f3
                        gi_wp2_with fail
                        refine (CallsIn.inRound l (callsIn_wide.2 (KA.out _))).mono ?_
                        rintro e w7 ⟨rfl, hb7⟩
                        have HFin := fin_step p' z' H6.out.1 H6.out.2.1 H6.out.2.2 hb7 hgB (by have := Hn.out; omega)
                        have HK := round_kept (N := w.heap.size) (C := C) hb5 hb9 H3.out.2.2.2.2 HFin.out.2.2.2 hg3 HG.out.2.2.1 (by have := Hn.out; omega) (by omega) (by have := K5.out.2.2.2.2.2; omega) K5.out.2.2.2.2.1 (by have := K5.out.2.2.2.2.2; have := Hn.out; omega) HG.out.2.2.2 (by have := Hn.out; omega) (by have := Hn.out; omega)
                        have HKK : Hid _ := HK
                        have u0 := (H6.out.2.1.below hb7 H6.out.2.1.lt).cell 0
                        have u1 := (H6.out.2.1.below hb7 H6.out.2.1.lt).cell 1
                        have v0 := (H6.out.2.1.below hb7 H6.out.2.1.lt).free 0
                        have v1 := (H6.out.2.1.below hb7 H6.out.2.1.lt).free 1
                        simp at u0 u1
                        clear HK t0 t1
                        gi_wp2
                        exact ⟨HKK.out.1, fun j h1 h2 => HKK.out.2.1 j (by have := Hn.out; omega) (by have := Hn.out; omega), HKK.out.2.2, p', z', HFin.out.1, c + 1, g3, c3, HFin.out.2.1, _, HFin.out.2.2.1, ⟨hgB, hgC, by have := HG.out; have := Hn.out; have := K5.out.2.2.2.2.2; have := hb5.size; have := hb9.size; omega⟩, fun j hj => (by by_cases e : j = c <;> simp only [e, if_true, if_false] <;> first | exact HQ.out | exact HO.out j (by omega)), HE.out.1, HE.out.2.1, HE.out.2.2⟩
                      exact AllReadyIn.nil
                    exact AllReadyIn.nil
                  exact AllReadyIn.nil
                exact AllReadyIn.nil
              exact AllReadyIn.nil
            exact AllReadyIn.nil
          exact AllReadyIn.nil
        refine AllReadyIn.cons rfl (fun K hK => ?_) ?_
        · skip
          go_simp
          refine hK _ _ ?_
          clear hK K
          refine wpAnyIn_ready (rs := [0, 3]) (by kernel_rfl) (by simp) ?_
          refine AllReadyIn.cons rfl (fun K hK => ?_) ?_
          · skip
            go_simp
            refine hK _ _ ?_
            clear hK K
            refine wpAnyIn_ready (rs := [3]) (by kernel_rfl) (by simp) ?_
            refine AllReadyIn.cons rfl (fun K hK => ?_) ?_
            · skip
              go_simp
              refine hK _ _ ?_
              clear hK K
              refine wpAnyIn_ready (rs := [4]) (by kernel_rfl) (by simp) ?_
              refine AllReadyIn.cons rfl (fun K hK => ?_) ?_
              · skip
                go_simp
                refine hK _ _ ?_
                clear hK K
                refine wpAnyIn_ready (rs := [5]) (by kernel_rfl) (by simp) ?_
                refine AllReadyIn.cons rfl (fun K hK => ?_) ?_
                · skip
                  go_simp
                  gi_wp2_with (gi_at_call 52; refine (CallsIn.inRound l (callsIn_wide.2 (KC.out _))).mono ?_; rintro e w9 ⟨rfl, hb9'⟩; have hb9 := below_of_drew hb9'; clear hb9'; obtain ⟨g3, c3, w3, hrun, H3⟩ := app_one x (K6.out.2.2.1.below hb9) (K6.out.1.below hb9 K6.out.1.lt) (K6.out.2.1.below hb9 K6.out.2.1.lt) HG.out.1 HG.out.2.1 hc6; have HRUN : Hid _ := hrun; clear hrun; have l9 : C + 1 < w9.heap.size := Nat.lt_of_lt_of_le K6.out.2.1.lt hb9.size; have m1 := (K6.out.2.1.below hb9 K6.out.2.1.lt).cell 0; have m2 := ((K6.out.2.1.below hb9 K6.out.2.1.lt).alloc (.cells #[.string x] 9)).cell 0; have m3 := H3.out.2.2.1.cell 0; have f3 := H3.out.2.2.1.free 0; simp at m1 m2 m3)
                  refine wpAnyIn_ready (rs := [6]) (by kernel_rfl) (by simp) ?_
                  refine AllReadyIn.cons rfl (fun K hK => ?_) ?_
                  · skip
                    go_simp
                    refine hK _ _ ?_
                    clear hK K
                    refine wpAnyIn_ready (rs := [7]) (by kernel_rfl) (by simp) ?_
                    refine AllReadyIn.cons rfl (fun K hK => ?_) ?_
                    · skip
                      refine stepIn_append (by rfl) _ _ 37 (by rfl) 37 (by rfl) (.slice (some ⟨G, 0, none⟩) c cp) (.slice (some ⟨w9.heap.size, 0, none⟩) 1 1) (by rfl) (by rfl) _ _ HRUN.out ?_
                      go_simp
                      refine hK _ _ ?_
                      clear hK K
                      refine wpAnyIn_ready (rs := [8]) (by kernel_rfl) (by simp) ?_
                      refine AllReadyIn.cons rfl (fun K hK => ?_) ?_
                      · skip
                        go_simp
                        refine hK _ _ ?_
                        clear hK K
                        refine wpAnyIn_done (by kernel_rfl) ?_ _
                        have hw9 := l9
                        have hg3 := H3.out.2.2.2.1
                        have hgC : g3 ≠ C + 1 := by have := HG.out; omega
                        have hgB : g3 ≠ B + 1 := by have := HG.out; have := Hn.out; omega
                        have H6 : Hid _ := hd_step (v' := .slice (some ⟨g3, 0, none⟩) (c + 1) c3) H3.out.1 H3.out.2.1 H3.out.2.2.1 (by have := Hn.out; omega) hgC
                        have t0 := H6.out.2.1.cell 0
                        have t1 := H6.out.2.1.cell 1
                        simp at t0 t1
                        clear k1 k2 m1 m2 m3 f3
                        gi_wp2_with fail
                        refine (CallsIn.inRound l (callsIn_wide.2 (KA.out _))).mono ?_
                        rintro e w7 ⟨rfl, hb7⟩
                        have HFin := fin_step p' z' H6.out.1 H6.out.2.1 H6.out.2.2 hb7 hgB (by have := Hn.out; omega)
                        have HK := round_kept (N := w.heap.size) (C := C) hb5 hb9 H3.out.2.2.2.2 HFin.out.2.2.2 hg3 HG.out.2.2.1 (by have := Hn.out; omega) (by omega) (by have := K5.out.2.2.2.2.2; omega) K5.out.2.2.2.2.1 (by have := K5.out.2.2.2.2.2; have := Hn.out; omega) HG.out.2.2.2 (by have := Hn.out; omega) (by have := Hn.out; omega)
                        have HKK : Hid _ := HK
                        have u0 := (H6.out.2.1.below hb7 H6.out.2.1.lt).cell 0
                        have u1 := (H6.out.2.1.below hb7 H6.out.2.1.lt).cell 1
                        have v0 := (H6.out.2.1.below hb7 H6.out.2.1.lt).free 0
                        have v1 := (H6.out.2.1.below hb7 H6.out.2.1.lt).free 1
                        simp at u0 u1
                        clear HK t0 t1
                        gi_wp2
                        exact ⟨HKK.out.1, fun j h1 h2 => HKK.out.2.1 j (by have := Hn.out; omega) (by have := Hn.out; omega), HKK.out.2.2, p', z', HFin.out.1, c + 1, g3, c3, HFin.out.2.1, _, HFin.out.2.2.1, ⟨hgB, hgC, by have := HG.out; have := Hn.out; have := K5.out.2.2.2.2.2; have := hb5.size; have := hb9.size; omega⟩, fun j hj => (by by_cases e : j = c <;> simp only [e, if_true, if_false] <;> first | exact HQ.out | exact HO.out j (by omega)), HE.out.1, HE.out.2.1, HE.out.2.2⟩
                      exact AllReadyIn.nil
                    exact AllReadyIn.nil
                  exact AllReadyIn.nil
                exact AllReadyIn.nil
              exact AllReadyIn.nil
            exact AllReadyIn.nil
          refine AllReadyIn.cons rfl (fun K hK => ?_) ?_
          · skip
            go_simp
            refine hK _ _ ?_
            clear hK K
            refine wpAnyIn_ready (rs := [0, 4]) (by kernel_rfl) (by simp) ?_
            refine AllReadyIn.cons rfl (fun K hK => ?_) ?_
            · skip
              go_simp
              refine hK _ _ ?_
              clear hK K
              refine wpAnyIn_ready (rs := [4]) (by kernel_rfl) (by simp) ?_
              refine AllReadyIn.cons rfl (fun K hK => ?_) ?_
              · skip
                go_simp
                refine hK _ _ ?_
                clear hK K
                refine wpAnyIn_ready (rs := [5]) (by kernel_rfl) (by simp) ?_
                refine AllReadyIn.cons rfl (fun K hK => ?_) ?_
                · skip
                  go_simp
                  gi_wp2_with (gi_at_call 52; refine (CallsIn.inRound l (callsIn_wide.2 (KC.out _))).mono ?_; rintro e w9 ⟨rfl, hb9'⟩; have hb9 := below_of_drew hb9'; clear hb9'; obtain ⟨g3, c3, w3, hrun, H3⟩ := app_one x (K6.out.2.2.1.below hb9) (K6.out.1.below hb9 K6.out.1.lt) (K6.out.2.1.below hb9 K6.out.2.1.lt) HG.out.1 HG.out.2.1 hc6; have HRUN : Hid _ := hrun; clear hrun; have l9 : C + 1 < w9.heap.size := Nat.lt_of_lt_of_le K6.out.2.1.lt hb9.size; have m1 := (K6.out.2.1.below hb9 K6.out.2.1.lt).cell 0; have m2 := ((K6.out.2.1.below hb9 K6.out.2.1.lt).alloc (.cells #[.string x] 9)).cell 0; have m3 := H3.out.2.2.1.cell 0; have f3 := H3.out.2.2.1.free 0; simp at m1 m2 m3)
                  refine wpAnyIn_ready (rs := [6]) (by kernel_rfl) (by simp) ?_
                  refine AllReadyIn.cons rfl (fun K hK => ?_) ?_
                  · skip
                    go_simp
                    refine hK _ _ ?_
                    clear hK K
                    refine wpAnyIn_ready (rs := [7]) (by kernel_rfl) (by simp) ?_
                    refine AllReadyIn.cons rfl (fun K hK => ?_) ?_
                    · skip
                      refine stepIn_append (by rfl) _ _ 37 (by rfl) 37 (by rfl) (.slice (some ⟨G, 0, none⟩) c cp) (.slice (some ⟨w9.heap.size, 0, none⟩) 1 1) (by rfl) (by rfl) _ _ HRUN.out ?_
                      go_simp
                      refine hK _ _ ?_
                      clear hK K
                      refine wpAnyIn_ready (rs := [8]) (by kernel_rfl) (by simp) ?_
                      refine AllReadyIn.cons rfl (fun K hK => ?_) ?_
                      · skip
                        go_simp
                        refine hK _ _ ?_
                        clear hK K
                        refine wpAnyIn_done (by kernel_rfl) ?_ _
                        have hw9 := l9
                        have hg3 := H3.out.2.2.2.1
                        have hgC : g3 ≠ C + 1 := by have := HG.out; omega
                        have hgB : g3 ≠ B + 1 := by have := HG.out; have := Hn.out; omega
                        have H6 : Hid _ := hd_step (v' := .slice (some ⟨g3, 0, none⟩) (c + 1) c3) H3.out.1 H3.out.2.1 H3.out.2.2.1 (by have := Hn.out; omega) hgC
                        have t0 := H6.out.2.1.cell 0
                        have t1 := H6.out.2.1.cell 1
                        simp at t0 t1
                        clear k1 k2 m1 m2 m3 f3
                        gi_wp2_with fail
                        refine (CallsIn.inRound l (callsIn_wide.2 (KA.out _))).mono ?_
                        rintro e w7 ⟨rfl, hb7⟩
                        have HFin := fin_step p' z' H6.out.1 H6.out.2.1 H6.out.2.2 hb7 hgB (by have := Hn.out; omega)
                        have HK := round_kept (N := w.heap.size) (C := C) hb5 hb9 H3.out.2.2.2.2 HFin.out.2.2.2 hg3 HG.out.2.2.1 (by have := Hn.out; omega) (by omega) (by have := K5.out.2.2.2.2.2; omega) K5.out.2.2.2.2.1 (by have := K5.out.2.2.2.2.2; have := Hn.out; omega) HG.out.2.2.2 (by have := Hn.out; omega) (by have := Hn.out; omega)
                        have HKK : Hid _ := HK
                        have u0 := (H6.out.2.1.below hb7 H6.out.2.1.lt).cell 0
                        have u1 := (H6.out.2.1.below hb7 H6.out.2.1.lt).cell 1
                        have v0 := (H6.out.2.1.below hb7 H6.out.2.1.lt).free 0
                        have v1 := (H6.out.2.1.below hb7 H6.out.2.1.lt).free 1
                        simp at u0 u1
                        clear HK t0 t1
                        gi_wp2
                        exact ⟨HKK.out.1, fun j h1 h2 => HKK.out.2.1 j (by have := Hn.out; omega) (by have := Hn.out; omega), HKK.out.2.2, p', z', HFin.out.1, c + 1, g3, c3, HFin.out.2.1, _, HFin.out.2.2.1, ⟨hgB, hgC, by have := HG.out; have := Hn.out; have := K5.out.2.2.2.2.2; have := hb5.size; have := hb9.size; omega⟩, fun j hj => (by by_cases e : j = c <;> simp only [e, if_true, if_false] <;> first | exact HQ.out | exact HO.out j (by omega)), HE.out.1, HE.out.2.1, HE.out.2.2⟩
                      exact AllReadyIn.nil
                    exact AllReadyIn.nil
                  exact AllReadyIn.nil
                exact AllReadyIn.nil
              exact AllReadyIn.nil
            refine AllReadyIn.cons rfl (fun K hK => ?_) ?_
            · skip
              go_simp
              refine hK _ _ ?_
              clear hK K
              refine wpAnyIn_ready (rs := [0, 5]) (by kernel_rfl) (by simp) ?_
              refine AllReadyIn.cons rfl (fun K hK => ?_) ?_
              · skip
                go_simp
                refine hK _ _ ?_
                clear hK K
                refine wpAnyIn_ready (rs := [5]) (by kernel_rfl) (by simp) ?_
                refine AllReadyIn.cons rfl (fun K hK => ?_) ?_
                · skip
                  go_simp
                  gi_wp2_with (gi_at_call 52; refine (CallsIn.inRound l (callsIn_wide.2 (KC.out _))).mono ?_; rintro e w9 ⟨rfl, hb9'⟩; have hb9 := below_of_drew hb9'; clear hb9'; obtain ⟨g3, c3, w3, hrun, H3⟩ := app_one x (K6.out.2.2.1.below hb9) (K6.out.1.below hb9 K6.out.1.lt) (K6.out.2.1.below hb9 K6.out.2.1.lt) HG.out.1 HG.out.2.1 hc6; have HRUN : Hid _ := hrun; clear hrun; have l9 : C + 1 < w9.heap.size := Nat.lt_of_lt_of_le K6.out.2.1.lt hb9.size; have m1 := (K6.out.2.1.below hb9 K6.out.2.1.lt).cell 0; have m2 := ((K6.out.2.1.below hb9 K6.out.2.1.lt).alloc (.cells #[.string x] 9)).cell 0; have m3 := H3.out.2.2.1.cell 0; have f3 := H3.out.2.2.1.free 0; simp at m1 m2 m3)
                  refine wpAnyIn_ready (rs := [6]) (by kernel_rfl) (by simp) ?_
                  refine AllReadyIn.cons rfl (fun K hK => ?_) ?_
                  · skip
                    go_simp
                    refine hK _ _ ?_
                    clear hK K
                    refine wpAnyIn_ready (rs := [7]) (by kernel_rfl) (by simp) ?_
                    refine AllReadyIn.cons rfl (fun K hK => ?_) ?_
                    · skip
                      refine stepIn_append (by rfl) _ _ 37 (by rfl) 37 (by rfl) (.slice (some ⟨G, 0, none⟩) c cp) (.slice (some ⟨w9.heap.size, 0, none⟩) 1 1) (by rfl) (by rfl) _ _ HRUN.out ?_
                      go_simp
                      refine hK _ _ ?_
                      clear hK K
                      refine wpAnyIn_ready (rs := [8]) (by kernel_rfl) (by simp) ?_
                      refine AllReadyIn.cons rfl (fun K hK => ?_) ?_
                      · skip
                        go_simp
                        refine hK _ _ ?_
                        clear hK K
                        refine wpAnyIn_done (by kernel_rfl) ?_ _
                        have hw9 := l9
                        have hg3 := H3.out.2.2.2.1
                        have hgC : g3 ≠ C + 1 := by have := HG.out; omega
                        have hgB : g3 ≠ B + 1 := by have := HG.out; have := Hn.out; omega
                        have H6 : Hid _ := hd_step (v' := .slice (some ⟨g3, 0, none⟩) (c + 1) c3) H3.out.1 H3.out.2.1 H3.out.2.2.1 (by have := Hn.out; omega) hgC
                        have t0 := H6.out.2.1.cell 0
                        have t1 := H6.out.2.1.cell 1
                        simp at t0 t1
                        clear k1 k2 m1 m2 m3 f3
                        gi_wp2_with fail
                        refine (CallsIn.inRound l (callsIn_wide.2 (KA.out _))).mono ?_
                        rintro e w7 ⟨rfl, hb7⟩
                        have HFin := fin_step p' z' H6.out.1 H6.out.2.1 H6.out.2.2 hb7 hgB (by have := Hn.out; omega)
                        have HK := round_kept (N := w.heap.size) (C := C) hb5 hb9 H3.out.2.2.2.2 HFin.out.2.2.2 hg3 HG.out.2.2.1 (by have := Hn.out; omega) (by omega) (by have := K5.out.2.2.2.2.2; omega) K5.out.2.2.2.2.1 (by have := K5.out.2.2.2.2.2; have := Hn.out; omega) HG.out.2.2.2 (by have := Hn.out; omega) (by have := Hn.out; omega)
                        have HKK : Hid _ := HK
                        have u0 := (H6.out.2.1.below hb7 H6.out.2.1.lt).cell 0
                        have u1 := (H6.out.2.1.below hb7 H6.out.2.1.lt).cell 1
                        have v0 := (H6.out.2.1.below hb7 H6.out.2.1.lt).free 0
                        have v1 := (H6.out.2.1.below hb7 H6.out.2.1.lt).free 1
                        simp at u0 u1
                        clear HK t0 t1
                        gi_wp2
                        exact ⟨HKK.out.1, fun j h1 h2 => HKK.out.2.1 j (by have := Hn.out; omega) (by have := Hn.out; omega), HKK.out.2.2, p', z', HFin.out.1, c + 1, g3, c3, HFin.out.2.1, _, HFin.out.2.2.1, ⟨hgB, hgC, by have := HG.out; have := Hn.out; have := K5.out.2.2.2.2.2; have := hb5.size; have := hb9.size; omega⟩, fun j hj => (by by_cases e : j = c <;> simp only [e, if_true, if_false] <;> first | exact HQ.out | exact HO.out j (by omega)), HE.out.1, HE.out.2.1, HE.out.2.2⟩
                      exact AllReadyIn.nil
                    exact AllReadyIn.nil
                  exact AllReadyIn.nil
                exact AllReadyIn.nil
              refine AllReadyIn.cons rfl (fun K hK => ?_) ?_
              · skip
                go_simp
                gi_wp2_with (gi_at_call 52; refine (CallsIn.inRound l (callsIn_wide.2 (KC.out _))).mono ?_; rintro e w9 ⟨rfl, hb9'⟩; have hb9 := below_of_drew hb9'; clear hb9'; obtain ⟨g3, c3, w3, hrun, H3⟩ := app_one x (K6.out.2.2.1.below hb9) (K6.out.1.below hb9 K6.out.1.lt) (K6.out.2.1.below hb9 K6.out.2.1.lt) HG.out.1 HG.out.2.1 hc6; have HRUN : Hid _ := hrun; clear hrun; have l9 : C + 1 < w9.heap.size := Nat.lt_of_lt_of_le K6.out.2.1.lt hb9.size; have m1 := (K6.out.2.1.below hb9 K6.out.2.1.lt).cell 0; have m2 := ((K6.out.2.1.below hb9 K6.out.2.1.lt).alloc (.cells #[.string x] 9)).cell 0; have m3 := H3.out.2.2.1.cell 0; have f3 := H3.out.2.2.1.free 0; simp at m1 m2 m3)
                refine wpAnyIn_ready (rs := [0, 6]) (by kernel_rfl) (by simp) ?_
                refine AllReadyIn.cons rfl (fun K hK => ?_) ?_
                · skip
                  go_simp
                  refine hK _ _ ?_
                  clear hK K
                  refine wpAnyIn_ready (rs := [6]) (by kernel_rfl) (by simp) ?_
                  refine AllReadyIn.cons rfl (fun K hK => ?_) ?_
                  · skip
                    go_simp
                    refine hK _ _ ?_
                    clear hK K
                    refine wpAnyIn_ready (rs := [7]) (by kernel_rfl) (by simp) ?_
                    refine AllReadyIn.cons rfl (fun K hK => ?_) ?_
                    · skip
                      refine stepIn_append (by rfl) _ _ 37 (by rfl) 37 (by rfl) (.slice (some ⟨G, 0, none⟩) c cp) (.slice (some ⟨w9.heap.size, 0, none⟩) 1 1) (by rfl) (by rfl) _ _ HRUN.out ?_
                      go_simp
                      refine hK _ _ ?_
                      clear hK K
                      refine wpAnyIn_ready (rs := [8]) (by kernel_rfl) (by simp) ?_
                      refine AllReadyIn.cons rfl (fun K hK => ?_) ?_
                      · skip
                        go_simp
                        refine hK _ _ ?_
                        clear hK K
                        refine wpAnyIn_done (by kernel_rfl) ?_ _
                        have hw9 := l9
                        have hg3 := H3.out.2.2.2.1
                        have hgC : g3 ≠ C + 1 := by have := HG.out; omega
                        have hgB : g3 ≠ B + 1 := by have := HG.out; have := Hn.out; omega
                        have H6 : Hid _ := hd_step (v' := .slice (some ⟨g3, 0, none⟩) (c + 1) c3) H3.out.1 H3.out.2.1 H3.out.2.2.1 (by have := Hn.out; omega) hgC
                        have t0 := H6.out.2.1.cell 0
                        have t1 := H6.out.2.1.cell 1
                        simp at t0 t1
                        clear k1 k2 m1 m2 m3 f3
                        gi_wp2_with fail
                        refine (CallsIn.inRound l (callsIn_wide.2 (KA.out _))).mono ?_
                        rintro e w7 ⟨rfl, hb7⟩
                        have HFin := fin_step p' z' H6.out.1 H6.out.2.1 H6.out.2.2 hb7 hgB (by have := Hn.out; omega)
                        have HK := round_kept (N := w.heap.size) (C := C) hb5 hb9 H3.out.2.2.2.2 HFin.out.2.2.2 hg3 HG.out.2.2.1 (by have := Hn.out; omega) (by omega) (by have := K5.out.2.2.2.2.2; omega) K5.out.2.2.2.2.1 (by have := K5.out.2.2.2.2.2; have := Hn.out; omega) HG.out.2.2.2 (by have := Hn.out; omega) (by have := Hn.out; omega)
                        have HKK : Hid _ := HK
                        have u0 := (H6.out.2.1.below hb7 H6.out.2.1.lt).cell 0
                        have u1 := (H6.out.2.1.below hb7 H6.out.2.1.lt).cell 1
                        have v0 := (H6.out.2.1.below hb7 H6.out.2.1.lt).free 0
                        have v1 := (H6.out.2.1.below hb7 H6.out.2.1.lt).free 1
                        simp at u0 u1
                        clear HK t0 t1
                        gi_wp2
                        exact ⟨HKK.out.1, fun j h1 h2 => HKK.out.2.1 j (by have := Hn.out; omega) (by have := Hn.out; omega), HKK.out.2.2, p', z', HFin.out.1, c + 1, g3, c3, HFin.out.2.1, _, HFin.out.2.2.1, ⟨hgB, hgC, by have := HG.out; have := Hn.out; have := K5.out.2.2.2.2.2; have := hb5.size; have := hb9.size; omega⟩, fun j hj => (by by_cases e : j = c <;> simp only [e, if_true, if_false] <;> first | exact HQ.out | exact HO.out j (by omega)), HE.out.1, HE.out.2.1, HE.out.2.2⟩
                      exact AllReadyIn.nil
                    exact AllReadyIn.nil
                  exact AllReadyIn.nil
                refine AllReadyIn.cons rfl (fun K hK => ?_) ?_
                · skip
                  go_simp
                  refine hK _ _ ?_
                  clear hK K
                  refine wpAnyIn_ready (rs := [0]) (by kernel_rfl) (by simp) ?_
                  refine AllReadyIn.cons rfl (fun K hK => ?_) ?_
                  · skip
                    go_simp
                    refine hK _ _ ?_
                    clear hK K
                    refine wpAnyIn_ready (rs := [7]) (by kernel_rfl) (by simp) ?_
                    refine AllReadyIn.cons rfl (fun K hK => ?_) ?_
                    · skip
                      refine stepIn_append (by rfl) _ _ 37 (by rfl) 37 (by rfl) (.slice (some ⟨G, 0, none⟩) c cp) (.slice (some ⟨w9.heap.size, 0, none⟩) 1 1) (by rfl) (by rfl) _ _ HRUN.out ?_
                      go_simp
                      refine hK _ _ ?_
                      clear hK K
                      refine wpAnyIn_ready (rs := [8]) (by kernel_rfl) (by simp) ?_
                      refine AllReadyIn.cons rfl (fun K hK => ?_) ?_
                      · skip
                        go_simp
                        refine hK _ _ ?_
                        clear hK K
                        refine wpAnyIn_done (by kernel_rfl) ?_ _
                        have hw9 := l9
                        have hg3 := H3.out.2.2.2.1
                        have hgC : g3 ≠ C + 1 := by have := HG.out; omega
                        have hgB : g3 ≠ B + 1 := by have := HG.out; have := Hn.out; omega
                        have H6 : Hid _ := hd_step (v' := .slice (some ⟨g3, 0, none⟩) (c + 1) c3) H3.out.1 H3.out.2.1 H3.out.2.2.1 (by have := Hn.out; omega) hgC
                        have t0 := H6.out.2.1.cell 0
                        have t1 := H6.out.2.1.cell 1
                        simp at t0 t1
                        clear k1 k2 m1 m2 m3 f3
                        gi_wp2_with fail
                        refine (CallsIn.inRound l (callsIn_wide.2 (KA.out _))).mono ?_
                        rintro e w7 ⟨rfl, hb7⟩
                        have HFin := fin_step p' z' H6.out.1 H6.out.2.1 H6.out.2.2 hb7 hgB (by have := Hn.out; omega)
                        have HK := round_kept (N := w.heap.size) (C := C) hb5 hb9 H3.out.2.2.2.2 HFin.out.2.2.2 hg3 HG.out.2.2.1 (by have := Hn.out; omega) (by omega) (by have := K5.out.2.2.2.2.2; omega) K5.out.2.2.2.2.1 (by have := K5.out.2.2.2.2.2; have := Hn.out; omega) HG.out.2.2.2 (by have := Hn.out; omega) (by have := Hn.out; omega)
                        have HKK : Hid _ := HK
                        have u0 := (H6.out.2.1.below hb7 H6.out.2.1.lt).cell 0
                        have u1 := (H6.out.2.1.below hb7 H6.out.2.1.lt).cell 1
                        have v0 := (H6.out.2.1.below hb7 H6.out.2.1.lt).free 0
                        have v1 := (H6.out.2.1.below hb7 H6.out.2.1.lt).free 1
                        simp at u0 u1
                        clear HK t0 t1
                        gi_wp2
                        exact ⟨HKK.out.1, fun j h1 h2 => HKK.out.2.1 j (by have := Hn.out; omega) (by have := Hn.out; omega), HKK.out.2.2, p', z', HFin.out.1, c + 1, g3, c3, HFin.out.2.1, _, HFin.out.2.2.1, ⟨hgB, hgC, by have := HG.out; have := Hn.out; have := K5.out.2.2.2.2.2; have := hb5.size; have := hb9.size; omega⟩, fun j hj => (by by_cases e : j = c <;> simp only [e, if_true, if_false] <;> first | exact HQ.out | exact HO.out j (by omega)), HE.out.1, HE.out.2.1, HE.out.2.2⟩
                      exact AllReadyIn.nil
                    exact AllReadyIn.nil
                  exact AllReadyIn.nil
                exact AllReadyIn.nil
              exact AllReadyIn.nil
            exact AllReadyIn.nil
          exact AllReadyIn.nil
        exact AllReadyIn.nil
      exact AllReadyIn.nil
    · have KN : Hid (∀ w0, Calls Try.prog 121 #[SpV (p : Int) (z : Int)] w0 fun e w' => e = .returned (.tuple #[.int .i64 ((nb p : Nat) : Int), .bool false]) ∧ Below w0.heap.size w0 w') := fun w0 => by
        have := neighbour_any p z w0 (by omega)
        rw [show decide (nb p < z) = false by simpa using hnb] at this
        exact this
      have HE : Hid (((rNx (false, z, T')).1 = false → z' = (rNx (false, z, T')).2.1 ∧ p' < (rNx (false, z, T')).2.1 ∧ c + pl p' (rNx (false, z, T')).2.1 = L ∧ ∀ j, pf (rNx (false, z, T')).2.1 (rNx (false, z, T')).2.2 p' j = PF (c + j)) ∧ ((rNx (false, z, T')).1 = true → c = L)) := by
        have hcl := HC0.out
        show _ ∧ _
        unfold rNx
        by_cases hz1 : z ≤ 1
        · rw [if_pos hz1]
          rw [Gt.pl_one p hz1] at hcl
          exact ⟨fun e => (by cases e), fun _ => by omega⟩
        · rw [if_neg hz1]
          rw [Gt.pl_no p hz1 hnb, hp', hz'] at hcl
          refine ⟨fun _ => ⟨hz'.symm, ?_, ?_, fun j => ?_⟩, fun e => (by cases e)⟩
          · show p' < hf z; rw [← hp']; unfold hf; omega
          · show c + pl p' (hf z) = L; rw [hz']; omega
          · show pf (hf z) (up z T') p' j = _
            rw [← hp', ← Gt.pf_no T' p j hz1 hnb, HP.out]
      generalize nb p = q at KN
      clear hp' hz' HC0 HP hnb
      gi_wp2_with fail
      refine (CallsIn.inRound l (callsIn_wide.2 (KN.out _))).mono ?_
      rintro e w5 ⟨rfl, hb5⟩
      have K6 : Hid (OwnT w5 w.heap.size (some ⟨G, 0, none⟩) c cp O ∧ Row w5 (B + 1) 141 #[.int .i64 (p : Int), .int .i64 (z : Int)] ∧ Row w5 (C + 1) 37 #[.slice (some ⟨G, 0, none⟩) c cp]) := by
        obtain ⟨a1, a2, a3, a4, a5, a6⟩ := K5.out
        exact ⟨a3.below hb5, a1.below hb5 a1.lt, a2.below hb5 a2.lt⟩
      have t0 := K6.out.2.1.cell 0
      have t1 := K6.out.2.1.cell 1
      simp at t0 t1
      clear c0 c1
      gi_wp2_with fail
      refine (CallsIn.inRound l (callsIn_wide.2 (KA.out _))).mono ?_
      rintro e w7 ⟨rfl, hb7⟩
      have HFin := fin_step p' z' K6.out.1 K6.out.2.1 K6.out.2.2 hb7 HG.out.1 (by have := Hn.out; omega)
      have HKK : Hid (Kp (fun j => j = G ∨ j = B + 1 ∨ j = C + 1) W2 ((w7.setCell ⟨B + 1, 0, none⟩ (.int .i64 (p' : Int))).setCell ⟨B + 1, 1, none⟩ (.int .i64 (z' : Int)))) := (Kp.below hb5).trans HFin.out.2.2.2
      have u0 := (K6.out.2.1.below hb7 K6.out.2.1.lt).cell 0
      have u1 := (K6.out.2.1.below hb7 K6.out.2.1.lt).cell 1
      have v0 := (K6.out.2.1.below hb7 K6.out.2.1.lt).free 0
      have v1 := (K6.out.2.1.below hb7 K6.out.2.1.lt).free 1
      simp at u0 u1
      clear t0 t1
      gi_wp2
      exact ⟨HKK.out.size, fun j h1 h2 => HKK.out.block j (by have := K5.out.2.2.2.2.2; have := Hn.out; omega) (by have := Hn.out; have := HG.out; omega), HKK.out.base K5.out.2.2.2.2.1 (by have := K5.out.2.2.2.2.2; have := Hn.out; omega) (fun j hj => by have := Hn.out; have := HG.out; omega), p', z', HFin.out.1, c, G, cp, HFin.out.2.1, O, HFin.out.2.2.1, ⟨HG.out.1, HG.out.2.1, HG.out.2.2.1⟩, HO.out, by omega, HE.out.1, HE.out.2⟩
  case done =>
    rintro s W hf ⟨hb, p, z, c, G, cp, O, r1, r2, ho, hG, hO, hc, _, ht⟩ hK
    have hcL : c = L := ht hf
    subst hcL
    have e0 := r2.cell 0
    simp at e0
    have HR : Hid (OwnT W w.heap.size (some ⟨G, 0, none⟩) c cp PF) := ho.congr hO
    clear ho
    go_wp2
    refine ⟨by simp, .inl ⟨_, _, rfl, run_takeDeferred hK, ?_⟩⟩
    refine ⟨_, results_tmp2 rfl _ _ _, _, rfl, ⟨_, _, rfl, ?_⟩, below_grown hb (grownBy_put _ _ _) hb.size (by have := HN.out; omega)⟩
    exact own_kept HR.out (grownBy_put _ _ _) (fun x e => by cases e; have := HN.out.2.2.2.2.2; simp; omega)
end Go.Proofs.Ytcnigfejpfcfaaa

/- A leaf's proof, in the model; what the program answers in one contract. Conditions: at most 2^20 texts. -/
namespace Go.Proofs.Ytcnigfejpfcfaaa
set_option maxRecDepth 2000
open Go.ChangeShapes Go.WideShapes Go.ChangeAt Go.RowKit
open Gt (hf up nb pl pf)

theorem pfB_parts {n : Nat} {S : Nat → ByteArray} {i : Int} (h : pfB n S i = true) : lvB n S = true ∧ inT i (n : Int) = true := by
  unfold pfB at h
  rwa [Bool.and_eq_true] at h
theorem pfR_le (n : Nat) (S : Nat → ByteArray) (i : Int) : pfR n S i ≤ 16 := by
  unfold pfR
  by_cases h : pfB n S i = true
  · rw [if_pos h]
    have h64 := (lvB_parts (pfB_parts h).1).2.1
    have := Gt.pl_le 6 i.toNat n (by omega)
    omega
  · rw [if_neg h]; omega
theorem proof_any (a : Option Addr) (n cap : Nat) (S : Nat → ByteArray) (i : Int) (w : World) (h : TxtAt w a n S) (hn : n ≤ 1048576) (hL : ∀ i, i < n → (S i).size ≤ maxLen) :
    Calls Try.prog 96 #[.slice a n cap, .int .i64 i] w fun e w' => ∃ v, e = .returned (.tuple #[v, .bool (pfB n S i)]) ∧ ResT w w' v (pfR n S i) (pfF n S i) ∧ Below w.heap.size w w' := by
  unfold pfR
  cases hB : pfB n S i with
  | false => exact proof_no a n cap S i w h hn hL hB
  | true =>
    obtain ⟨h1, h2⟩ := pfB_parts hB
    obtain ⟨i', rfl⟩ : ∃ i' : Nat, i = (i' : Int) := ⟨i.toNat, by simp [inT] at h2; omega⟩
    exact proof_yes a n cap S i' w h h1 h2

set_option maxHeartbeats 4000000 in
theorem sProof_any (a : Option Addr) (n cap : Nat) (S : Nat → ByteArray) (i : Int) (w : World) (h : TxtAt w a n S) (hn : n ≤ 1048576) (hL : ∀ i, i < n → (S i).size ≤ maxLen) :
    Calls Try.prog 88 #[.slice a n cap, .int .i64 i] w fun e w' => ∃ v, e = .returned (.tuple #[v, .bool (pfB n S i)]) ∧ ResT w w' v (pfR n S i) (pfF n S i) ∧ Below w.heap.size w w' := by
  have hb0 : Below w.heap.size w (w.alloc (.cells #[] 9)) := (Below.refl _ _).alloc (Nat.le_refl _) _
  have KV : Hid (Calls Try.prog 107 #[.slice a n cap] (w.alloc (.cells #[] 9)) fun e w' => e = .returned (.bool (lvB n S)) ∧ w' = w.alloc (.cells #[] 9)) := sLeaves_any a n cap S _ (h.below hb0) hn hL
  obtain ⟨PF, HPF⟩ : ∃ PF, Hid (pfF n S i = PF) := ⟨_, rfl⟩
  have KL0 : Hid (OwnT (w.alloc (.cells #[] 9)) w.heap.size (some ⟨w.heap.size, 0, none⟩) 0 0 PF) := litT w _
  have KB0 : Hid (Below w.heap.size w (w.alloc (.cells #[] 9))) := hb0
  rw [HPF.out]
  unfold pfR
  cases hV : lvB n S with
  | false =>
    rw [hV] at KV
    have hB : pfB n S i = false := by unfold pfB; rw [hV]; rfl
    rw [hB]
    clear h hL hB hV hb0
    go_enter Try.func88, Try.ntmps88
    go_wp2_with (go_at_call 107; refine KV.out.mono ?_; rintro e w' ⟨rfl, hw⟩; obtain rfl := hw.symm)
    go_ret2
    exact ⟨_, rfl, ⟨_, _, rfl, KL0.out⟩, KB0.out⟩
  | true =>
    rw [hV] at KV
    obtain ⟨h1, h64, h16⟩ := lvB_parts hV
    have hw1 : IntKind.i64.wrap ((n : Int) - 1) = (n : Int) - 1 := by rw [IntKind.wrap_i64]; omega
    by_cases hin : 0 ≤ i ∧ i ≤ (n : Int) - 1
    · have KI : inB i 0 ((n : Int) - 1) = true := inB_true hin
      obtain ⟨i', rfl⟩ : ∃ i' : Nat, i = (i' : Int) := ⟨i.toNat, by omega⟩
      have hB : pfB n S (i' : Int) = true := by unfold pfB; rw [hV]; simp [inT]; omega
      rw [hB, if_pos rfl]
      simp only [Int.toNat_natCast]
      obtain ⟨L, HL⟩ : ∃ L, Hid (pl i' n = L) := ⟨_, rfl⟩
      have hL6 : L ≤ 6 := by rw [← HL.out]; exact Gt.pl_le 6 _ _ (by omega)
      rw [HL.out]
      have HP0 : Hid (∀ j, pf n S i' j = PF j) := fun j => by rw [← HPF.out]; rfl
      obtain ⟨i0, hi, hz0, hz1, hz2⟩ := info_parts Try.infoStr
      obtain ⟨b, off, rfl, hcw⟩ := h.some (by omega)
      have lbw : b < w.heap.size := block_lt_of_cell (hcw 0 (by omega))
      obtain ⟨w1, HW1⟩ : ∃ w1, Hid (w1 = w.alloc (.cells #[] 9)) := ⟨_, rfl⟩
      rw [← HW1.out] at KV KL0 KB0
      have hs1 : Hid (w1.heap.size = w.heap.size + 1) := by show _ = _; rw [HW1.out]; simp
      have HN : Hid (∀ j u, (sL S n)[j]? = some u → (w1.alloc (.cells #[] 9)).cell? ((⟨b, off, none⟩ : Addr).add j) = some u) := sL_news (fun i hi => by
        have hb : Below w.heap.size w (w1.alloc (.cells #[] 9)) := KB0.out.alloc (by have := hs1.out; omega) _
        exact (hb.cell (p := ⟨b, off + i, none⟩) lbw).trans (hcw i hi))
      have KL : Hid (OwnT (w1.alloc (.cells #[] 9)) w1.heap.size (some ⟨w1.heap.size, 0, none⟩) 0 0 S) := litT w1 _
      have H1 : Hid (∀ u ∈ sL S n, u.oneCell' = true) := sL_one S n
      have H16 : Hid (∀ i, i < n → (S i).size = 16) := h16
      clear h hL hB hV hb0 hcw h16
      go_enter Try.func88, Try.ntmps88
      go_wp2_with fail
      rw [← HW1.out]
      go_wp2_with (first | (go_at_call 107; refine KV.out.mono ?_; rintro e w' ⟨rfl, hw⟩; obtain rfl := hw.symm) | (go_at_call 26; refine (sIn_any _ _ _ _).mono ?_; rintro e w' ⟨rfl, hw⟩; obtain rfl := hw.symm) | (at_builtin; refine wpList_append_lies _ (by rfl) _ _ 37 (by rfl) w1.heap.size 9 i0 (.string ByteArray.empty) 1 16 Try.underlying37 hi hz0 hz1 hz2 rfl (by decide) (.slice (some ⟨w1.heap.size, 0, none⟩) 0 0) 0 _ (by rfl) KL.out ⟨b, off, none⟩ n cap (sL S n) (by rfl) (by rw [sL_len]; omega) HN.out H1.out (by omega) (by unfold maxLen; omega) (by omega) (by simp) (w1.heap.size + 1) (by simp) ?_; intro g3 cap3 w3 hown3 hgrow3 hat3 hlt3))
      have HS0 : Hid (OwnT w3 w.heap.size (some ⟨g3, 0, none⟩) n cap3 S ∧ OwnT w3 w.heap.size (some ⟨w.heap.size, 0, none⟩) 0 0 PF ∧ Below w.heap.size w w3 ∧ g3 ≠ w.heap.size) := by
        have hz := hs1.out
        have hgr : World.grownBy (w1.alloc (.cells #[] 9)) w3 (some w1.heap.size) := hgrow3
        have hx : sL S 0 ++ sL S n = sL S n := rfl
        rw [hx, Nat.zero_add] at hown3
        refine ⟨OwnT.base hown3 (by omega), own_kept (World.ownsRow.alloc KL0.out _) hgr (fun x e => by cases e; simp; omega), (KB0.out.alloc (by omega) _).grown hgr (by simp; omega) (fun j hj => by cases hj; omega), ?_⟩
        rcases hat3 with e | e
        · have e' : some w1.heap.size = some g3 := e; cases e'; omega
        · omega
      clear hown3 hgrow3 hat3 hlt3 KL HN H1 KV KL0 KB0 hs1
      try simp only [Nat.zero_add]
      go_loopg [1, 6, 7] n (fun gk vi vo vr wr => ∃ (m G c p Go k co : Nat) (R O : Nat → ByteArray), m = gk ∧ p < m ∧ m ≤ 64 ∧ vi = .int .i64 (p : Int) ∧ vo = .slice (some ⟨Go, 0, none⟩) k co ∧ vr = .slice (some ⟨G, 0, none⟩) m c ∧ OwnT wr w.heap.size (some ⟨G, 0, none⟩) m c R ∧ OwnT wr w.heap.size (some ⟨Go, 0, none⟩) k co O ∧ G ≠ Go ∧ k ≤ L ∧ Hid (∀ j, j < k → O j = PF j) ∧ Hid (k + pl p m = L) ∧ Hid (∀ j, pf m R p j = PF (k + j)) ∧ Hid (∀ i, i < m → (R i).size = 16) ∧ Below w.heap.size w wr)
      case atStart => exact ⟨n, g3, cap3, i', w.heap.size, 0, 0, S, PF, rfl, by omega, h64, rfl, rfl, rfl, HS0.out.1, HS0.out.2.1, HS0.out.2.2.2, by omega, fun j hj => by omega, by show 0 + _ = _; rw [Nat.zero_add]; exact HL.out, fun j => by rw [Nat.zero_add]; exact HP0.out j, H16, HS0.out.2.2.1⟩
      case round =>
        obtain ⟨m, G, c, p, Go, k, co, R, O, rfl, hp, hm64, rfl, rfl, rfl, hoR, hoO, hGG, hkL, HO, HC, HP, HS, hbel⟩ := hrel
        clear HS0 H16 HL HP0 hin hw1
        have hsz := hbel.size
        by_cases e1 : m ≤ 1
        · have e1' : ¬ (1 : Int) < (m : Int) := by omega
          have HE : Hid (OwnT wr w.heap.size (some ⟨Go, 0, none⟩) L co PF) := by
            have := HC.out
            rw [Gt.pl_one p e1] at this
            have hkk : k = L := by omega
            rw [← hkk]
            exact hoO.congr HO.out
          have Hk : Hid (k = L) := by
            have := HC.out
            rw [Gt.pl_one p e1] at this
            show _ = _
            omega
          clear hoR hoO
          go_wp2
          go_ret2
          exact ⟨_, rfl, ⟨_, _, by rw [← Hk.out]; rfl, HE.out⟩, hbel⟩
        · have e1' : (1 : Int) < (m : Int) := by omega
          obtain ⟨u1, u2, u3, u4, u5, u6, u7, u8, u9⟩ := up_nums p m hp hm64
          have hlt : p / 2 < hf m ∧ hf m < m := by unfold hf; omega
          have HS2 : Hid (∀ i, i < hf m → (up m R i).size = 16) := Gt.up_size HS.out
          have HU : Hid (∀ W, TxtAt W (some ⟨G, 0, none⟩) m R → Calls Try.prog 108 #[.slice (some ⟨G, 0, none⟩) m c] W fun e w' => ∃ g c, e = .returned (.slice (some ⟨g, 0, none⟩) (hf m) c) ∧ OwnT w' W.heap.size (some ⟨g, 0, none⟩) (hf m) c (up m R) ∧ Below W.heap.size W w') := fun W hW => sUp_any _ m c R W hW hm64 HS.out
          by_cases hnb : nb p < m
          · have hnb' : ((nb p : Nat) : Int) < (m : Int) := by omega
            have HC2 : Hid (k + 1 + pl (p / 2) (hf m) = L) := by have := HC.out; rw [Gt.pl_yes p e1 hnb] at this; show _ = _; omega
            have HP2 : Hid (∀ j, pf (hf m) (up m R) (p / 2) j = PF (k + 1 + j)) := fun j => by rw [← Gt.pf_tl R p j e1 hnb, HP.out, show k + (j + 1) = k + 1 + j by omega]
            have HQ : Hid (R (nb p) = PF k) := by have := HP.out 0; rw [Gt.pf_hd R p e1 hnb] at this; exact this
            have hck : k + 1 ≤ L := by have := HC2.out; omega
            obtain ⟨b', off', eq, hcc⟩ := (OwnT.at hoR).some (by omega)
            cases eq
            have cq := hcc (nb p) hnb
            simp only [Nat.zero_add] at cq
            generalize R (nb p) = x at cq HQ
            generalize nb p = q at u4 hnb' cq
            generalize p / 2 = p' at u5 u6 hlt HC2 HP2
            generalize hf m = m' at u8 u9 hlt HC2 HP2 HS2 HU
            generalize up m R = R' at HP2 HS2 HU
            have KR : Hid (OwnT wr w.heap.size (some ⟨G, 0, none⟩) m c R) := hoR
            have KO : Hid (OwnT wr w.heap.size (some ⟨Go, 0, none⟩) k co O) := hoO
            have lGo := World.ownsRow.lt hoO _ rfl
            have lG := World.ownsRow.lt hoR _ rfl
            clear hoR hoO hcc hnb HC HP HS
            go_wp2_with (at_builtin; refine wpList_append_lies _ (by rfl) _ _ 37 (by rfl) w.heap.size 9 i0 (.string ByteArray.empty) 1 16 Try.underlying37 hi hz0 hz1 hz2 rfl (by decide) (.slice (some ⟨Go, 0, none⟩) k co) k _ (by rfl) (World.ownsRow.alloc KO.out _) ⟨wr.heap.size, 0, none⟩ 1 1 [.string x] (by rfl) (by rfl) (World.news_of_block (cs := #[.string x]) (t := 9) (fr := (0, 0)) (heap_alloc_new wr _)) (by simp [Value.oneCell']) (by omega) (by unfold maxLen; omega) (by omega) (by simp; omega) (wr.heap.size + 1) (by simp) ?_; intro g4 cap4 w4 hown4 hgrow4 hat4 hlt4)
            have hgr : World.grownBy (wr.alloc (.cells #[.string x] 9)) w4 (some Go) := hgrow4
            have KR4 : Hid (OwnT w4 w.heap.size (some ⟨G, 0, none⟩) m c R) := own_kept (World.ownsRow.alloc KR.out _) hgr (fun y e => by cases e; exact hGG)
            have KB4 : Hid (Below w.heap.size w w4) := (hbel.alloc hsz _).grown hgr (by simp; omega) (fun j hj => by cases hj; exact lGo.1)
            have KO4 : Hid (OwnT w4 w.heap.size (some ⟨g4, 0, none⟩) (k + 1) cap4 (fun j => if j = k then x else O j)) := by
              have hx : sL (fun j => if j = k then x else O j) (k + 1) = sL O k ++ [Value.string x] := by
                rw [sL_snoc, sL_congr (S' := O) (fun i hi => by rw [if_neg (by omega)])]
                simp
              show OwnT _ _ _ _ _ _
              unfold OwnT
              rw [hx]
              exact hown4
            clear hown4 hgrow4 hat4 hgr cq KR KO
            refine (HU.out _ (OwnT.at KR4.out)).mono ?_
            rintro e w9 ⟨g9, c9, rfl, ho9, hb9⟩
            have hsz4 := KB4.out.size
            have HR9 : Hid (OwnT w9 w.heap.size (some ⟨g9, 0, none⟩) m' c9 R') := ho9.base hsz4
            have hg9 := (World.ownsRow.lt ho9 _ rfl).1
            have HO9 : Hid (OwnT w9 w.heap.size (some ⟨g4, 0, none⟩) (k + 1) cap4 (fun j => if j = k then x else O j)) := KO4.out.below hb9
            have HB9 : Hid (Below w.heap.size w w9) := KB4.out.trans (hb9.mono hsz4)
            have HQQ : Hid (∀ j, j < k + 1 → (if j = k then x else O j) = PF j) := fun j hj => by
              by_cases e : j = k
              · rw [if_pos e, e]; exact HQ.out
              · rw [if_neg e]; exact HO.out j (by omega)
            clear ho9 hb9
            go_wp2
            go_roundg m'
            case measure => exact hlt.2
            case rel => exact ⟨m', g9, c9, p', g4, k + 1, cap4, R', _, rfl, hlt.1, by omega, rfl, rfl, rfl, HR9.out, HO9.out, by omega, hck, HQQ, HC2, HP2, HS2, HB9.out⟩
          · have hnb' : ¬ ((nb p : Nat) : Int) < (m : Int) := by omega
            have HC2 : Hid (k + pl (p / 2) (hf m) = L) := by have := HC.out; rw [Gt.pl_no p e1 hnb] at this; exact this
            have HP2 : Hid (∀ j, pf (hf m) (up m R) (p / 2) j = PF (k + j)) := fun j => by rw [← Gt.pf_no R p j e1 hnb, HP.out]
            generalize nb p = q at u4 hnb'
            generalize p / 2 = p' at u5 u6 hlt HC2 HP2
            generalize hf m = m' at u8 u9 hlt HC2 HP2 HS2 HU
            generalize up m R = R' at HP2 HS2 HU
            have KR : Hid (OwnT wr w.heap.size (some ⟨G, 0, none⟩) m c R) := hoR
            have KO : Hid (OwnT wr w.heap.size (some ⟨Go, 0, none⟩) k co O) := hoO
            have lGo := World.ownsRow.lt hoO _ rfl
            clear hoR hoO HC HP HS
            go_wp2_with fail
            refine (HU.out _ (OwnT.at KR.out)).mono ?_
            rintro e w9 ⟨g9, c9, rfl, ho9, hb9⟩
            have HR9 : Hid (OwnT w9 w.heap.size (some ⟨g9, 0, none⟩) m' c9 R') := ho9.base hsz
            have hg9 := (World.ownsRow.lt ho9 _ rfl).1
            have HO9 : Hid (OwnT w9 w.heap.size (some ⟨Go, 0, none⟩) k co O) := KO.out.below hb9
            have HB9 : Hid (Below w.heap.size w w9) := hbel.trans (hb9.mono hsz)
            clear ho9 hb9
            go_wp2
            go_roundg m'
            case measure => exact hlt.2
            case rel => exact ⟨m', g9, c9, p', Go, k, co, R', O, rfl, hlt.1, by omega, rfl, rfl, rfl, HR9.out, HO9.out, by omega, hkL, HO, HC2, HP2, HS2, HB9.out⟩
    · have KI : inB i 0 ((n : Int) - 1) = false := inB_false hin
      have hB : pfB n S i = false := by unfold pfB; rw [hV]; simp [inT]; omega
      rw [hB]
      clear h hL hB hV hb0
      go_enter Try.func88, Try.ntmps88
      go_wp2_with (first | (go_at_call 107; refine KV.out.mono ?_; rintro e w' ⟨rfl, hw⟩; obtain rfl := hw.symm) | (go_at_call 26; refine (sIn_any _ _ _ _).mono ?_; rintro e w' ⟨rfl, hw⟩; obtain rfl := hw.symm))
      go_ret2
      exact ⟨_, rfl, ⟨_, _, rfl, KL0.out⟩, KB0.out⟩
end Go.Proofs.Ytcnigfejpfcfaaa

/- All bodies that go together, bound under one root, in the program. Conditions: at most 64 bodies of at most 2^20 bytes. -/
namespace Go.Proofs.Ytcnigfejpfcfaaa
set_option maxRecDepth 2000
open Go.ChangeShapes Go.WideShapes Go.ChangeAt Go.RowKit

/-- The leaves of n bodies. -/
noncomputable def lvs (k : Int) (n : Nat) (S : Nat → ByteArray) : Nat → ByteArray := fun i => plf k (n : Int) (i : Int) (S i)
theorem lvs_le (k : Int) (n : Nat) (S : Nat → ByteArray) (i : Nat) : (lvs k n S i).size ≤ 16 := plf_le _ _ _ _
theorem Try.infoCut : (Try.prog.info? 100).map (·.size) = some 4 := by kernel_rfl

set_option maxHeartbeats 2000000 in
theorem bind_any (k : Int) (a : Option Addr) (n cap : Nat) (S : Nat → ByteArray) (w : World) (h : TxtAt w a n S) (hn : n ≤ 64) (hS : ∀ i, i < n → (S i).size ≤ 1048576) :
    Calls Try.prog 73 #[.int .i64 k, .slice a n cap] w fun e w' => ∃ G, e = .returned (.agg #[.int .i64 k, .slice a n cap, .slice (some ⟨G, 0, none⟩) n n, .string (rtS n (lvs k n S))]) ∧ OwnT w' w.heap.size (some ⟨G, 0, none⟩) n n (lvs k n S) ∧ Below w.heap.size w w' := by
  obtain ⟨i0, hi, hz0, hz1, hz2⟩ := info_parts Try.infoStr
  obtain ⟨B, HB⟩ : ∃ x, Hid (x = w.heap.size) := ⟨_, rfl⟩
  obtain ⟨w0, HW0⟩ : ∃ x, Hid (x = w.alloc (.cells #[.int .i64 0, .slice none 0 0, .slice none 0 0, .string ⟨#[]⟩] 100)) := ⟨_, rfl⟩
  have HR0 : Hid (Row w0 B 100 #[.int .i64 0, .slice none 0 0, .slice none 0 0, .string ⟨#[]⟩]) := by show Row _ _ _ _; rw [HW0.out, HB.out]; exact Row.new w _ _
  have hb0 : Below w.heap.size w w0 := by rw [HW0.out]; exact (Below.refl _ _).alloc (Nat.le_refl _) _
  have hlt0 : B < w0.heap.size := HR0.out.lt
  have KH : Hid (TxtAt w0 a n S) := h.below hb0
  have KB0 : Hid (Below w.heap.size w w0) := hb0
  have KS : Hid (∀ i, i < n → (S i).size ≤ 1048576) := hS
  obtain ⟨L, HL⟩ : ∃ L, Hid (lvs k n S = L) := ⟨_, rfl⟩
  have HL16 : Hid (∀ i, (L i).size ≤ 16) := fun i => by rw [← HL.out]; exact lvs_le _ _ _ _
  rw [HL.out]
  clear h hb0 hS
  go_enter Try.func73, Try.ntmps73
  go_wp2_with (at_make; rw [← HW0.out, ← HB.out]; refine wpList_make_full _ rfl _ _ 37 rfl w0.heap.size 9 i0 (.string ByteArray.empty) 1 Try.underlying37 hi hz0 hz1 .i64 .i64 _ _ n rfl rfl rfl rfl (by rw [hz2]; omega) (by unfold maxLen; omega) (Nat.le_refl _) ?_; intro w1 hown hgrow)
  have hb1 : Below w0.heap.size w0 w1 := (Below.refl _ _).grown hgrow (Nat.le_refl _) (by simp)
  obtain ⟨G, HG⟩ : ∃ x, Hid (x = w0.heap.size) := ⟨_, rfl⟩
  have K1 : Hid (OwnT w1 w0.heap.size (some ⟨G, 0, none⟩) n n (fun i => if i < 0 then L i else ByteArray.empty)) := by
    have e : sL (fun i => if i < 0 then L i else ByteArray.empty) n = List.replicate n (Value.string ByteArray.empty) := by rw [← sL_empty]; exact sL_congr (fun i _ => by simp)
    show OwnT _ _ _ _ _ _
    unfold OwnT
    rw [e, HG.out]
    simpa [Value.cells, toList_madeCells_one] using hown
  have KB1 : Hid (Below w0.heap.size w0 w1) := hb1
  rw [← HG.out]
  clear hown hgrow hb1 hi hz0 hz1 hz2
  go_loopw [15] (fun i wr => ∃ c : Nat, c ≤ n ∧ i = .int .i64 c ∧ OwnT wr w0.heap.size (some ⟨G, 0, none⟩) n n (fun i => if i < c then L i else ByteArray.empty) ∧ Below w0.heap.size w0 wr) (fun i _ => n - (intOf i).toNat)
  case atStart => exact ⟨0, Nat.zero_le _, rfl, K1.out, KB1.out⟩
  case round =>
    obtain ⟨c, hk, rfl, hown, hbel⟩ := hrel
    clear K1 KB1
    by_cases hlt : c < n
    · have hki : (c : Int) < (n : Int) := by omega
      obtain ⟨b1, off1, rfl, hc1⟩ := (KH.out.below hbel) c hlt
      have KC : Hid (∀ W, Calls Try.prog 94 #[.int .i64 k, .int .i64 (n : Int), .int .i64 (c : Int), .string (S c)] W fun e w' => e = .returned (.string (L c)) ∧ Below W.heap.size W w') := fun W => by
        have := pieceLeaf_any k (n : Int) (c : Int) (S c) W (KS.out c hlt)
        rw [← HL.out]
        exact this
      have hgl := (World.ownsRow.lt hown _ rfl).2
      obtain ⟨old, hold⟩ : ∃ v, wr.cell? ⟨G, c, none⟩ = some v := by
        rw [World.ownsRow.cellAt hown c (by omega)]
        exact ⟨_, sL_get _ _ _ hlt⟩
      have hfr := World.ownsRow.frozenAt hown c
      have KO : Hid (OwnT wr w0.heap.size (some ⟨G, 0, none⟩) n n (fun i => if i < c then L i else ByteArray.empty)) := hown
      have KB : Hid (Below w0.heap.size w0 wr) := hbel
      have hGw : w0.heap.size ≤ G := by rw [HG.out]; exact Nat.le_refl _
      clear hown hbel
      generalize S c = sc at hc1 KC
      go_wp2_with fail
      refine Calls.mono (KC.out _) ?_
      rintro e w2 ⟨rfl, hb2⟩
      have hold2 := (hb2.cell (p := ⟨G, c, none⟩) hgl).trans hold
      have hfr2 := (World.frozen?_of_block (a := ⟨G, c, none⟩) (hb2.block _ hgl)).trans hfr
      have hst := World.ownsRow.stored (OwnT.below KO.out hb2) c (.string (L c))
      rw [sL_set _ _ _ _ hlt] at hst
      have HO : Hid (OwnT (w2.setCell ⟨G, c, none⟩ (.string (L c))) w0.heap.size (some ⟨G, 0, none⟩) n n (fun i => if i < c + 1 then L i else ByteArray.empty)) := OwnT.congr hst.1 (fun i _ => by
        by_cases e : i = c
        · simp [e]
        · by_cases e2 : i < c
          · simp [e, e2, show i < c + 1 by omega]
          · simp [e, e2, show ¬ i < c + 1 by omega])
      have HB' : Hid (Below w0.heap.size w0 (w2.setCell ⟨G, c, none⟩ (.string (L c)))) := (below2 KB.out hb2).setCell hGw _
      generalize L c = sv at HO HB'
      clear hst hold hfr KC KO KB hc1
      go_wp2
      go_roundw
      case rel => exact ⟨c + 1, by omega, by go_num, HO.out, HB'.out⟩
      case measure => simp [intOf] <;> omega
    · obtain rfl : c = n := by omega
      have HO : Hid (OwnT wr w0.heap.size (some ⟨G, 0, none⟩) c c L) := hown.congr (fun i hi => if_pos hi)
      have HBl : Hid (Below w0.heap.size w0 wr) := hbel
      have KR : Hid (Calls Try.prog 95 #[.slice (some ⟨G, 0, none⟩) c c] wr fun e w' => e = .returned (.tuple #[.string (rtS c L), .bool (lvB c L)]) ∧ Below wr.heap.size wr w') := root_any _ _ _ L _ (OwnT.at HO.out) (by omega) (fun i _ => by have := HL16.out i; unfold maxLen; omega)
      obtain ⟨rt, HRT⟩ : ∃ rt, Hid (rtS c L = rt) := ⟨_, rfl⟩
      rw [HRT.out] at KR
      generalize lvB c L = okr at KR
      clear hown hbel KH
      go_wp2_with fail
      refine Calls.mono KR.out ?_
      rintro e w3 ⟨rfl, hb3⟩
      have hb13 := below2 HBl.out hb3
      have HR3 : Hid (Row w3 B 100 #[.int .i64 0, .slice none 0 0, .slice none 0 0, .string ⟨#[]⟩]) := HR0.out.below hb13 hlt0
      have HO3 : Hid (OwnT w3 w0.heap.size (some ⟨G, 0, none⟩) c c L) := OwnT.below HO.out hb3
      have q0 := HR3.out.cell 0
      have q1 := HR3.out.cell 1
      have q2 := HR3.out.cell 2
      have q3 := HR3.out.cell 3
      have f0 := HR3.out.free 0
      have f1 := HR3.out.free 1
      have f2 := HR3.out.free 2
      have f3 := HR3.out.free 3
      simp at q0 q1 q2 q3
      clear HO HBl hb3 KR
      have ZR : Hid (Row ((((w3.setCell ⟨B, 0, none⟩ (.int .i64 k)).setCell ⟨B, 1, none⟩ (.slice a c cap)).setCell ⟨B, 2, none⟩ (.slice (some ⟨G, 0, none⟩) c c)).setCell ⟨B, 3, none⟩ (.string rt)) B 100 #[.int .i64 k, .slice a c cap, .slice (some ⟨G, 0, none⟩) c c, .string rt]) := (((HR3.out.set 0 _).set 1 _).set 2 _).set 3 _
      have hGB : G ≠ B := by rw [HG.out]; omega
      have hBw : w.heap.size ≤ B := by rw [HB.out]; exact Nat.le_refl _
      have KB3 : Hid (Below w.heap.size w w3) := KB0.out.trans (hb13.mono KB0.out.size)
      have set1 : ∀ (W : World) (o : Nat) (v : Value), OwnT W w0.heap.size (some ⟨G, 0, none⟩) c c L → OwnT (W.setCell ⟨B, o, none⟩ v) w0.heap.size (some ⟨G, 0, none⟩) c c L := fun W o v hW => own_kept hW (grown_set _ _ _ _) (fun x e => by cases e; exact hGB)
      have ZO : Hid (OwnT ((((w3.setCell ⟨B, 0, none⟩ (.int .i64 k)).setCell ⟨B, 1, none⟩ (.slice a c cap)).setCell ⟨B, 2, none⟩ (.slice (some ⟨G, 0, none⟩) c c)).setCell ⟨B, 3, none⟩ (.string rt)) w.heap.size (some ⟨G, 0, none⟩) c c L) := OwnT.base (set1 _ _ _ (set1 _ _ _ (set1 _ _ _ (set1 _ _ _ HO3.out)))) KB0.out.size
      clear set1 hb13
      go_wp2
      refine bodyPost_ret (v := .agg #[.int .i64 k, .slice a c cap, .slice (some ⟨G, 0, none⟩) c c, .string rt]) (results_cell_row Try.results73 _ _ B 100 _ (0, 0) _ (by simp) ZR.out Try.underlying100 (by rfl) Try.infoCut) rfl ⟨G, by rw [HRT.out], ZO.out, ?_⟩
      exact Below.setCell (Below.setCell (Below.setCell (Below.setCell KB3.out hBw _) hBw _) hBw _) hBw _
end Go.Proofs.Ytcnigfejpfcfaaa
