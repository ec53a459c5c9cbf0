import Derived.Test.YtihklfkhjpnjkaaGreatDoorU27
set_option maxHeartbeats 8000000
set_option maxRecDepth 2000
namespace Go.Proofs.YtihklfkhjpnjkaaGreatDoor
open Go.ChangeShapes Go.WideShapes Go.ChangeAt Go.RowKit Go.Shelf
open Gt (hf up nb pl)
theorem stepIn_append {P : Program} {F : Fence} {n : Nat} {w : World} {ops : Array Oper} {o : Oper} {a : Act} {K : Act → World → Prop} {Q : Exit → Act → World → Prop} {E : Prop} (hgd : o.guard = none) (s x : Operand) (t : TypeId)
  (ho : o.op = .call { callee := .builtin .append, args := #[s, x], argTypes := #[t, t] }) (ty : TypeId) (hty : o.type = ty) (v1 v2 : Value) (hs : a.eval s = v1) (hx : a.eval x = v2) (v : Value) (w' : World)
  (hrun : (Builtin.append_ #[t, t] ty #[v1, v2]).run P w = .ok v w') (h : K (a.put o.dst v) w') : if Region.wanted o (yielded ops a.tmps) = true then Oper.wpIn F n P o a w K Q else E := by
 have hw : Region.wanted o (yielded ops a.tmps) = true := by simp [Region.wanted, hgd]
 rw [if_pos hw]
 subst hty
 unfold Oper.wpIn
 refine ⟨?_, ?_⟩
 ·simp [Oper.about, ho, resolve, Target.leads, Sem.run_pure]
 ·rw [Oper.semAt_plain F _ _ (by rw [ho]; intro c hc'; cases hc')]
  simp [execOp, ho, resolve, invoke, builtin, hs, hx, hrun, Result.andThen]
  exact h
theorem fin_step {W6 w7 : World} {Bm Bs Bl G c cp : Nat} {a0 a1 : Value} {vl : Array Value} {O : Nat → ByteArray} (p' s' : Nat) (ho : OwnT W6 Bm (some ⟨G, 0, none⟩) c cp O) (rs : Row W6 Bs 124 #[a0, a1]) (rl : Row W6 Bl 31 vl) (hb : Below W6.heap.size W6 w7) (hs : G ≠ Bs) (hl : Bl ≠ Bs) :
  Hid (Row ((w7.setCell ⟨Bs, 0, none⟩ (.int .i64 (p' : Int))).setCell ⟨Bs, 1, none⟩ (.int .i64 (s' : Int))) Bs 124 #[.int .i64 (p' : Int), .int .i64 (s' : Int)] ∧
   Row ((w7.setCell ⟨Bs, 0, none⟩ (.int .i64 (p' : Int))).setCell ⟨Bs, 1, none⟩ (.int .i64 (s' : Int))) Bl 31 vl ∧
   OwnT ((w7.setCell ⟨Bs, 0, none⟩ (.int .i64 (p' : Int))).setCell ⟨Bs, 1, none⟩ (.int .i64 (s' : Int))) Bm (some ⟨G, 0, none⟩) c cp O ∧
   Kp (fun j => j = G ∨ j = Bs ∨ j = Bl) W6 ((w7.setCell ⟨Bs, 0, none⟩ (.int .i64 (p' : Int))).setCell ⟨Bs, 1, none⟩ (.int .i64 (s' : Int)))) := by
 have h1 := ((rs.below hb rs.lt).set 0 (.int .i64 (p' : Int))).set 1 (.int .i64 (s' : Int))
 refine ⟨h1, ((rl.below hb rl.lt).other _ _ hl).other _ _ hl, ?_, ?_⟩
 ·exact own_kept (own_kept (ho.below hb) (grown_set _ _ _ _) (fun x e => by cases e; exact hs)) (grown_set _ _ _ _) (fun x e => by cases e; exact hs)
 ·exact ((Kp.below hb).trans (Kp.set _ _ _ _ (.inr (.inl rfl)))).trans (Kp.set _ _ _ _ (.inr (.inl rfl)))
theorem Kp.mono {X Y : Nat → Prop} {A B : World} (h : Kp X A B) (hxy : ∀ j, X j → Y j) : Kp Y A B := ⟨h.os, h.tape, h.output, h.size, fun j hj hn => h.block j hj (fun hx => hn (hxy j hx))⟩
theorem round_kept {w W2 w5 w9 w3 Wf : World} {N G g3 Bs Bl C : Nat} {v : Value} (hb5 : Below W2.heap.size W2 w5) (hb9 : Below w5.heap.size w5 w9) (K3 : Kp (fun j => j = G ∨ j = Bs ∨ j = Bl) w9 w3) (K7 : Kp (fun j => j = g3 ∨ j = Bs ∨ j = Bl) (w3.setCell ⟨Bl, 0, none⟩ v) Wf)
  (hg3 : g3 = G ∨ w9.heap.size < g3) (hG : G < C + 2 ∨ C + 5 ≤ G) (hs : Bs < C + 2) (hl : Bl < C + 2) (hC : C + 5 ≤ W2.heap.size) (hb : Below N w W2) (hN : N ≤ W2.heap.size) (n1 : N ≤ G) (n2 : N ≤ Bs) (n3 : N ≤ Bl) :
  W2.heap.size ≤ Wf.heap.size ∧ (∀ j, C + 2 ≤ j → j < C + 5 → Wf.heap[j]? = W2.heap[j]?) ∧ Below N w Wf := by
 have hz : W2.heap.size ≤ w9.heap.size := Nat.le_trans hb5.size hb9.size
 have t : Kp (fun j => j = G ∨ j = Bs ∨ j = Bl ∨ w9.heap.size < j) W2 Wf :=
  ((((Kp.below hb5).trans (Kp.below hb9)).trans (K3.mono (fun j hj => by omega))).trans (Kp.set w3 Bl 0 v (.inr (.inr (.inl rfl))))).trans (K7.mono (fun j hj => by omega))
 exact ⟨t.size, fun j h1 h2 => t.block j (by omega) (by omega), t.base hb hN (fun j hj => by omega)⟩
theorem hd_step {W : World} {Bm Bs Bl G c cp : Nat} {vs : Array Value} {v v' : Value} {O : Nat → ByteArray} (ho : OwnT W Bm (some ⟨G, 0, none⟩) c cp O) (rs : Row W Bs 124 vs) (rl : Row W Bl 31 #[v]) (hs : Bs ≠ Bl) (hl : G ≠ Bl) :
  OwnT (W.setCell ⟨Bl, 0, none⟩ v') Bm (some ⟨G, 0, none⟩) c cp O ∧ Row (W.setCell ⟨Bl, 0, none⟩ v') Bs 124 vs ∧ Row (W.setCell ⟨Bl, 0, none⟩ v') Bl 31 #[v'] :=
 ⟨own_kept ho (grown_set _ _ _ _) (fun x e => by cases e; exact hl), rs.other _ _ hs, rl.set 0 v'⟩
theorem proof_yes (a : Option Addr) (n cap : Nat) (S : Nat → ByteArray) (i : Nat) (w : World) (h : TxtAt w a n S) (hyes : lvB n S = true) (hin : inT (i : Int) (n : Int) = true) :
  Calls Tryz.prog 73 #[.slice a n cap, .int .i64 (i : Int)] w fun e w' => ∃ v, e = .returned (.tuple #[v, .bool true]) ∧ ResT w w' v (pl i n) (Gt.pf n S i) ∧ Below w.heap.size w w' := by
 have KL : Hid (Calls Tryz.prog 104 #[.slice a n cap] w fun e w' => e = .returned (.tuple #[RwV (padT n S) n, .bool true]) ∧ Below w.heap.size w w') := leafRow_yes a n cap S w h hyes
 obtain ⟨h1, h64, h16⟩ := lvB_parts hyes
 have hi : i < n := by simp [inT] at hin; omega
 have KT : Hid (∀ w0, Calls Tryz.prog 106 #[SpV (i : Int) (n : Int)] w0 fun e w' => e = .returned (.bool true) ∧ Below w0.heap.size w0 w') := fun w0 => by have := isInTree_any (i : Int) (n : Int) w0; rw [hin] at this; exact this
 obtain ⟨L, HL⟩ : ∃ L, Hid (pl i n = L) := ⟨_, rfl⟩
 have hL6 : L ≤ 6 := by rw [← HL.out]; exact Gt.pl_le 6 _ _ (by omega)
 obtain ⟨PF, HPF⟩ : ∃ PF, Hid (Gt.pf n S i = PF) := ⟨_, rfl⟩
 have HP0 : Hid (∀ j, Gt.pf n (padT n S) i j = PF j) := fun j => by rw [← HPF.out]; exact Gt.pf_congr (fun k hk => padT_at S hk) i j
 have H16 : Hid (∀ i, i < n → (padT n S i).size = 16) := fun i hi => by rw [padT_at S hi]; exact h16 i hi
 rw [HL.out, HPF.out]
 clear h hyes h16 hin HPF
 generalize padT n S = T at *
 refine (callsIn_wide (n := 2)).1 (callsIn_of_wp_marks Tryz.func73 rfl trivial (wpIn_wide.2 ?_) rfl)
 simp only [Tryz.ntmps73, List.size_toArray, List.length_cons, List.length_nil, Nat.reduceAdd, Nat.reduceSub, Array.replicate_succ, Array.replicate_zero, List.push_toArray, List.append_toArray, List.nil_append, List.cons_append]
 go_wp2_with fail
 refine KL.out.mono ?_
 rintro e w1 ⟨rfl, hb1⟩
 obtain ⟨w2, HW2⟩ : ∃ w2, Hid (w2 = w1.alloc (.cells (rowC T n) 119)) := ⟨_, rfl⟩
 have HF : Hid ((w1.alloc (.cells (rowC noT 0) 119)).setRow w1.heap.size (rowC T n) = w2) := by rw [HW2.out]; exact setRow_alloc _ _ _ _
 obtain ⟨B, hB⟩ : ∃ B, w1.heap.size = B := ⟨_, rfl⟩
 have K2 : Hid (Row w2 B 119 (rowC T n) ∧ Below w.heap.size w w2 ∧ w2.heap.size = B + 1 ∧ w.heap.size ≤ B) := by
  rw [HW2.out, ← hB]
  exact ⟨Row.new w1 _ _, hb1.alloc hb1.size _, by simp, hb1.size⟩
 have hz2 := K2.out.2.2.1
 go_wp2_with (first | (refine p_alloc (by rfl) (by rfl) ?_) | (refine p_store (by rfl) _ _ (by rfl) w1.heap.size (by rfl) T n (by rfl) noT 0 (Row.new w1 _ _) ?_; rw [HF.out]) | fail)
 refine (KT.out _).mono ?_
 rintro e w4 ⟨rfl, hb4⟩
 obtain ⟨C, hC⟩ : ∃ C, w4.heap.size = C := ⟨_, rfl⟩
 have K4 : Hid (Row w4 B 119 (rowC T n) ∧ Row w4 (B + 1) 124 #[.int .i64 (i : Int), .int .i64 (n : Int)] ∧ Below w.heap.size w w4 ∧ B + 1 < C ∧ w.heap.size ≤ B) := by
  obtain ⟨a1, a2, a3, a4⟩ := K2.out
  have r1 := a1.alloc (.cells #[.int .i64 (i : Int), .int .i64 (n : Int)] 124)
  have r2 := Row.new w2 #[.int .i64 (i : Int), .int .i64 (n : Int)] 124
  rw [a3] at r2
  have r2' := r2.below hb4 r2.lt
  exact ⟨r1.below hb4 r1.lt, r2', below2 (a2.alloc (by omega) _) hb4, by rw [← hC]; exact r2'.lt, a4⟩
 obtain ⟨w8, HW8⟩ : ∃ w8, Hid (w8 = (w4.alloc (.cells #[] 9)).alloc (.cells #[.slice (some ⟨C, 0, none⟩) 0 0] 31)) := ⟨_, rfl⟩
 have HN : Hid (Row w8 B 119 (rowC T n) ∧ Row w8 (B + 1) 124 #[.int .i64 (i : Int), .int .i64 (n : Int)] ∧ Row w8 (C + 1) 31 #[.slice (some ⟨C, 0, none⟩) 0 0] ∧ OwnT w8 w.heap.size (some ⟨C, 0, none⟩) 0 0 PF ∧ Below w.heap.size w w8 ∧ w8.heap.size = C + 2 ∧ B + 1 < C ∧ w.heap.size ≤ B) := by
  rw [HW8.out]
  obtain ⟨a1, a2, a3, a4, a5⟩ := K4.out
  have l1 := litT w4 PF
  rw [hC] at l1
  have l2 := Row.new (w4.alloc (.cells #[] 9)) #[.slice (some ⟨C, 0, none⟩) 0 0] 31
  rw [show (w4.alloc (.cells #[] 9)).heap.size = C + 1 by simp [hC]] at l2
  exact ⟨(a1.alloc _).alloc _, (a2.alloc _).alloc _, l2, OwnT.base (World.ownsRow.alloc l1 _) (by omega), (a3.alloc (by omega) _).alloc (by simp; omega) _, by simp [hC], a4, a5⟩
 have K8 : Hid (Row ((w4.alloc (.cells #[] 9)).alloc (.cells #[.slice (some ⟨C, 0, none⟩) 0 0] 31)) B 119 (rowC T n)) := by rw [← HW8.out]; exact HN.out.1
 go_wp2_with (refine p_load (by rfl) _ (by rfl) B (by rfl) T n K8.out ?_)
 rw [← HW8.out]
 clear hB hC hz2 hb1 hb4 K8
 refine (wpIn_wide (n := 2)).1 ?_
 refine wpIn_rangeM (recv := RwV T n) (gf := 105) (by rfl) (enters_of Tryz.func105 (by kernel_rfl) rfl) (rows_iter T n h1 h64 H16.out) (fun _ => rfl)
  (fun s W => Below w.heap.size w W ∧ ∃ (p z c G cp : Nat) (O : Nat → ByteArray), Row W (B + 1) 124 #[.int .i64 (p : Int), .int .i64 (z : Int)] ∧ Row W (C + 1) 31 #[.slice (some ⟨G, 0, none⟩) c cp] ∧ OwnT W w.heap.size (some ⟨G, 0, none⟩) c cp O ∧ (G ≠ B + 1 ∧ G ≠ C + 1 ∧ (G < C + 2 ∨ C + 5 ≤ G)) ∧ (∀ j, j < c → O j = PF j) ∧ c ≤ L ∧ (s.1 = false → z = s.2.1 ∧ p < s.2.1 ∧ c + pl p s.2.1 = L ∧ ∀ j, Gt.pf s.2.1 s.2.2 p j = PF (c + j)) ∧ (s.1 = true → c = L)) ?abide ?start ?round ?done
 case abide =>
  rintro s A A' j h1 h2 ⟨hb, p, z, c, G, cp, O, r1, r2, ho, hG, hO, hc, hf, ht⟩ hg
  have hn := HN.out.2.2.2.2.2
  exact ⟨below_grown hb hg hb.size (by omega), p, z, c, G, cp, O, r1.grown hg (by omega), r2.grown hg (by omega), own_kept ho hg (fun x e => by cases e; simp; omega), hG, hO, hc, hf, ht⟩
 case start =>
  obtain ⟨a1, a2, a3, a4, a5, a6, a7, a8⟩ := HN.out
  exact ⟨a5, i, n, 0, C, 0, PF, a2, a3, a4, ⟨by omega, by omega, by omega⟩, fun _ _ => rfl, by omega, fun _ => ⟨rfl, hi, by have := HL.out; simp; omega, fun j => by rw [Nat.zero_add]; exact HP0.out j⟩, fun e => by cases e⟩
 case round =>
  rintro l ⟨d, m, T'⟩ W hok ⟨hb, p, z, c, G, cp, O, r1, r2, ho, hG, hO, hc, hf', ht⟩ hlt
  have hn := HN.out.2.2.2.2.2
  have hd : d = false := hok.1
  obtain ⟨hz, hp, hcl, hpf⟩ := hf' hd
  subst hd
  have hm1 : 1 ≤ m := hok.2.1
  have hm64 : m ≤ 64 := hok.2.2.1
  have HM16 : Hid (∀ i, i < m → (T' i).size = 16) := hok.2.2.2
  have hzm : z = m := hz
  subst hzm
  have hpm : p < z := hp
  have HC0 : Hid (c + pl p z = L) := hcl
  have HP : Hid (∀ j, Gt.pf z T' p j = PF (c + j)) := hpf
  have HO : Hid (∀ j, j < c → O j = PF j) := hO
  clear hf' ht hz hp hcl hpf hO hok
  have hsem := Oper.semAt_some
  have hfn := wideFn
  have hdp := wideDepth
  have hmx := Tryz.mixed
  have HF2 : Hid ((W.alloc (.cells (rowC noT 0) 119)).setRow W.heap.size (rowC T' z) = W.alloc (.cells (rowC T' z) 119)) := setRow_alloc _ _ _ _
  go_simp
  gi_wp2_with (first | (refine i_alloc (by rfl) (by rfl) ?_) | (refine i_store (by rfl) _ _ (by rfl) W.heap.size (by rfl) T' z (by rfl) noT 0 (Row.new W _ _) ?_; rw [HF2.out]))
  refine ⟨World.grownBy_alloc _ _ _, ?_⟩
  intro W2 hg2 hs2
  obtain ⟨X, hX⟩ : ∃ X, W.heap.size = X := ⟨_, rfl⟩
  have hXC : C + 4 < X := by omega
  have K5 : Hid (Row W2 (B + 1) 124 #[.int .i64 (p : Int), .int .i64 (z : Int)] ∧ Row W2 (C + 1) 31 #[.slice (some ⟨G, 0, none⟩) c cp] ∧ OwnT W2 w.heap.size (some ⟨G, 0, none⟩) c cp O ∧ Row W2 X 119 (rowC T' z) ∧ Below w.heap.size w W2 ∧ W2.heap.size = X + 1) := by
   have rx := (Row.new W (rowC T' z) 119).grown hg2 (by omega)
   rw [hX] at rx
   exact ⟨(r1.alloc _).grown hg2 (by omega), (r2.alloc _).grown hg2 (by omega), own_kept (World.ownsRow.alloc ho _) hg2 (fun x e => by cases e; simp; omega), rx, below_grown (hb.alloc hb.size _) hg2 (by simp; have := hb.size; omega) (by omega), by rw [hs2]; simp [hX]⟩
  have HG : Hid (G ≠ B + 1 ∧ G ≠ C + 1 ∧ (G < C + 2 ∨ C + 5 ≤ G) ∧ w.heap.size ≤ G) := ⟨hG.1, hG.2.1, hG.2.2, (World.ownsRow.lt ho _ rfl).1⟩
  have Hn : Hid (w8.heap.size = C + 2 ∧ B + 1 < C ∧ w.heap.size ≤ B) := hn
  obtain ⟨p', hp'⟩ : ∃ p', p / 2 = p' := ⟨_, rfl⟩
  obtain ⟨z', hz'⟩ : ∃ z', hf z = z' := ⟨_, rfl⟩
  have KA : Hid (∀ w0, Calls Tryz.prog 108 #[SpV (p : Int) (z : Int)] w0 fun e w' => e = .returned (SpV (p' : Int) (z' : Int)) ∧ Below w0.heap.size w0 w') := fun w0 => by rw [← hp', ← hz']; exact spotAbove_any p z w0 (by omega) (by omega)
  have c0 := K5.out.1.cell 0
  have c1 := K5.out.1.cell 1
  simp at c0 c1
  clear hg2 hs2 hb ho r1 r2 hG hn HF2
  by_cases hnb : nb p < z
  ·have KN : Hid (∀ w0, Calls Tryz.prog 107 #[SpV (p : Int) (z : Int)] w0 fun e w' => e = .returned (.tuple #[.int .i64 ((nb p : Nat) : Int), .bool true]) ∧ Below w0.heap.size w0 w') := fun w0 => by
    have := neighbour_any p z w0 (by omega)
    rw [show decide (nb p < z) = true by simpa using hnb] at this
    exact this
   have hz1 : ¬ z ≤ 1 := by intro e; unfold nb at hnb; split at hnb <;> omega
   have HE : Hid (c + 1 ≤ L ∧ ((rNx (false, z, T')).1 = false → z' = (rNx (false, z, T')).2.1 ∧ p' < (rNx (false, z, T')).2.1 ∧ c + 1 + pl p' (rNx (false, z, T')).2.1 = L ∧ ∀ j, Gt.pf (rNx (false, z, T')).2.1 (rNx (false, z, T')).2.2 p' j = PF (c + 1 + j)) ∧ ((rNx (false, z, T')).1 = true → c + 1 = L)) := by
    have hcl := HC0.out
    rw [Gt.pl_yes p hz1 hnb, hp', hz'] at hcl
    show _ ∧ _
    unfold rNx
    rw [if_neg hz1]
    refine ⟨by omega, fun _ => ⟨hz'.symm, ?_, ?_, fun j => ?_⟩, fun e => (by cases e)⟩
    ·show p' < hf z; rw [← hp']; unfold hf; omega
    ·show c + 1 + pl p' (hf z) = L; rw [hz']; omega
    ·show Gt.pf (hf z) (up z T') p' j = _
     rw [← hp', ← Gt.pf_tl T' p j hz1 hnb, HP.out, show c + (j + 1) = c + 1 + j by omega]
   have HQ : Hid (T' (nb p) = PF c) := by
    have := HP.out 0
    rw [Gt.pf_hd T' p hz1 hnb] at this
    exact this
   obtain ⟨q, hq⟩ : ∃ q, nb p = q := ⟨_, rfl⟩
   rw [hq] at KN HQ hnb
   obtain ⟨x, hx⟩ : ∃ x, T' q = x := ⟨_, rfl⟩
   have hx16 := HM16.out q hnb
   rw [hx] at HQ hx16
   have KC : Hid (∀ w0, Calls Tryz.prog 74 #[.string x] w0 fun e w' => e = .returned (.string x) ∧ Below w0.heap.size w0 w') := fun w0 => clone_any x w0 (by omega)
   have hc6 : c ≤ 64 := by omega
   have hq64 : (q : Int) < 64 := by omega
   clear hx16 hp' hz' HC0 HP
   gi_wp2_with fail
   refine (CallsIn.inRound l (callsIn_wide.2 (KN.out _))).mono ?_
   rintro e w5 ⟨rfl, hb5⟩
   have K6 : Hid (Row w5 (B + 1) 124 #[.int .i64 (p : Int), .int .i64 (z : Int)] ∧ Row w5 (C + 1) 31 #[.slice (some ⟨G, 0, none⟩) c cp] ∧ OwnT w5 w.heap.size (some ⟨G, 0, none⟩) c cp O ∧ Row w5 X 119 (rowC T' z)) := by
    obtain ⟨a1, a2, a3, a4, a5, a6⟩ := K5.out
    exact ⟨a1.below hb5 a1.lt, a2.below hb5 a2.lt, a3.below hb5, a4.below hb5 a4.lt⟩
   have k1 := K6.out.2.1.cell 0
   have k2 : w5.cell? ⟨X, q, none⟩ = some (.string x) := by rw [K6.out.2.2.2.cell q, rowC_get _ _ _ (by omega), hx]
   simp at k1
   clear c0 c1 hx
   gi_wp2_with fail
   refine wpIn_region_any (by assumption) ?_
   try (change wpAnyIn _ _ _ _ _ _ _ _ _ (World.drew _))
   refine wpAnyIn_ready (rs := [0, 1, 2]) (by kernel_rfl) (by simp) ?_
   refine AllReadyIn.cons rfl (fun K hK => ?_) ?_
   ·skip
    go_simp
    refine hK _ _ ?_
    clear hK K
    refine wpAnyIn_ready (rs := [1, 2]) (by kernel_rfl) (by simp) ?_
    refine AllReadyIn.cons rfl (fun K hK => ?_) ?_
    ·skip
     go_simp
     refine hK _ _ ?_
     clear hK K
     refine wpAnyIn_ready (rs := [2]) (by kernel_rfl) (by simp) ?_
     refine AllReadyIn.cons rfl (fun K hK => ?_) ?_
     ·skip
      go_simp
      refine hK _ _ ?_
      clear hK K
      refine wpAnyIn_ready (rs := [3]) (by kernel_rfl) (by simp) ?_
      refine AllReadyIn.cons rfl (fun K hK => ?_) ?_
      ·skip
       go_simp
       refine hK _ _ ?_
       clear hK K
       refine wpAnyIn_ready (rs := [4]) (by kernel_rfl) (by simp) ?_
       refine AllReadyIn.cons rfl (fun K hK => ?_) ?_
       ·skip
        go_simp
        refine hK _ _ ?_
        clear hK K
        refine wpAnyIn_ready (rs := [5]) (by kernel_rfl) (by simp) ?_
        refine AllReadyIn.cons rfl (fun K hK => ?_) ?_
        ·skip
         go_simp
         gi_wp2_with (gi_at_call 74; refine (CallsIn.inRound l (callsIn_wide.2 (KC.out _))).mono ?_; rintro e w9 ⟨rfl, hb9'⟩; have hb9 := below_of_drew hb9'; clear hb9'; obtain ⟨g3, c3, w3, hrun, H3⟩ := app_one x (K6.out.2.2.1.below hb9) (K6.out.1.below hb9 K6.out.1.lt) (K6.out.2.1.below hb9 K6.out.2.1.lt) HG.out.1 HG.out.2.1 hc6; have HRUN : Hid _ := hrun; clear hrun; have l9 : C + 1 < w9.heap.size := Nat.lt_of_lt_of_le K6.out.2.1.lt hb9.size; have m1 := (K6.out.2.1.below hb9 K6.out.2.1.lt).cell 0; have m2 := ((K6.out.2.1.below hb9 K6.out.2.1.lt).alloc (.cells #[.string x] 9)).cell 0; have m3 := H3.out.2.2.1.cell 0; have f3 := H3.out.2.2.1.free 0; simp at m1 m2 m3)
         refine wpAnyIn_ready (rs := [6]) (by kernel_rfl) (by simp) ?_
         refine AllReadyIn.cons rfl (fun K hK => ?_) ?_
         ·skip
          go_simp
          refine hK _ _ ?_
          clear hK K
          refine wpAnyIn_ready (rs := [7]) (by kernel_rfl) (by simp) ?_
          refine AllReadyIn.cons rfl (fun K hK => ?_) ?_
          ·skip
           refine stepIn_append (by rfl) _ _ 31 (by rfl) 31 (by rfl) (.slice (some ⟨G, 0, none⟩) c cp) (.slice (some ⟨w9.heap.size, 0, none⟩) 1 1) (by rfl) (by rfl) _ _ HRUN.out ?_
           go_simp
           refine hK _ _ ?_
           clear hK K
           refine wpAnyIn_ready (rs := [8]) (by kernel_rfl) (by simp) ?_
           refine AllReadyIn.cons rfl (fun K hK => ?_) ?_
           ·skip
            go_simp
            refine hK _ _ ?_
            clear hK K
            refine wpAnyIn_done (by kernel_rfl) ?_ _
            have hw9 := l9
            have hg3 := H3.out.2.2.2.1
            have hgC : g3 ≠ C + 1 := by have := HG.out; omega
            have hgB : g3 ≠ B + 1 := by have := HG.out; have := Hn.out; omega
            have H6 : Hid _ := hd_step (v' := .slice (some ⟨g3, 0, none⟩) (c + 1) c3) H3.out.1 H3.out.2.1 H3.out.2.2.1 (by have := Hn.out; omega) hgC
            have t0 := H6.out.2.1.cell 0
            have t1 := H6.out.2.1.cell 1
            simp at t0 t1
            clear k1 k2 m1 m2 m3 f3
            gi_wp2_with fail
            refine (CallsIn.inRound l (callsIn_wide.2 (KA.out _))).mono ?_
            rintro e w7 ⟨rfl, hb7⟩
            have HFin := fin_step p' z' H6.out.1 H6.out.2.1 H6.out.2.2 hb7 hgB (by have := Hn.out; omega)
            have HK := round_kept (N := w.heap.size) (C := C) hb5 hb9 H3.out.2.2.2.2 HFin.out.2.2.2 hg3 HG.out.2.2.1 (by have := Hn.out; omega) (by omega) (by have := K5.out.2.2.2.2.2; omega) K5.out.2.2.2.2.1 (by have := K5.out.2.2.2.2.2; have := Hn.out; omega) HG.out.2.2.2 (by have := Hn.out; omega) (by have := Hn.out; omega)
            have HKK : Hid _ := HK
            have u0 := (H6.out.2.1.below hb7 H6.out.2.1.lt).cell 0
            have u1 := (H6.out.2.1.below hb7 H6.out.2.1.lt).cell 1
            have v0 := (H6.out.2.1.below hb7 H6.out.2.1.lt).free 0
            have v1 := (H6.out.2.1.below hb7 H6.out.2.1.lt).free 1
            simp at u0 u1
            clear HK t0 t1
            gi_wp2
            exact ⟨HKK.out.1, fun j h1 h2 => HKK.out.2.1 j (by have := Hn.out; omega) (by have := Hn.out; omega), HKK.out.2.2, p', z', HFin.out.1, c + 1, g3, c3, HFin.out.2.1, _, HFin.out.2.2.1, ⟨hgB, hgC, by have := HG.out; have := Hn.out; have := K5.out.2.2.2.2.2; have := hb5.size; have := hb9.size; omega⟩, fun j hj => (by by_cases e : j = c <;> simp only [e, if_true, if_false] <;> first | exact HQ.out | exact HO.out j (by omega)), HE.out.1, HE.out.2.1, HE.out.2.2⟩
           exact AllReadyIn.nil
          exact AllReadyIn.nil
         exact AllReadyIn.nil
        exact AllReadyIn.nil
       exact AllReadyIn.nil
      exact AllReadyIn.nil
     exact AllReadyIn.nil
    refine AllReadyIn.cons rfl (fun K hK => ?_) ?_
    ·skip
     go_simp
     refine hK _ _ ?_
     clear hK K
     refine wpAnyIn_ready (rs := [1]) (by kernel_rfl) (by simp) ?_
     refine AllReadyIn.cons rfl (fun K hK => ?_) ?_
     ·skip
      go_simp
      refine hK _ _ ?_
      clear hK K
      refine wpAnyIn_ready (rs := [3]) (by kernel_rfl) (by simp) ?_
      refine AllReadyIn.cons rfl (fun K hK => ?_) ?_
      ·skip
       go_simp
       refine hK _ _ ?_
       clear hK K
       refine wpAnyIn_ready (rs := [4]) (by kernel_rfl) (by simp) ?_
       refine AllReadyIn.cons rfl (fun K hK => ?_) ?_
       ·skip
        go_simp
        refine hK _ _ ?_
        clear hK K
        refine wpAnyIn_ready (rs := [5]) (by kernel_rfl) (by simp) ?_
        refine AllReadyIn.cons rfl (fun K hK => ?_) ?_
        ·skip
         go_simp
         gi_wp2_with (gi_at_call 74; refine (CallsIn.inRound l (callsIn_wide.2 (KC.out _))).mono ?_; rintro e w9 ⟨rfl, hb9'⟩; have hb9 := below_of_drew hb9'; clear hb9'; obtain ⟨g3, c3, w3, hrun, H3⟩ := app_one x (K6.out.2.2.1.below hb9) (K6.out.1.below hb9 K6.out.1.lt) (K6.out.2.1.below hb9 K6.out.2.1.lt) HG.out.1 HG.out.2.1 hc6; have HRUN : Hid _ := hrun; clear hrun; have l9 : C + 1 < w9.heap.size := Nat.lt_of_lt_of_le K6.out.2.1.lt hb9.size; have m1 := (K6.out.2.1.below hb9 K6.out.2.1.lt).cell 0; have m2 := ((K6.out.2.1.below hb9 K6.out.2.1.lt).alloc (.cells #[.string x] 9)).cell 0; have m3 := H3.out.2.2.1.cell 0; have f3 := H3.out.2.2.1.free 0; simp at m1 m2 m3)
         refine wpAnyIn_ready (rs := [6]) (by kernel_rfl) (by simp) ?_
         refine AllReadyIn.cons rfl (fun K hK => ?_) ?_
         ·skip
          go_simp
          refine hK _ _ ?_
          clear hK K
          refine wpAnyIn_ready (rs := [7]) (by kernel_rfl) (by simp) ?_
          refine AllReadyIn.cons rfl (fun K hK => ?_) ?_
          ·skip
           refine stepIn_append (by rfl) _ _ 31 (by rfl) 31 (by rfl) (.slice (some ⟨G, 0, none⟩) c cp) (.slice (some ⟨w9.heap.size, 0, none⟩) 1 1) (by rfl) (by rfl) _ _ HRUN.out ?_
           go_simp
           refine hK _ _ ?_
           clear hK K
           refine wpAnyIn_ready (rs := [8]) (by kernel_rfl) (by simp) ?_
           refine AllReadyIn.cons rfl (fun K hK => ?_) ?_
           ·skip
            go_simp
            refine hK _ _ ?_
            clear hK K
            refine wpAnyIn_done (by kernel_rfl) ?_ _
            have hw9 := l9
            have hg3 := H3.out.2.2.2.1
            have hgC : g3 ≠ C + 1 := by have := HG.out; omega
            have hgB : g3 ≠ B + 1 := by have := HG.out; have := Hn.out; omega
            have H6 : Hid _ := hd_step (v' := .slice (some ⟨g3, 0, none⟩) (c + 1) c3) H3.out.1 H3.out.2.1 H3.out.2.2.1 (by have := Hn.out; omega) hgC
            have t0 := H6.out.2.1.cell 0
            have t1 := H6.out.2.1.cell 1
            simp at t0 t1
            clear k1 k2 m1 m2 m3 f3
            gi_wp2_with fail
            refine (CallsIn.inRound l (callsIn_wide.2 (KA.out _))).mono ?_
            rintro e w7 ⟨rfl, hb7⟩
            have HFin := fin_step p' z' H6.out.1 H6.out.2.1 H6.out.2.2 hb7 hgB (by have := Hn.out; omega)
            have HK := round_kept (N := w.heap.size) (C := C) hb5 hb9 H3.out.2.2.2.2 HFin.out.2.2.2 hg3 HG.out.2.2.1 (by have := Hn.out; omega) (by omega) (by have := K5.out.2.2.2.2.2; omega) K5.out.2.2.2.2.1 (by have := K5.out.2.2.2.2.2; have := Hn.out; omega) HG.out.2.2.2 (by have := Hn.out; omega) (by have := Hn.out; omega)
            have HKK : Hid _ := HK
            have u0 := (H6.out.2.1.below hb7 H6.out.2.1.lt).cell 0
            have u1 := (H6.out.2.1.below hb7 H6.out.2.1.lt).cell 1
            have v0 := (H6.out.2.1.below hb7 H6.out.2.1.lt).free 0
            have v1 := (H6.out.2.1.below hb7 H6.out.2.1.lt).free 1
            simp at u0 u1
            clear HK t0 t1
            gi_wp2
            exact ⟨HKK.out.1, fun j h1 h2 => HKK.out.2.1 j (by have := Hn.out; omega) (by have := Hn.out; omega), HKK.out.2.2, p', z', HFin.out.1, c + 1, g3, c3, HFin.out.2.1, _, HFin.out.2.2.1, ⟨hgB, hgC, by have := HG.out; have := Hn.out; have := K5.out.2.2.2.2.2; have := hb5.size; have := hb9.size; omega⟩, fun j hj => (by by_cases e : j = c <;> simp only [e, if_true, if_false] <;> first | exact HQ.out | exact HO.out j (by omega)), HE.out.1, HE.out.2.1, HE.out.2.2⟩
           exact AllReadyIn.nil
          exact AllReadyIn.nil
         exact AllReadyIn.nil
        exact AllReadyIn.nil
       exact AllReadyIn.nil
      exact AllReadyIn.nil
     exact AllReadyIn.nil
    exact AllReadyIn.nil
   refine AllReadyIn.cons rfl (fun K hK => ?_) ?_
   ·skip
    go_simp
    refine hK _ _ ?_
    clear hK K
    refine wpAnyIn_ready (rs := [0, 2]) (by kernel_rfl) (by simp) ?_
    refine AllReadyIn.cons rfl (fun K hK => ?_) ?_
    ·skip
     go_simp
     refine hK _ _ ?_
     clear hK K
     refine wpAnyIn_ready (rs := [2]) (by kernel_rfl) (by simp) ?_
     refine AllReadyIn.cons rfl (fun K hK => ?_) ?_
     ·skip
      go_simp
      refine hK _ _ ?_
      clear hK K
      refine wpAnyIn_ready (rs := [3]) (by kernel_rfl) (by simp) ?_
      refine AllReadyIn.cons rfl (fun K hK => ?_) ?_
      ·skip
       go_simp
       refine hK _ _ ?_
       clear hK K
       refine wpAnyIn_ready (rs := [4]) (by kernel_rfl) (by simp) ?_
       refine AllReadyIn.cons rfl (fun K hK => ?_) ?_
       ·skip
        go_simp
        refine hK _ _ ?_
        clear hK K
        refine wpAnyIn_ready (rs := [5]) (by kernel_rfl) (by simp) ?_
        refine AllReadyIn.cons rfl (fun K hK => ?_) ?_
        ·skip
         go_simp
         gi_wp2_with (gi_at_call 74; refine (CallsIn.inRound l (callsIn_wide.2 (KC.out _))).mono ?_; rintro e w9 ⟨rfl, hb9'⟩; have hb9 := below_of_drew hb9'; clear hb9'; obtain ⟨g3, c3, w3, hrun, H3⟩ := app_one x (K6.out.2.2.1.below hb9) (K6.out.1.below hb9 K6.out.1.lt) (K6.out.2.1.below hb9 K6.out.2.1.lt) HG.out.1 HG.out.2.1 hc6; have HRUN : Hid _ := hrun; clear hrun; have l9 : C + 1 < w9.heap.size := Nat.lt_of_lt_of_le K6.out.2.1.lt hb9.size; have m1 := (K6.out.2.1.below hb9 K6.out.2.1.lt).cell 0; have m2 := ((K6.out.2.1.below hb9 K6.out.2.1.lt).alloc (.cells #[.string x] 9)).cell 0; have m3 := H3.out.2.2.1.cell 0; have f3 := H3.out.2.2.1.free 0; simp at m1 m2 m3)
         refine wpAnyIn_ready (rs := [6]) (by kernel_rfl) (by simp) ?_
         refine AllReadyIn.cons rfl (fun K hK => ?_) ?_
         ·skip
          go_simp
          refine hK _ _ ?_
          clear hK K
          refine wpAnyIn_ready (rs := [7]) (by kernel_rfl) (by simp) ?_
          refine AllReadyIn.cons rfl (fun K hK => ?_) ?_
          ·skip
           refine stepIn_append (by rfl) _ _ 31 (by rfl) 31 (by rfl) (.slice (some ⟨G, 0, none⟩) c cp) (.slice (some ⟨w9.heap.size, 0, none⟩) 1 1) (by rfl) (by rfl) _ _ HRUN.out ?_
           go_simp
           refine hK _ _ ?_
           clear hK K
           refine wpAnyIn_ready (rs := [8]) (by kernel_rfl) (by simp) ?_
           refine AllReadyIn.cons rfl (fun K hK => ?_) ?_
           ·skip
            go_simp
            refine hK _ _ ?_
            clear hK K
            refine wpAnyIn_done (by kernel_rfl) ?_ _
            have hw9 := l9
            have hg3 := H3.out.2.2.2.1
            have hgC : g3 ≠ C + 1 := by have := HG.out; omega
            have hgB : g3 ≠ B + 1 := by have := HG.out; have := Hn.out; omega
            have H6 : Hid _ := hd_step (v' := .slice (some ⟨g3, 0, none⟩) (c + 1) c3) H3.out.1 H3.out.2.1 H3.out.2.2.1 (by have := Hn.out; omega) hgC
            have t0 := H6.out.2.1.cell 0
            have t1 := H6.out.2.1.cell 1
            simp at t0 t1
            clear k1 k2 m1 m2 m3 f3
            gi_wp2_with fail
            refine (CallsIn.inRound l (callsIn_wide.2 (KA.out _))).mono ?_
            rintro e w7 ⟨rfl, hb7⟩
            have HFin := fin_step p' z' H6.out.1 H6.out.2.1 H6.out.2.2 hb7 hgB (by have := Hn.out; omega)
            have HK := round_kept (N := w.heap.size) (C := C) hb5 hb9 H3.out.2.2.2.2 HFin.out.2.2.2 hg3 HG.out.2.2.1 (by have := Hn.out; omega) (by omega) (by have := K5.out.2.2.2.2.2; omega) K5.out.2.2.2.2.1 (by have := K5.out.2.2.2.2.2; have := Hn.out; omega) HG.out.2.2.2 (by have := Hn.out; omega) (by have := Hn.out; omega)
            have HKK : Hid _ := HK
            have u0 := (H6.out.2.1.below hb7 H6.out.2.1.lt).cell 0
            have u1 := (H6.out.2.1.below hb7 H6.out.2.1.lt).cell 1
            have v0 := (H6.out.2.1.below hb7 H6.out.2.1.lt).free 0
            have v1 := (H6.out.2.1.below hb7 H6.out.2.1.lt).free 1
            simp at u0 u1
            clear HK t0 t1
            gi_wp2
            exact ⟨HKK.out.1, fun j h1 h2 => HKK.out.2.1 j (by have := Hn.out; omega) (by have := Hn.out; omega), HKK.out.2.2, p', z', HFin.out.1, c + 1, g3, c3, HFin.out.2.1, _, HFin.out.2.2.1, ⟨hgB, hgC, by have := HG.out; have := Hn.out; have := K5.out.2.2.2.2.2; have := hb5.size; have := hb9.size; omega⟩, fun j hj => (by by_cases e : j = c <;> simp only [e, if_true, if_false] <;> first | exact HQ.out | exact HO.out j (by omega)), HE.out.1, HE.out.2.1, HE.out.2.2⟩
           exact AllReadyIn.nil
          exact AllReadyIn.nil
         exact AllReadyIn.nil
        exact AllReadyIn.nil
       exact AllReadyIn.nil
      exact AllReadyIn.nil
     exact AllReadyIn.nil
    refine AllReadyIn.cons rfl (fun K hK => ?_) ?_
    ·skip
     go_simp
     refine hK _ _ ?_
     clear hK K
     refine wpAnyIn_ready (rs := [0, 3]) (by kernel_rfl) (by simp) ?_
     refine AllReadyIn.cons rfl (fun K hK => ?_) ?_
     ·skip
      go_simp
      refine hK _ _ ?_
      clear hK K
      refine wpAnyIn_ready (rs := [3]) (by kernel_rfl) (by simp) ?_
      refine AllReadyIn.cons rfl (fun K hK => ?_) ?_
      ·skip
       go_simp
       refine hK _ _ ?_
       clear hK K
       refine wpAnyIn_ready (rs := [4]) (by kernel_rfl) (by simp) ?_
       refine AllReadyIn.cons rfl (fun K hK => ?_) ?_
       ·skip
        go_simp
        refine hK _ _ ?_
        clear hK K
        refine wpAnyIn_ready (rs := [5]) (by kernel_rfl) (by simp) ?_
        refine AllReadyIn.cons rfl (fun K hK => ?_) ?_
        ·skip
         go_simp
         gi_wp2_with (gi_at_call 74; refine (CallsIn.inRound l (callsIn_wide.2 (KC.out _))).mono ?_; rintro e w9 ⟨rfl, hb9'⟩; have hb9 := below_of_drew hb9'; clear hb9'; obtain ⟨g3, c3, w3, hrun, H3⟩ := app_one x (K6.out.2.2.1.below hb9) (K6.out.1.below hb9 K6.out.1.lt) (K6.out.2.1.below hb9 K6.out.2.1.lt) HG.out.1 HG.out.2.1 hc6; have HRUN : Hid _ := hrun; clear hrun; have l9 : C + 1 < w9.heap.size := Nat.lt_of_lt_of_le K6.out.2.1.lt hb9.size; have m1 := (K6.out.2.1.below hb9 K6.out.2.1.lt).cell 0; have m2 := ((K6.out.2.1.below hb9 K6.out.2.1.lt).alloc (.cells #[.string x] 9)).cell 0; have m3 := H3.out.2.2.1.cell 0; have f3 := H3.out.2.2.1.free 0; simp at m1 m2 m3)
         refine wpAnyIn_ready (rs := [6]) (by kernel_rfl) (by simp) ?_
         refine AllReadyIn.cons rfl (fun K hK => ?_) ?_
         ·skip
          go_simp
          refine hK _ _ ?_
          clear hK K
          refine wpAnyIn_ready (rs := [7]) (by kernel_rfl) (by simp) ?_
          refine AllReadyIn.cons rfl (fun K hK => ?_) ?_
          ·skip
           refine stepIn_append (by rfl) _ _ 31 (by rfl) 31 (by rfl) (.slice (some ⟨G, 0, none⟩) c cp) (.slice (some ⟨w9.heap.size, 0, none⟩) 1 1) (by rfl) (by rfl) _ _ HRUN.out ?_
           go_simp
           refine hK _ _ ?_
           clear hK K
           refine wpAnyIn_ready (rs := [8]) (by kernel_rfl) (by simp) ?_
           refine AllReadyIn.cons rfl (fun K hK => ?_) ?_
           ·skip
            go_simp
            refine hK _ _ ?_
            clear hK K
            refine wpAnyIn_done (by kernel_rfl) ?_ _
            have hw9 := l9
            have hg3 := H3.out.2.2.2.1
            have hgC : g3 ≠ C + 1 := by have := HG.out; omega
            have hgB : g3 ≠ B + 1 := by have := HG.out; have := Hn.out; omega
            have H6 : Hid _ := hd_step (v' := .slice (some ⟨g3, 0, none⟩) (c + 1) c3) H3.out.1 H3.out.2.1 H3.out.2.2.1 (by have := Hn.out; omega) hgC
            have t0 := H6.out.2.1.cell 0
            have t1 := H6.out.2.1.cell 1
            simp at t0 t1
            clear k1 k2 m1 m2 m3 f3
            gi_wp2_with fail
            refine (CallsIn.inRound l (callsIn_wide.2 (KA.out _))).mono ?_
            rintro e w7 ⟨rfl, hb7⟩
            have HFin := fin_step p' z' H6.out.1 H6.out.2.1 H6.out.2.2 hb7 hgB (by have := Hn.out; omega)
            have HK := round_kept (N := w.heap.size) (C := C) hb5 hb9 H3.out.2.2.2.2 HFin.out.2.2.2 hg3 HG.out.2.2.1 (by have := Hn.out; omega) (by omega) (by have := K5.out.2.2.2.2.2; omega) K5.out.2.2.2.2.1 (by have := K5.out.2.2.2.2.2; have := Hn.out; omega) HG.out.2.2.2 (by have := Hn.out; omega) (by have := Hn.out; omega)
            have HKK : Hid _ := HK
            have u0 := (H6.out.2.1.below hb7 H6.out.2.1.lt).cell 0
            have u1 := (H6.out.2.1.below hb7 H6.out.2.1.lt).cell 1
            have v0 := (H6.out.2.1.below hb7 H6.out.2.1.lt).free 0
            have v1 := (H6.out.2.1.below hb7 H6.out.2.1.lt).free 1
            simp at u0 u1
            clear HK t0 t1
            gi_wp2
            exact ⟨HKK.out.1, fun j h1 h2 => HKK.out.2.1 j (by have := Hn.out; omega) (by have := Hn.out; omega), HKK.out.2.2, p', z', HFin.out.1, c + 1, g3, c3, HFin.out.2.1, _, HFin.out.2.2.1, ⟨hgB, hgC, by have := HG.out; have := Hn.out; have := K5.out.2.2.2.2.2; have := hb5.size; have := hb9.size; omega⟩, fun j hj => (by by_cases e : j = c <;> simp only [e, if_true, if_false] <;> first | exact HQ.out | exact HO.out j (by omega)), HE.out.1, HE.out.2.1, HE.out.2.2⟩
           exact AllReadyIn.nil
          exact AllReadyIn.nil
         exact AllReadyIn.nil
        exact AllReadyIn.nil
       exact AllReadyIn.nil
      exact AllReadyIn.nil
     refine AllReadyIn.cons rfl (fun K hK => ?_) ?_
     ·skip
      go_simp
      refine hK _ _ ?_
      clear hK K
      refine wpAnyIn_ready (rs := [0, 4]) (by kernel_rfl) (by simp) ?_
      refine AllReadyIn.cons rfl (fun K hK => ?_) ?_
      ·skip
       go_simp
       refine hK _ _ ?_
       clear hK K
       refine wpAnyIn_ready (rs := [4]) (by kernel_rfl) (by simp) ?_
       refine AllReadyIn.cons rfl (fun K hK => ?_) ?_
       ·skip
        go_simp
        refine hK _ _ ?_
        clear hK K
        refine wpAnyIn_ready (rs := [5]) (by kernel_rfl) (by simp) ?_
        refine AllReadyIn.cons rfl (fun K hK => ?_) ?_
        ·skip
         go_simp
         gi_wp2_with (gi_at_call 74; refine (CallsIn.inRound l (callsIn_wide.2 (KC.out _))).mono ?_; rintro e w9 ⟨rfl, hb9'⟩; have hb9 := below_of_drew hb9'; clear hb9'; obtain ⟨g3, c3, w3, hrun, H3⟩ := app_one x (K6.out.2.2.1.below hb9) (K6.out.1.below hb9 K6.out.1.lt) (K6.out.2.1.below hb9 K6.out.2.1.lt) HG.out.1 HG.out.2.1 hc6; have HRUN : Hid _ := hrun; clear hrun; have l9 : C + 1 < w9.heap.size := Nat.lt_of_lt_of_le K6.out.2.1.lt hb9.size; have m1 := (K6.out.2.1.below hb9 K6.out.2.1.lt).cell 0; have m2 := ((K6.out.2.1.below hb9 K6.out.2.1.lt).alloc (.cells #[.string x] 9)).cell 0; have m3 := H3.out.2.2.1.cell 0; have f3 := H3.out.2.2.1.free 0; simp at m1 m2 m3)
         refine wpAnyIn_ready (rs := [6]) (by kernel_rfl) (by simp) ?_
         refine AllReadyIn.cons rfl (fun K hK => ?_) ?_
         ·skip
          go_simp
          refine hK _ _ ?_
          clear hK K
          refine wpAnyIn_ready (rs := [7]) (by kernel_rfl) (by simp) ?_
          refine AllReadyIn.cons rfl (fun K hK => ?_) ?_
          ·skip
           refine stepIn_append (by rfl) _ _ 31 (by rfl) 31 (by rfl) (.slice (some ⟨G, 0, none⟩) c cp) (.slice (some ⟨w9.heap.size, 0, none⟩) 1 1) (by rfl) (by rfl) _ _ HRUN.out ?_
           go_simp
           refine hK _ _ ?_
           clear hK K
           refine wpAnyIn_ready (rs := [8]) (by kernel_rfl) (by simp) ?_
           refine AllReadyIn.cons rfl (fun K hK => ?_) ?_
           ·skip
            go_simp
            refine hK _ _ ?_
            clear hK K
            refine wpAnyIn_done (by kernel_rfl) ?_ _
            have hw9 := l9
            have hg3 := H3.out.2.2.2.1
            have hgC : g3 ≠ C + 1 := by have := HG.out; omega
            have hgB : g3 ≠ B + 1 := by have := HG.out; have := Hn.out; omega
            have H6 : Hid _ := hd_step (v' := .slice (some ⟨g3, 0, none⟩) (c + 1) c3) H3.out.1 H3.out.2.1 H3.out.2.2.1 (by have := Hn.out; omega) hgC
            have t0 := H6.out.2.1.cell 0
            have t1 := H6.out.2.1.cell 1
            simp at t0 t1
            clear k1 k2 m1 m2 m3 f3
            gi_wp2_with fail
            refine (CallsIn.inRound l (callsIn_wide.2 (KA.out _))).mono ?_
            rintro e w7 ⟨rfl, hb7⟩
            have HFin := fin_step p' z' H6.out.1 H6.out.2.1 H6.out.2.2 hb7 hgB (by have := Hn.out; omega)
            have HK := round_kept (N := w.heap.size) (C := C) hb5 hb9 H3.out.2.2.2.2 HFin.out.2.2.2 hg3 HG.out.2.2.1 (by have := Hn.out; omega) (by omega) (by have := K5.out.2.2.2.2.2; omega) K5.out.2.2.2.2.1 (by have := K5.out.2.2.2.2.2; have := Hn.out; omega) HG.out.2.2.2 (by have := Hn.out; omega) (by have := Hn.out; omega)
            have HKK : Hid _ := HK
            have u0 := (H6.out.2.1.below hb7 H6.out.2.1.lt).cell 0
            have u1 := (H6.out.2.1.below hb7 H6.out.2.1.lt).cell 1
            have v0 := (H6.out.2.1.below hb7 H6.out.2.1.lt).free 0
            have v1 := (H6.out.2.1.below hb7 H6.out.2.1.lt).free 1
            simp at u0 u1
            clear HK t0 t1
            gi_wp2
            exact ⟨HKK.out.1, fun j h1 h2 => HKK.out.2.1 j (by have := Hn.out; omega) (by have := Hn.out; omega), HKK.out.2.2, p', z', HFin.out.1, c + 1, g3, c3, HFin.out.2.1, _, HFin.out.2.2.1, ⟨hgB, hgC, by have := HG.out; have := Hn.out; have := K5.out.2.2.2.2.2; have := hb5.size; have := hb9.size; omega⟩, fun j hj => (by by_cases e : j = c <;> simp only [e, if_true, if_false] <;> first | exact HQ.out | exact HO.out j (by omega)), HE.out.1, HE.out.2.1, HE.out.2.2⟩
           exact AllReadyIn.nil
          exact AllReadyIn.nil
         exact AllReadyIn.nil
        exact AllReadyIn.nil
       exact AllReadyIn.nil
      refine AllReadyIn.cons rfl (fun K hK => ?_) ?_
      ·skip
       go_simp
       refine hK _ _ ?_
       clear hK K
       refine wpAnyIn_ready (rs := [0, 5]) (by kernel_rfl) (by simp) ?_
       refine AllReadyIn.cons rfl (fun K hK => ?_) ?_
       ·skip
        go_simp
        refine hK _ _ ?_
        clear hK K
        refine wpAnyIn_ready (rs := [5]) (by kernel_rfl) (by simp) ?_
        refine AllReadyIn.cons rfl (fun K hK => ?_) ?_
        ·skip
         go_simp
         gi_wp2_with (gi_at_call 74; refine (CallsIn.inRound l (callsIn_wide.2 (KC.out _))).mono ?_; rintro e w9 ⟨rfl, hb9'⟩; have hb9 := below_of_drew hb9'; clear hb9'; obtain ⟨g3, c3, w3, hrun, H3⟩ := app_one x (K6.out.2.2.1.below hb9) (K6.out.1.below hb9 K6.out.1.lt) (K6.out.2.1.below hb9 K6.out.2.1.lt) HG.out.1 HG.out.2.1 hc6; have HRUN : Hid _ := hrun; clear hrun; have l9 : C + 1 < w9.heap.size := Nat.lt_of_lt_of_le K6.out.2.1.lt hb9.size; have m1 := (K6.out.2.1.below hb9 K6.out.2.1.lt).cell 0; have m2 := ((K6.out.2.1.below hb9 K6.out.2.1.lt).alloc (.cells #[.string x] 9)).cell 0; have m3 := H3.out.2.2.1.cell 0; have f3 := H3.out.2.2.1.free 0; simp at m1 m2 m3)
         refine wpAnyIn_ready (rs := [6]) (by kernel_rfl) (by simp) ?_
         refine AllReadyIn.cons rfl (fun K hK => ?_) ?_
         ·skip
          go_simp
          refine hK _ _ ?_
          clear hK K
          refine wpAnyIn_ready (rs := [7]) (by kernel_rfl) (by simp) ?_
          refine AllReadyIn.cons rfl (fun K hK => ?_) ?_
          ·skip
           refine stepIn_append (by rfl) _ _ 31 (by rfl) 31 (by rfl) (.slice (some ⟨G, 0, none⟩) c cp) (.slice (some ⟨w9.heap.size, 0, none⟩) 1 1) (by rfl) (by rfl) _ _ HRUN.out ?_
           go_simp
           refine hK _ _ ?_
           clear hK K
           refine wpAnyIn_ready (rs := [8]) (by kernel_rfl) (by simp) ?_
           refine AllReadyIn.cons rfl (fun K hK => ?_) ?_
           ·skip
            go_simp
            refine hK _ _ ?_
            clear hK K
            refine wpAnyIn_done (by kernel_rfl) ?_ _
            have hw9 := l9
            have hg3 := H3.out.2.2.2.1
            have hgC : g3 ≠ C + 1 := by have := HG.out; omega
            have hgB : g3 ≠ B + 1 := by have := HG.out; have := Hn.out; omega
            have H6 : Hid _ := hd_step (v' := .slice (some ⟨g3, 0, none⟩) (c + 1) c3) H3.out.1 H3.out.2.1 H3.out.2.2.1 (by have := Hn.out; omega) hgC
            have t0 := H6.out.2.1.cell 0
            have t1 := H6.out.2.1.cell 1
            simp at t0 t1
            clear k1 k2 m1 m2 m3 f3
            gi_wp2_with fail
            refine (CallsIn.inRound l (callsIn_wide.2 (KA.out _))).mono ?_
            rintro e w7 ⟨rfl, hb7⟩
            have HFin := fin_step p' z' H6.out.1 H6.out.2.1 H6.out.2.2 hb7 hgB (by have := Hn.out; omega)
            have HK := round_kept (N := w.heap.size) (C := C) hb5 hb9 H3.out.2.2.2.2 HFin.out.2.2.2 hg3 HG.out.2.2.1 (by have := Hn.out; omega) (by omega) (by have := K5.out.2.2.2.2.2; omega) K5.out.2.2.2.2.1 (by have := K5.out.2.2.2.2.2; have := Hn.out; omega) HG.out.2.2.2 (by have := Hn.out; omega) (by have := Hn.out; omega)
            have HKK : Hid _ := HK
            have u0 := (H6.out.2.1.below hb7 H6.out.2.1.lt).cell 0
            have u1 := (H6.out.2.1.below hb7 H6.out.2.1.lt).cell 1
            have v0 := (H6.out.2.1.below hb7 H6.out.2.1.lt).free 0
            have v1 := (H6.out.2.1.below hb7 H6.out.2.1.lt).free 1
            simp at u0 u1
            clear HK t0 t1
            gi_wp2
            exact ⟨HKK.out.1, fun j h1 h2 => HKK.out.2.1 j (by have := Hn.out; omega) (by have := Hn.out; omega), HKK.out.2.2, p', z', HFin.out.1, c + 1, g3, c3, HFin.out.2.1, _, HFin.out.2.2.1, ⟨hgB, hgC, by have := HG.out; have := Hn.out; have := K5.out.2.2.2.2.2; have := hb5.size; have := hb9.size; omega⟩, fun j hj => (by by_cases e : j = c <;> simp only [e, if_true, if_false] <;> first | exact HQ.out | exact HO.out j (by omega)), HE.out.1, HE.out.2.1, HE.out.2.2⟩
           exact AllReadyIn.nil
          exact AllReadyIn.nil
         exact AllReadyIn.nil
        exact AllReadyIn.nil
       refine AllReadyIn.cons rfl (fun K hK => ?_) ?_
       ·skip
        go_simp
        gi_wp2_with (gi_at_call 74; refine (CallsIn.inRound l (callsIn_wide.2 (KC.out _))).mono ?_; rintro e w9 ⟨rfl, hb9'⟩; have hb9 := below_of_drew hb9'; clear hb9'; obtain ⟨g3, c3, w3, hrun, H3⟩ := app_one x (K6.out.2.2.1.below hb9) (K6.out.1.below hb9 K6.out.1.lt) (K6.out.2.1.below hb9 K6.out.2.1.lt) HG.out.1 HG.out.2.1 hc6; have HRUN : Hid _ := hrun; clear hrun; have l9 : C + 1 < w9.heap.size := Nat.lt_of_lt_of_le K6.out.2.1.lt hb9.size; have m1 := (K6.out.2.1.below hb9 K6.out.2.1.lt).cell 0; have m2 := ((K6.out.2.1.below hb9 K6.out.2.1.lt).alloc (.cells #[.string x] 9)).cell 0; have m3 := H3.out.2.2.1.cell 0; have f3 := H3.out.2.2.1.free 0; simp at m1 m2 m3)
        refine wpAnyIn_ready (rs := [0, 6]) (by kernel_rfl) (by simp) ?_
        refine AllReadyIn.cons rfl (fun K hK => ?_) ?_
        ·skip
         go_simp
         refine hK _ _ ?_
         clear hK K
         refine wpAnyIn_ready (rs := [6]) (by kernel_rfl) (by simp) ?_
         refine AllReadyIn.cons rfl (fun K hK => ?_) ?_
         ·skip
          go_simp
          refine hK _ _ ?_
          clear hK K
          refine wpAnyIn_ready (rs := [7]) (by kernel_rfl) (by simp) ?_
          refine AllReadyIn.cons rfl (fun K hK => ?_) ?_
          ·skip
           refine stepIn_append (by rfl) _ _ 31 (by rfl) 31 (by rfl) (.slice (some ⟨G, 0, none⟩) c cp) (.slice (some ⟨w9.heap.size, 0, none⟩) 1 1) (by rfl) (by rfl) _ _ HRUN.out ?_
           go_simp
           refine hK _ _ ?_
           clear hK K
           refine wpAnyIn_ready (rs := [8]) (by kernel_rfl) (by simp) ?_
           refine AllReadyIn.cons rfl (fun K hK => ?_) ?_
           ·skip
            go_simp
            refine hK _ _ ?_
            clear hK K
            refine wpAnyIn_done (by kernel_rfl) ?_ _
            have hw9 := l9
            have hg3 := H3.out.2.2.2.1
            have hgC : g3 ≠ C + 1 := by have := HG.out; omega
            have hgB : g3 ≠ B + 1 := by have := HG.out; have := Hn.out; omega
            have H6 : Hid _ := hd_step (v' := .slice (some ⟨g3, 0, none⟩) (c + 1) c3) H3.out.1 H3.out.2.1 H3.out.2.2.1 (by have := Hn.out; omega) hgC
            have t0 := H6.out.2.1.cell 0
            have t1 := H6.out.2.1.cell 1
            simp at t0 t1
            clear k1 k2 m1 m2 m3 f3
            gi_wp2_with fail
            refine (CallsIn.inRound l (callsIn_wide.2 (KA.out _))).mono ?_
            rintro e w7 ⟨rfl, hb7⟩
            have HFin := fin_step p' z' H6.out.1 H6.out.2.1 H6.out.2.2 hb7 hgB (by have := Hn.out; omega)
            have HK := round_kept (N := w.heap.size) (C := C) hb5 hb9 H3.out.2.2.2.2 HFin.out.2.2.2 hg3 HG.out.2.2.1 (by have := Hn.out; omega) (by omega) (by have := K5.out.2.2.2.2.2; omega) K5.out.2.2.2.2.1 (by have := K5.out.2.2.2.2.2; have := Hn.out; omega) HG.out.2.2.2 (by have := Hn.out; omega) (by have := Hn.out; omega)
            have HKK : Hid _ := HK
            have u0 := (H6.out.2.1.below hb7 H6.out.2.1.lt).cell 0
            have u1 := (H6.out.2.1.below hb7 H6.out.2.1.lt).cell 1
            have v0 := (H6.out.2.1.below hb7 H6.out.2.1.lt).free 0
            have v1 := (H6.out.2.1.below hb7 H6.out.2.1.lt).free 1
            simp at u0 u1
            clear HK t0 t1
            gi_wp2
            exact ⟨HKK.out.1, fun j h1 h2 => HKK.out.2.1 j (by have := Hn.out; omega) (by have := Hn.out; omega), HKK.out.2.2, p', z', HFin.out.1, c + 1, g3, c3, HFin.out.2.1, _, HFin.out.2.2.1, ⟨hgB, hgC, by have := HG.out; have := Hn.out; have := K5.out.2.2.2.2.2; have := hb5.size; have := hb9.size; omega⟩, fun j hj => (by by_cases e : j = c <;> simp only [e, if_true, if_false] <;> first | exact HQ.out | exact HO.out j (by omega)), HE.out.1, HE.out.2.1, HE.out.2.2⟩
           exact AllReadyIn.nil
          exact AllReadyIn.nil
         exact AllReadyIn.nil
        refine AllReadyIn.cons rfl (fun K hK => ?_) ?_
        ·skip
         go_simp
         refine hK _ _ ?_
         clear hK K
         refine wpAnyIn_ready (rs := [0]) (by kernel_rfl) (by simp) ?_
         refine AllReadyIn.cons rfl (fun K hK => ?_) ?_
         ·skip
          go_simp
          refine hK _ _ ?_
          clear hK K
          refine wpAnyIn_ready (rs := [7]) (by kernel_rfl) (by simp) ?_
          refine AllReadyIn.cons rfl (fun K hK => ?_) ?_
          ·skip
           refine stepIn_append (by rfl) _ _ 31 (by rfl) 31 (by rfl) (.slice (some ⟨G, 0, none⟩) c cp) (.slice (some ⟨w9.heap.size, 0, none⟩) 1 1) (by rfl) (by rfl) _ _ HRUN.out ?_
           go_simp
           refine hK _ _ ?_
           clear hK K
           refine wpAnyIn_ready (rs := [8]) (by kernel_rfl) (by simp) ?_
           refine AllReadyIn.cons rfl (fun K hK => ?_) ?_
           ·skip
            go_simp
            refine hK _ _ ?_
            clear hK K
            refine wpAnyIn_done (by kernel_rfl) ?_ _
            have hw9 := l9
            have hg3 := H3.out.2.2.2.1
            have hgC : g3 ≠ C + 1 := by have := HG.out; omega
            have hgB : g3 ≠ B + 1 := by have := HG.out; have := Hn.out; omega
            have H6 : Hid _ := hd_step (v' := .slice (some ⟨g3, 0, none⟩) (c + 1) c3) H3.out.1 H3.out.2.1 H3.out.2.2.1 (by have := Hn.out; omega) hgC
            have t0 := H6.out.2.1.cell 0
            have t1 := H6.out.2.1.cell 1
            simp at t0 t1
            clear k1 k2 m1 m2 m3 f3
            gi_wp2_with fail
            refine (CallsIn.inRound l (callsIn_wide.2 (KA.out _))).mono ?_
            rintro e w7 ⟨rfl, hb7⟩
            have HFin := fin_step p' z' H6.out.1 H6.out.2.1 H6.out.2.2 hb7 hgB (by have := Hn.out; omega)
            have HK := round_kept (N := w.heap.size) (C := C) hb5 hb9 H3.out.2.2.2.2 HFin.out.2.2.2 hg3 HG.out.2.2.1 (by have := Hn.out; omega) (by omega) (by have := K5.out.2.2.2.2.2; omega) K5.out.2.2.2.2.1 (by have := K5.out.2.2.2.2.2; have := Hn.out; omega) HG.out.2.2.2 (by have := Hn.out; omega) (by have := Hn.out; omega)
            have HKK : Hid _ := HK
            have u0 := (H6.out.2.1.below hb7 H6.out.2.1.lt).cell 0
            have u1 := (H6.out.2.1.below hb7 H6.out.2.1.lt).cell 1
            have v0 := (H6.out.2.1.below hb7 H6.out.2.1.lt).free 0
            have v1 := (H6.out.2.1.below hb7 H6.out.2.1.lt).free 1
            simp at u0 u1
            clear HK t0 t1
            gi_wp2
            exact ⟨HKK.out.1, fun j h1 h2 => HKK.out.2.1 j (by have := Hn.out; omega) (by have := Hn.out; omega), HKK.out.2.2, p', z', HFin.out.1, c + 1, g3, c3, HFin.out.2.1, _, HFin.out.2.2.1, ⟨hgB, hgC, by have := HG.out; have := Hn.out; have := K5.out.2.2.2.2.2; have := hb5.size; have := hb9.size; omega⟩, fun j hj => (by by_cases e : j = c <;> simp only [e, if_true, if_false] <;> first | exact HQ.out | exact HO.out j (by omega)), HE.out.1, HE.out.2.1, HE.out.2.2⟩
           exact AllReadyIn.nil
          exact AllReadyIn.nil
         exact AllReadyIn.nil
        exact AllReadyIn.nil
       exact AllReadyIn.nil
      exact AllReadyIn.nil
     exact AllReadyIn.nil
    exact AllReadyIn.nil
   refine AllReadyIn.cons rfl (fun K hK => ?_) ?_
   ·skip
    go_simp
    refine hK _ _ ?_
    clear hK K
    refine wpAnyIn_ready (rs := [0, 1]) (by kernel_rfl) (by simp) ?_
    refine AllReadyIn.cons rfl (fun K hK => ?_) ?_
    ·skip
     go_simp
     refine hK _ _ ?_
     clear hK K
     refine wpAnyIn_ready (rs := [1]) (by kernel_rfl) (by simp) ?_
     refine AllReadyIn.cons rfl (fun K hK => ?_) ?_
     ·skip
      go_simp
      refine hK _ _ ?_
      clear hK K
      refine wpAnyIn_ready (rs := [3]) (by kernel_rfl) (by simp) ?_
      refine AllReadyIn.cons rfl (fun K hK => ?_) ?_
      ·skip
       go_simp
       refine hK _ _ ?_
       clear hK K
       refine wpAnyIn_ready (rs := [4]) (by kernel_rfl) (by simp) ?_
       refine AllReadyIn.cons rfl (fun K hK => ?_) ?_
       ·skip
        go_simp
        refine hK _ _ ?_
        clear hK K
        refine wpAnyIn_ready (rs := [5]) (by kernel_rfl) (by simp) ?_
        refine AllReadyIn.cons rfl (fun K hK => ?_) ?_
        ·skip
         go_simp
         gi_wp2_with (gi_at_call 74; refine (CallsIn.inRound l (callsIn_wide.2 (KC.out _))).mono ?_; rintro e w9 ⟨rfl, hb9'⟩; have hb9 := below_of_drew hb9'; clear hb9'; obtain ⟨g3, c3, w3, hrun, H3⟩ := app_one x (K6.out.2.2.1.below hb9) (K6.out.1.below hb9 K6.out.1.lt) (K6.out.2.1.below hb9 K6.out.2.1.lt) HG.out.1 HG.out.2.1 hc6; have HRUN : Hid _ := hrun; clear hrun; have l9 : C + 1 < w9.heap.size := Nat.lt_of_lt_of_le K6.out.2.1.lt hb9.size; have m1 := (K6.out.2.1.below hb9 K6.out.2.1.lt).cell 0; have m2 := ((K6.out.2.1.below hb9 K6.out.2.1.lt).alloc (.cells #[.string x] 9)).cell 0; have m3 := H3.out.2.2.1.cell 0; have f3 := H3.out.2.2.1.free 0; simp at m1 m2 m3)
         refine wpAnyIn_ready (rs := [6]) (by kernel_rfl) (by simp) ?_
         refine AllReadyIn.cons rfl (fun K hK => ?_) ?_
         ·skip
          go_simp
          refine hK _ _ ?_
          clear hK K
          refine wpAnyIn_ready (rs := [7]) (by kernel_rfl) (by simp) ?_
          refine AllReadyIn.cons rfl (fun K hK => ?_) ?_
          ·skip
           refine stepIn_append (by rfl) _ _ 31 (by rfl) 31 (by rfl) (.slice (some ⟨G, 0, none⟩) c cp) (.slice (some ⟨w9.heap.size, 0, none⟩) 1 1) (by rfl) (by rfl) _ _ HRUN.out ?_
           go_simp
           refine hK _ _ ?_
           clear hK K
           refine wpAnyIn_ready (rs := [8]) (by kernel_rfl) (by simp) ?_
           refine AllReadyIn.cons rfl (fun K hK => ?_) ?_
           ·skip
            go_simp
            refine hK _ _ ?_
            clear hK K
            refine wpAnyIn_done (by kernel_rfl) ?_ _
            have hw9 := l9
            have hg3 := H3.out.2.2.2.1
            have hgC : g3 ≠ C + 1 := by have := HG.out; omega
            have hgB : g3 ≠ B + 1 := by have := HG.out; have := Hn.out; omega
            have H6 : Hid _ := hd_step (v' := .slice (some ⟨g3, 0, none⟩) (c + 1) c3) H3.out.1 H3.out.2.1 H3.out.2.2.1 (by have := Hn.out; omega) hgC
            have t0 := H6.out.2.1.cell 0
            have t1 := H6.out.2.1.cell 1
            simp at t0 t1
            clear k1 k2 m1 m2 m3 f3
            gi_wp2_with fail
            refine (CallsIn.inRound l (callsIn_wide.2 (KA.out _))).mono ?_
            rintro e w7 ⟨rfl, hb7⟩
            have HFin := fin_step p' z' H6.out.1 H6.out.2.1 H6.out.2.2 hb7 hgB (by have := Hn.out; omega)
            have HK := round_kept (N := w.heap.size) (C := C) hb5 hb9 H3.out.2.2.2.2 HFin.out.2.2.2 hg3 HG.out.2.2.1 (by have := Hn.out; omega) (by omega) (by have := K5.out.2.2.2.2.2; omega) K5.out.2.2.2.2.1 (by have := K5.out.2.2.2.2.2; have := Hn.out; omega) HG.out.2.2.2 (by have := Hn.out; omega) (by have := Hn.out; omega)
            have HKK : Hid _ := HK
            have u0 := (H6.out.2.1.below hb7 H6.out.2.1.lt).cell 0
            have u1 := (H6.out.2.1.below hb7 H6.out.2.1.lt).cell 1
            have v0 := (H6.out.2.1.below hb7 H6.out.2.1.lt).free 0
            have v1 := (H6.out.2.1.below hb7 H6.out.2.1.lt).free 1
            simp at u0 u1
            clear HK t0 t1
            gi_wp2
            exact ⟨HKK.out.1, fun j h1 h2 => HKK.out.2.1 j (by have := Hn.out; omega) (by have := Hn.out; omega), HKK.out.2.2, p', z', HFin.out.1, c + 1, g3, c3, HFin.out.2.1, _, HFin.out.2.2.1, ⟨hgB, hgC, by have := HG.out; have := Hn.out; have := K5.out.2.2.2.2.2; have := hb5.size; have := hb9.size; omega⟩, fun j hj => (by by_cases e : j = c <;> simp only [e, if_true, if_false] <;> first | exact HQ.out | exact HO.out j (by omega)), HE.out.1, HE.out.2.1, HE.out.2.2⟩
           exact AllReadyIn.nil
          exact AllReadyIn.nil
         exact AllReadyIn.nil
        exact AllReadyIn.nil
       exact AllReadyIn.nil
      exact AllReadyIn.nil
     exact AllReadyIn.nil
    refine AllReadyIn.cons rfl (fun K hK => ?_) ?_
    ·skip
     go_simp
     refine hK _ _ ?_
     clear hK K
     refine wpAnyIn_ready (rs := [0, 3]) (by kernel_rfl) (by simp) ?_
     refine AllReadyIn.cons rfl (fun K hK => ?_) ?_
     ·skip
      go_simp
      refine hK _ _ ?_
      clear hK K
      refine wpAnyIn_ready (rs := [3]) (by kernel_rfl) (by simp) ?_
      refine AllReadyIn.cons rfl (fun K hK => ?_) ?_
      ·skip
       go_simp
       refine hK _ _ ?_
       clear hK K
       refine wpAnyIn_ready (rs := [4]) (by kernel_rfl) (by simp) ?_
       refine AllReadyIn.cons rfl (fun K hK => ?_) ?_
       ·skip
        go_simp
        refine hK _ _ ?_
        clear hK K
        refine wpAnyIn_ready (rs := [5]) (by kernel_rfl) (by simp) ?_
        refine AllReadyIn.cons rfl (fun K hK => ?_) ?_
        ·skip
         go_simp
         gi_wp2_with (gi_at_call 74; refine (CallsIn.inRound l (callsIn_wide.2 (KC.out _))).mono ?_; rintro e w9 ⟨rfl, hb9'⟩; have hb9 := below_of_drew hb9'; clear hb9'; obtain ⟨g3, c3, w3, hrun, H3⟩ := app_one x (K6.out.2.2.1.below hb9) (K6.out.1.below hb9 K6.out.1.lt) (K6.out.2.1.below hb9 K6.out.2.1.lt) HG.out.1 HG.out.2.1 hc6; have HRUN : Hid _ := hrun; clear hrun; have l9 : C + 1 < w9.heap.size := Nat.lt_of_lt_of_le K6.out.2.1.lt hb9.size; have m1 := (K6.out.2.1.below hb9 K6.out.2.1.lt).cell 0; have m2 := ((K6.out.2.1.below hb9 K6.out.2.1.lt).alloc (.cells #[.string x] 9)).cell 0; have m3 := H3.out.2.2.1.cell 0; have f3 := H3.out.2.2.1.free 0; simp at m1 m2 m3)
         refine wpAnyIn_ready (rs := [6]) (by kernel_rfl) (by simp) ?_
         refine AllReadyIn.cons rfl (fun K hK => ?_) ?_
         ·skip
          go_simp
          refine hK _ _ ?_
          clear hK K
          refine wpAnyIn_ready (rs := [7]) (by kernel_rfl) (by simp) ?_
          refine AllReadyIn.cons rfl (fun K hK => ?_) ?_
          ·skip
           refine stepIn_append (by rfl) _ _ 31 (by rfl) 31 (by rfl) (.slice (some ⟨G, 0, none⟩) c cp) (.slice (some ⟨w9.heap.size, 0, none⟩) 1 1) (by rfl) (by rfl) _ _ HRUN.out ?_
           go_simp
           refine hK _ _ ?_
           clear hK K
           refine wpAnyIn_ready (rs := [8]) (by kernel_rfl) (by simp) ?_
           refine AllReadyIn.cons rfl (fun K hK => ?_) ?_
           ·skip
            go_simp
            refine hK _ _ ?_
            clear hK K
            refine wpAnyIn_done (by kernel_rfl) ?_ _
            have hw9 := l9
            have hg3 := H3.out.2.2.2.1
            have hgC : g3 ≠ C + 1 := by have := HG.out; omega
            have hgB : g3 ≠ B + 1 := by have := HG.out; have := Hn.out; omega
            have H6 : Hid _ := hd_step (v' := .slice (some ⟨g3, 0, none⟩) (c + 1) c3) H3.out.1 H3.out.2.1 H3.out.2.2.1 (by have := Hn.out; omega) hgC
            have t0 := H6.out.2.1.cell 0
            have t1 := H6.out.2.1.cell 1
            simp at t0 t1
            clear k1 k2 m1 m2 m3 f3
            gi_wp2_with fail
            refine (CallsIn.inRound l (callsIn_wide.2 (KA.out _))).mono ?_
            rintro e w7 ⟨rfl, hb7⟩
            have HFin := fin_step p' z' H6.out.1 H6.out.2.1 H6.out.2.2 hb7 hgB (by have := Hn.out; omega)
            have HK := round_kept (N := w.heap.size) (C := C) hb5 hb9 H3.out.2.2.2.2 HFin.out.2.2.2 hg3 HG.out.2.2.1 (by have := Hn.out; omega) (by omega) (by have := K5.out.2.2.2.2.2; omega) K5.out.2.2.2.2.1 (by have := K5.out.2.2.2.2.2; have := Hn.out; omega) HG.out.2.2.2 (by have := Hn.out; omega) (by have := Hn.out; omega)
            have HKK : Hid _ := HK
            have u0 := (H6.out.2.1.below hb7 H6.out.2.1.lt).cell 0
            have u1 := (H6.out.2.1.below hb7 H6.out.2.1.lt).cell 1
            have v0 := (H6.out.2.1.below hb7 H6.out.2.1.lt).free 0
            have v1 := (H6.out.2.1.below hb7 H6.out.2.1.lt).free 1
            simp at u0 u1
            clear HK t0 t1
            gi_wp2
            exact ⟨HKK.out.1, fun j h1 h2 => HKK.out.2.1 j (by have := Hn.out; omega) (by have := Hn.out; omega), HKK.out.2.2, p', z', HFin.out.1, c + 1, g3, c3, HFin.out.2.1, _, HFin.out.2.2.1, ⟨hgB, hgC, by have := HG.out; have := Hn.out; have := K5.out.2.2.2.2.2; have := hb5.size; have := hb9.size; omega⟩, fun j hj => (by by_cases e : j = c <;> simp only [e, if_true, if_false] <;> first | exact HQ.out | exact HO.out j (by omega)), HE.out.1, HE.out.2.1, HE.out.2.2⟩
           exact AllReadyIn.nil
          exact AllReadyIn.nil
         exact AllReadyIn.nil
        exact AllReadyIn.nil
       exact AllReadyIn.nil
      exact AllReadyIn.nil
     refine AllReadyIn.cons rfl (fun K hK => ?_) ?_
     ·skip
      go_simp
      refine hK _ _ ?_
      clear hK K
      refine wpAnyIn_ready (rs := [0, 4]) (by kernel_rfl) (by simp) ?_
      refine AllReadyIn.cons rfl (fun K hK => ?_) ?_
      ·skip
       go_simp
       refine hK _ _ ?_
       clear hK K
       refine wpAnyIn_ready (rs := [4]) (by kernel_rfl) (by simp) ?_
       refine AllReadyIn.cons rfl (fun K hK => ?_) ?_
       ·skip
        go_simp
        refine hK _ _ ?_
        clear hK K
        refine wpAnyIn_ready (rs := [5]) (by kernel_rfl) (by simp) ?_
        refine AllReadyIn.cons rfl (fun K hK => ?_) ?_
        ·skip
         go_simp
         gi_wp2_with (gi_at_call 74; refine (CallsIn.inRound l (callsIn_wide.2 (KC.out _))).mono ?_; rintro e w9 ⟨rfl, hb9'⟩; have hb9 := below_of_drew hb9'; clear hb9'; obtain ⟨g3, c3, w3, hrun, H3⟩ := app_one x (K6.out.2.2.1.below hb9) (K6.out.1.below hb9 K6.out.1.lt) (K6.out.2.1.below hb9 K6.out.2.1.lt) HG.out.1 HG.out.2.1 hc6; have HRUN : Hid _ := hrun; clear hrun; have l9 : C + 1 < w9.heap.size := Nat.lt_of_lt_of_le K6.out.2.1.lt hb9.size; have m1 := (K6.out.2.1.below hb9 K6.out.2.1.lt).cell 0; have m2 := ((K6.out.2.1.below hb9 K6.out.2.1.lt).alloc (.cells #[.string x] 9)).cell 0; have m3 := H3.out.2.2.1.cell 0; have f3 := H3.out.2.2.1.free 0; simp at m1 m2 m3)
         refine wpAnyIn_ready (rs := [6]) (by kernel_rfl) (by simp) ?_
         refine AllReadyIn.cons rfl (fun K hK => ?_) ?_
         ·skip
          go_simp
          refine hK _ _ ?_
          clear hK K
          refine wpAnyIn_ready (rs := [7]) (by kernel_rfl) (by simp) ?_
          refine AllReadyIn.cons rfl (fun K hK => ?_) ?_
          ·skip
           refine stepIn_append (by rfl) _ _ 31 (by rfl) 31 (by rfl) (.slice (some ⟨G, 0, none⟩) c cp) (.slice (some ⟨w9.heap.size, 0, none⟩) 1 1) (by rfl) (by rfl) _ _ HRUN.out ?_
           go_simp
           refine hK _ _ ?_
           clear hK K
           refine wpAnyIn_ready (rs := [8]) (by kernel_rfl) (by simp) ?_
           refine AllReadyIn.cons rfl (fun K hK => ?_) ?_
           ·skip
            go_simp
            refine hK _ _ ?_
            clear hK K
            refine wpAnyIn_done (by kernel_rfl) ?_ _
            have hw9 := l9
            have hg3 := H3.out.2.2.2.1
            have hgC : g3 ≠ C + 1 := by have := HG.out; omega
            have hgB : g3 ≠ B + 1 := by have := HG.out; have := Hn.out; omega
            have H6 : Hid _ := hd_step (v' := .slice (some ⟨g3, 0, none⟩) (c + 1) c3) H3.out.1 H3.out.2.1 H3.out.2.2.1 (by have := Hn.out; omega) hgC
            have t0 := H6.out.2.1.cell 0
            have t1 := H6.out.2.1.cell 1
            simp at t0 t1
            clear k1 k2 m1 m2 m3 f3
            gi_wp2_with fail
            refine (CallsIn.inRound l (callsIn_wide.2 (KA.out _))).mono ?_
            rintro e w7 ⟨rfl, hb7⟩
            have HFin := fin_step p' z' H6.out.1 H6.out.2.1 H6.out.2.2 hb7 hgB (by have := Hn.out; omega)
            have HK := round_kept (N := w.heap.size) (C := C) hb5 hb9 H3.out.2.2.2.2 HFin.out.2.2.2 hg3 HG.out.2.2.1 (by have := Hn.out; omega) (by omega) (by have := K5.out.2.2.2.2.2; omega) K5.out.2.2.2.2.1 (by have := K5.out.2.2.2.2.2; have := Hn.out; omega) HG.out.2.2.2 (by have := Hn.out; omega) (by have := Hn.out; omega)
            have HKK : Hid _ := HK
            have u0 := (H6.out.2.1.below hb7 H6.out.2.1.lt).cell 0
            have u1 := (H6.out.2.1.below hb7 H6.out.2.1.lt).cell 1
            have v0 := (H6.out.2.1.below hb7 H6.out.2.1.lt).free 0
            have v1 := (H6.out.2.1.below hb7 H6.out.2.1.lt).free 1
            simp at u0 u1
            clear HK t0 t1
            gi_wp2
            exact ⟨HKK.out.1, fun j h1 h2 => HKK.out.2.1 j (by have := Hn.out; omega) (by have := Hn.out; omega), HKK.out.2.2, p', z', HFin.out.1, c + 1, g3, c3, HFin.out.2.1, _, HFin.out.2.2.1, ⟨hgB, hgC, by have := HG.out; have := Hn.out; have := K5.out.2.2.2.2.2; have := hb5.size; have := hb9.size; omega⟩, fun j hj => (by by_cases e : j = c <;> simp only [e, if_true, if_false] <;> first | exact HQ.out | exact HO.out j (by omega)), HE.out.1, HE.out.2.1, HE.out.2.2⟩
           exact AllReadyIn.nil
          exact AllReadyIn.nil
         exact AllReadyIn.nil
        exact AllReadyIn.nil
       exact AllReadyIn.nil
      refine AllReadyIn.cons rfl (fun K hK => ?_) ?_
      ·skip
       go_simp
       refine hK _ _ ?_
       clear hK K
       refine wpAnyIn_ready (rs := [0, 5]) (by kernel_rfl) (by simp) ?_
       refine AllReadyIn.cons rfl (fun K hK => ?_) ?_
       ·skip
        go_simp
        refine hK _ _ ?_
        clear hK K
        refine wpAnyIn_ready (rs := [5]) (by kernel_rfl) (by simp) ?_
        refine AllReadyIn.cons rfl (fun K hK => ?_) ?_
        ·skip
         go_simp
         gi_wp2_with (gi_at_call 74; refine (CallsIn.inRound l (callsIn_wide.2 (KC.out _))).mono ?_; rintro e w9 ⟨rfl, hb9'⟩; have hb9 := below_of_drew hb9'; clear hb9'; obtain ⟨g3, c3, w3, hrun, H3⟩ := app_one x (K6.out.2.2.1.below hb9) (K6.out.1.below hb9 K6.out.1.lt) (K6.out.2.1.below hb9 K6.out.2.1.lt) HG.out.1 HG.out.2.1 hc6; have HRUN : Hid _ := hrun; clear hrun; have l9 : C + 1 < w9.heap.size := Nat.lt_of_lt_of_le K6.out.2.1.lt hb9.size; have m1 := (K6.out.2.1.below hb9 K6.out.2.1.lt).cell 0; have m2 := ((K6.out.2.1.below hb9 K6.out.2.1.lt).alloc (.cells #[.string x] 9)).cell 0; have m3 := H3.out.2.2.1.cell 0; have f3 := H3.out.2.2.1.free 0; simp at m1 m2 m3)
         refine wpAnyIn_ready (rs := [6]) (by kernel_rfl) (by simp) ?_
         refine AllReadyIn.cons rfl (fun K hK => ?_) ?_
         ·skip
          go_simp
          refine hK _ _ ?_
          clear hK K
          refine wpAnyIn_ready (rs := [7]) (by kernel_rfl) (by simp) ?_
          refine AllReadyIn.cons rfl (fun K hK => ?_) ?_
          ·skip
           refine stepIn_append (by rfl) _ _ 31 (by rfl) 31 (by rfl) (.slice (some ⟨G, 0, none⟩) c cp) (.slice (some ⟨w9.heap.size, 0, none⟩) 1 1) (by rfl) (by rfl) _ _ HRUN.out ?_
           go_simp
           refine hK _ _ ?_
           clear hK K
           refine wpAnyIn_ready (rs := [8]) (by kernel_rfl) (by simp) ?_
           refine AllReadyIn.cons rfl (fun K hK => ?_) ?_
           ·skip
            go_simp
            refine hK _ _ ?_
            clear hK K
            refine wpAnyIn_done (by kernel_rfl) ?_ _
            have hw9 := l9
            have hg3 := H3.out.2.2.2.1
            have hgC : g3 ≠ C + 1 := by have := HG.out; omega
            have hgB : g3 ≠ B + 1 := by have := HG.out; have := Hn.out; omega
            have H6 : Hid _ := hd_step (v' := .slice (some ⟨g3, 0, none⟩) (c + 1) c3) H3.out.1 H3.out.2.1 H3.out.2.2.1 (by have := Hn.out; omega) hgC
            have t0 := H6.out.2.1.cell 0
            have t1 := H6.out.2.1.cell 1
            simp at t0 t1
            clear k1 k2 m1 m2 m3 f3
            gi_wp2_with fail
            refine (CallsIn.inRound l (callsIn_wide.2 (KA.out _))).mono ?_
            rintro e w7 ⟨rfl, hb7⟩
            have HFin := fin_step p' z' H6.out.1 H6.out.2.1 H6.out.2.2 hb7 hgB (by have := Hn.out; omega)
            have HK := round_kept (N := w.heap.size) (C := C) hb5 hb9 H3.out.2.2.2.2 HFin.out.2.2.2 hg3 HG.out.2.2.1 (by have := Hn.out; omega) (by omega) (by have := K5.out.2.2.2.2.2; omega) K5.out.2.2.2.2.1 (by have := K5.out.2.2.2.2.2; have := Hn.out; omega) HG.out.2.2.2 (by have := Hn.out; omega) (by have := Hn.out; omega)
            have HKK : Hid _ := HK
            have u0 := (H6.out.2.1.below hb7 H6.out.2.1.lt).cell 0
            have u1 := (H6.out.2.1.below hb7 H6.out.2.1.lt).cell 1
            have v0 := (H6.out.2.1.below hb7 H6.out.2.1.lt).free 0
            have v1 := (H6.out.2.1.below hb7 H6.out.2.1.lt).free 1
            simp at u0 u1
            clear HK t0 t1
            gi_wp2
            exact ⟨HKK.out.1, fun j h1 h2 => HKK.out.2.1 j (by have := Hn.out; omega) (by have := Hn.out; omega), HKK.out.2.2, p', z', HFin.out.1, c + 1, g3, c3, HFin.out.2.1, _, HFin.out.2.2.1, ⟨hgB, hgC, by have := HG.out; have := Hn.out; have := K5.out.2.2.2.2.2; have := hb5.size; have := hb9.size; omega⟩, fun j hj => (by by_cases e : j = c <;> simp only [e, if_true, if_false] <;> first | exact HQ.out | exact HO.out j (by omega)), HE.out.1, HE.out.2.1, HE.out.2.2⟩
           exact AllReadyIn.nil
          exact AllReadyIn.nil
         exact AllReadyIn.nil
        exact AllReadyIn.nil
       refine AllReadyIn.cons rfl (fun K hK => ?_) ?_
       ·skip
        go_simp
        gi_wp2_with (gi_at_call 74; refine (CallsIn.inRound l (callsIn_wide.2 (KC.out _))).mono ?_; rintro e w9 ⟨rfl, hb9'⟩; have hb9 := below_of_drew hb9'; clear hb9'; obtain ⟨g3, c3, w3, hrun, H3⟩ := app_one x (K6.out.2.2.1.below hb9) (K6.out.1.below hb9 K6.out.1.lt) (K6.out.2.1.below hb9 K6.out.2.1.lt) HG.out.1 HG.out.2.1 hc6; have HRUN : Hid _ := hrun; clear hrun; have l9 : C + 1 < w9.heap.size := Nat.lt_of_lt_of_le K6.out.2.1.lt hb9.size; have m1 := (K6.out.2.1.below hb9 K6.out.2.1.lt).cell 0; have m2 := ((K6.out.2.1.below hb9 K6.out.2.1.lt).alloc (.cells #[.string x] 9)).cell 0; have m3 := H3.out.2.2.1.cell 0; have f3 := H3.out.2.2.1.free 0; simp at m1 m2 m3)
        refine wpAnyIn_ready (rs := [0, 6]) (by kernel_rfl) (by simp) ?_
        refine AllReadyIn.cons rfl (fun K hK => ?_) ?_
        ·skip
         go_simp
         refine hK _ _ ?_
         clear hK K
         refine wpAnyIn_ready (rs := [6]) (by kernel_rfl) (by simp) ?_
         refine AllReadyIn.cons rfl (fun K hK => ?_) ?_
         ·skip
          go_simp
          refine hK _ _ ?_
          clear hK K
          refine wpAnyIn_ready (rs := [7]) (by kernel_rfl) (by simp) ?_
          refine AllReadyIn.cons rfl (fun K hK => ?_) ?_
          ·skip
           refine stepIn_append (by rfl) _ _ 31 (by rfl) 31 (by rfl) (.slice (some ⟨G, 0, none⟩) c cp) (.slice (some ⟨w9.heap.size, 0, none⟩) 1 1) (by rfl) (by rfl) _ _ HRUN.out ?_
           go_simp
           refine hK _ _ ?_
           clear hK K
           refine wpAnyIn_ready (rs := [8]) (by kernel_rfl) (by simp) ?_
           refine AllReadyIn.cons rfl (fun K hK => ?_) ?_
           ·skip
            go_simp
            refine hK _ _ ?_
            clear hK K
            refine wpAnyIn_done (by kernel_rfl) ?_ _
            have hw9 := l9
            have hg3 := H3.out.2.2.2.1
            have hgC : g3 ≠ C + 1 := by have := HG.out; omega
            have hgB : g3 ≠ B + 1 := by have := HG.out; have := Hn.out; omega
            have H6 : Hid _ := hd_step (v' := .slice (some ⟨g3, 0, none⟩) (c + 1) c3) H3.out.1 H3.out.2.1 H3.out.2.2.1 (by have := Hn.out; omega) hgC
            have t0 := H6.out.2.1.cell 0
            have t1 := H6.out.2.1.cell 1
            simp at t0 t1
            clear k1 k2 m1 m2 m3 f3
            gi_wp2_with fail
            refine (CallsIn.inRound l (callsIn_wide.2 (KA.out _))).mono ?_
            rintro e w7 ⟨rfl, hb7⟩
            have HFin := fin_step p' z' H6.out.1 H6.out.2.1 H6.out.2.2 hb7 hgB (by have := Hn.out; omega)
            have HK := round_kept (N := w.heap.size) (C := C) hb5 hb9 H3.out.2.2.2.2 HFin.out.2.2.2 hg3 HG.out.2.2.1 (by have := Hn.out; omega) (by omega) (by have := K5.out.2.2.2.2.2; omega) K5.out.2.2.2.2.1 (by have := K5.out.2.2.2.2.2; have := Hn.out; omega) HG.out.2.2.2 (by have := Hn.out; omega) (by have := Hn.out; omega)
            have HKK : Hid _ := HK
            have u0 := (H6.out.2.1.below hb7 H6.out.2.1.lt).cell 0
            have u1 := (H6.out.2.1.below hb7 H6.out.2.1.lt).cell 1
            have v0 := (H6.out.2.1.below hb7 H6.out.2.1.lt).free 0
            have v1 := (H6.out.2.1.below hb7 H6.out.2.1.lt).free 1
            simp at u0 u1
            clear HK t0 t1
            gi_wp2
            exact ⟨HKK.out.1, fun j h1 h2 => HKK.out.2.1 j (by have := Hn.out; omega) (by have := Hn.out; omega), HKK.out.2.2, p', z', HFin.out.1, c + 1, g3, c3, HFin.out.2.1, _, HFin.out.2.2.1, ⟨hgB, hgC, by have := HG.out; have := Hn.out; have := K5.out.2.2.2.2.2; have := hb5.size; have := hb9.size; omega⟩, fun j hj => (by by_cases e : j = c <;> simp only [e, if_true, if_false] <;> first | exact HQ.out | exact HO.out j (by omega)), HE.out.1, HE.out.2.1, HE.out.2.2⟩
           exact AllReadyIn.nil
          exact AllReadyIn.nil
         exact AllReadyIn.nil
        refine AllReadyIn.cons rfl (fun K hK => ?_) ?_
        ·skip
         go_simp
         refine hK _ _ ?_
         clear hK K
         refine wpAnyIn_ready (rs := [0]) (by kernel_rfl) (by simp) ?_
         refine AllReadyIn.cons rfl (fun K hK => ?_) ?_
         ·skip
          go_simp
          refine hK _ _ ?_
          clear hK K
          refine wpAnyIn_ready (rs := [7]) (by kernel_rfl) (by simp) ?_
          refine AllReadyIn.cons rfl (fun K hK => ?_) ?_
          ·skip
           refine stepIn_append (by rfl) _ _ 31 (by rfl) 31 (by rfl) (.slice (some ⟨G, 0, none⟩) c cp) (.slice (some ⟨w9.heap.size, 0, none⟩) 1 1) (by rfl) (by rfl) _ _ HRUN.out ?_
           go_simp
           refine hK _ _ ?_
           clear hK K
           refine wpAnyIn_ready (rs := [8]) (by kernel_rfl) (by simp) ?_
           refine AllReadyIn.cons rfl (fun K hK => ?_) ?_
           ·skip
            go_simp
            refine hK _ _ ?_
            clear hK K
            refine wpAnyIn_done (by kernel_rfl) ?_ _
            have hw9 := l9
            have hg3 := H3.out.2.2.2.1
            have hgC : g3 ≠ C + 1 := by have := HG.out; omega
            have hgB : g3 ≠ B + 1 := by have := HG.out; have := Hn.out; omega
            have H6 : Hid _ := hd_step (v' := .slice (some ⟨g3, 0, none⟩) (c + 1) c3) H3.out.1 H3.out.2.1 H3.out.2.2.1 (by have := Hn.out; omega) hgC
            have t0 := H6.out.2.1.cell 0
            have t1 := H6.out.2.1.cell 1
            simp at t0 t1
            clear k1 k2 m1 m2 m3 f3
            gi_wp2_with fail
            refine (CallsIn.inRound l (callsIn_wide.2 (KA.out _))).mono ?_
            rintro e w7 ⟨rfl, hb7⟩
            have HFin := fin_step p' z' H6.out.1 H6.out.2.1 H6.out.2.2 hb7 hgB (by have := Hn.out; omega)
            have HK := round_kept (N := w.heap.size) (C := C) hb5 hb9 H3.out.2.2.2.2 HFin.out.2.2.2 hg3 HG.out.2.2.1 (by have := Hn.out; omega) (by omega) (by have := K5.out.2.2.2.2.2; omega) K5.out.2.2.2.2.1 (by have := K5.out.2.2.2.2.2; have := Hn.out; omega) HG.out.2.2.2 (by have := Hn.out; omega) (by have := Hn.out; omega)
            have HKK : Hid _ := HK
            have u0 := (H6.out.2.1.below hb7 H6.out.2.1.lt).cell 0
            have u1 := (H6.out.2.1.below hb7 H6.out.2.1.lt).cell 1
            have v0 := (H6.out.2.1.below hb7 H6.out.2.1.lt).free 0
            have v1 := (H6.out.2.1.below hb7 H6.out.2.1.lt).free 1
            simp at u0 u1
            clear HK t0 t1
            gi_wp2
            exact ⟨HKK.out.1, fun j h1 h2 => HKK.out.2.1 j (by have := Hn.out; omega) (by have := Hn.out; omega), HKK.out.2.2, p', z', HFin.out.1, c + 1, g3, c3, HFin.out.2.1, _, HFin.out.2.2.1, ⟨hgB, hgC, by have := HG.out; have := Hn.out; have := K5.out.2.2.2.2.2; have := hb5.size; have := hb9.size; omega⟩, fun j hj => (by by_cases e : j = c <;> simp only [e, if_true, if_false] <;> first | exact HQ.out | exact HO.out j (by omega)), HE.out.1, HE.out.2.1, HE.out.2.2⟩
           exact AllReadyIn.nil
          exact AllReadyIn.nil
         exact AllReadyIn.nil
        exact AllReadyIn.nil
       exact AllReadyIn.nil
      exact AllReadyIn.nil
     exact AllReadyIn.nil
    exact AllReadyIn.nil
   exact AllReadyIn.nil
  ·have KN : Hid (∀ w0, Calls Tryz.prog 107 #[SpV (p : Int) (z : Int)] w0 fun e w' => e = .returned (.tuple #[.int .i64 ((nb p : Nat) : Int), .bool false]) ∧ Below w0.heap.size w0 w') := fun w0 => by
    have := neighbour_any p z w0 (by omega)
    rw [show decide (nb p < z) = false by simpa using hnb] at this
    exact this
   have HE : Hid (((rNx (false, z, T')).1 = false → z' = (rNx (false, z, T')).2.1 ∧ p' < (rNx (false, z, T')).2.1 ∧ c + pl p' (rNx (false, z, T')).2.1 = L ∧ ∀ j, Gt.pf (rNx (false, z, T')).2.1 (rNx (false, z, T')).2.2 p' j = PF (c + j)) ∧ ((rNx (false, z, T')).1 = true → c = L)) := by
    have hcl := HC0.out
    show _ ∧ _
    unfold rNx
    by_cases hz1 : z ≤ 1
    ·rw [if_pos hz1]
     rw [Gt.pl_one p hz1] at hcl
     exact ⟨fun e => (by cases e), fun _ => by omega⟩
    ·rw [if_neg hz1]
     rw [Gt.pl_no p hz1 hnb, hp', hz'] at hcl
     refine ⟨fun _ => ⟨hz'.symm, ?_, ?_, fun j => ?_⟩, fun e => (by cases e)⟩
     ·show p' < hf z; rw [← hp']; unfold hf; omega
     ·show c + pl p' (hf z) = L; rw [hz']; omega
     ·show Gt.pf (hf z) (up z T') p' j = _
      rw [← hp', ← Gt.pf_no T' p j hz1 hnb, HP.out]
   generalize nb p = q at KN
   clear hp' hz' HC0 HP hnb
   gi_wp2_with fail
   refine (CallsIn.inRound l (callsIn_wide.2 (KN.out _))).mono ?_
   rintro e w5 ⟨rfl, hb5⟩
   have K6 : Hid (OwnT w5 w.heap.size (some ⟨G, 0, none⟩) c cp O ∧ Row w5 (B + 1) 124 #[.int .i64 (p : Int), .int .i64 (z : Int)] ∧ Row w5 (C + 1) 31 #[.slice (some ⟨G, 0, none⟩) c cp]) := by
    obtain ⟨a1, a2, a3, a4, a5, a6⟩ := K5.out
    exact ⟨a3.below hb5, a1.below hb5 a1.lt, a2.below hb5 a2.lt⟩
   have t0 := K6.out.2.1.cell 0
   have t1 := K6.out.2.1.cell 1
   simp at t0 t1
   clear c0 c1
   gi_wp2_with fail
   refine (CallsIn.inRound l (callsIn_wide.2 (KA.out _))).mono ?_
   rintro e w7 ⟨rfl, hb7⟩
   have HFin := fin_step p' z' K6.out.1 K6.out.2.1 K6.out.2.2 hb7 HG.out.1 (by have := Hn.out; omega)
   have HKK : Hid (Kp (fun j => j = G ∨ j = B + 1 ∨ j = C + 1) W2 ((w7.setCell ⟨B + 1, 0, none⟩ (.int .i64 (p' : Int))).setCell ⟨B + 1, 1, none⟩ (.int .i64 (z' : Int)))) := (Kp.below hb5).trans HFin.out.2.2.2
   have u0 := (K6.out.2.1.below hb7 K6.out.2.1.lt).cell 0
   have u1 := (K6.out.2.1.below hb7 K6.out.2.1.lt).cell 1
   have v0 := (K6.out.2.1.below hb7 K6.out.2.1.lt).free 0
   have v1 := (K6.out.2.1.below hb7 K6.out.2.1.lt).free 1
   simp at u0 u1
   clear t0 t1
   gi_wp2
   exact ⟨HKK.out.size, fun j h1 h2 => HKK.out.block j (by have := K5.out.2.2.2.2.2; have := Hn.out; omega) (by have := Hn.out; have := HG.out; omega), HKK.out.base K5.out.2.2.2.2.1 (by have := K5.out.2.2.2.2.2; have := Hn.out; omega) (fun j hj => by have := Hn.out; have := HG.out; omega), p', z', HFin.out.1, c, G, cp, HFin.out.2.1, O, HFin.out.2.2.1, ⟨HG.out.1, HG.out.2.1, HG.out.2.2.1⟩, HO.out, by omega, HE.out.1, HE.out.2⟩
 case done =>
  rintro s W hf ⟨hb, p, z, c, G, cp, O, r1, r2, ho, hG, hO, hc, _, ht⟩ hK
  have hcL : c = L := ht hf
  subst hcL
  have e0 := r2.cell 0
  simp at e0
  have HR : Hid (OwnT W w.heap.size (some ⟨G, 0, none⟩) c cp PF) := ho.congr hO
  clear ho
  go_wp2
  refine ⟨by simp, .inl ⟨_, _, rfl, run_takeDeferred hK, ?_⟩⟩
  refine ⟨_, results_tmp2 rfl _ _ _, _, rfl, ⟨_, _, rfl, ?_⟩, below_grown hb (grownBy_put _ _ _) hb.size (by have := HN.out; omega)⟩
  exact own_kept HR.out (grownBy_put _ _ _) (fun x e => by cases e; have := HN.out.2.2.2.2.2; simp; omega)
end Go.Proofs.YtihklfkhjpnjkaaGreatDoor
