import Derived.Test.YtgooamiggebibaaGreatDoorG19
import Derived.Test.YtgooamiggebibaaGreatDoorG18
set_option maxHeartbeats 8000000
set_option maxRecDepth 2000
open Go.ChangeShapes Go.WideShapes Go.ChangeAt Go.RowKit
namespace Go.Proofs.YtgooamiggebibaaGreatDoor
theorem markSls_0 (a : Option Addr) (cap k : Nat) (w : World) : Calls Tryz.prog 45 #[.slice a 0 cap, .int .i64 (k : Int)] w fun e w' => e = .returned (.int .i64 (k : Int)) ∧ w' = w := by
 go_enter Tryz.func45, Tryz.ntmps45
 go_wp2
 go_loopw [1, 5] (fun vk vi wr => vk = .int .i64 (k : Int) ∧ vi = .int .i64 0 ∧ wr = w) (fun _ _ _ => 0)
 case atStart => exact ⟨rfl, rfl, rfl⟩
 case round =>
  obtain ⟨rfl, rfl, hw⟩ := hrel
  obtain rfl := hw.symm
  go_wp2
  go_ret
  exact ⟨rfl, rfl⟩
theorem markSys_0 (a : Option Addr) (cap k : Nat) (w : World) : Calls Tryz.prog 29 #[.slice a 0 cap, .int .i64 (k : Int)] w fun e w' => e = .returned (.int .i64 (k : Int)) ∧ w' = w := by
 go_enter Tryz.func29, Tryz.ntmps29
 go_wp2
 go_loopw [1, 5] (fun vk vi wr => vk = .int .i64 (k : Int) ∧ vi = .int .i64 0 ∧ wr = w) (fun _ _ _ => 0)
 case atStart => exact ⟨rfl, rfl, rfl⟩
 case round =>
  obtain ⟨rfl, rfl, hw⟩ := hrel
  obtain rfl := hw.symm
  go_wp2
  go_ret
  exact ⟨rfl, rfl⟩
theorem markNds_0 (a : Option Addr) (cap k : Nat) (w : World) : Calls Tryz.prog 27 #[.slice a 0 cap, .int .i64 (k : Int)] w fun e w' => e = .returned (.int .i64 (k : Int)) ∧ w' = w := by
 go_enter Tryz.func27, Tryz.ntmps27
 go_wp2
 go_loopw [1, 5] (fun vk vi wr => vk = .int .i64 (k : Int) ∧ vi = .int .i64 0 ∧ wr = w) (fun _ _ _ => 0)
 case atStart => exact ⟨rfl, rfl, rfl⟩
 case round =>
  obtain ⟨rfl, rfl, hw⟩ := hrel
  obtain rfl := hw.symm
  go_wp2
  go_ret
  exact ⟨rfl, rfl⟩
theorem ow_shape {w : World} {B t sz n : Nat} {D : Nat → Nat → Dt} {v : Value} {F : Nat → Prop} (h : Ow w B (.lst t sz n D) v F) : (v = .slice none 0 0 ∧ n = 0) ∨ ∃ g cap, v = .slice (some ⟨g, 0, none⟩) n cap := by
 obtain ⟨a, cap, c, G, rfl, ho, _⟩ := h
 rcases ho.2 with ⟨h0, hz⟩ | ⟨g, cap', cur, e, _⟩
 ·exact .inl ⟨h0, hz⟩
 ·exact .inr ⟨g, cap', e⟩
theorem markD_sls (B : Nat) (v : Value) (n : Nat) (S : Nat → Sl) (k : Nat) (F : Nat → Prop) (w : World) (h : Ow w B (slsD n S) v F) (hn : n ≤ 1048576) (hm : ∀ i, i < n → SlS (S i)) (hk : k + tot (fun i => wkS (S i)) n ≤ 40000000) :
  Calls Tryz.prog 45 #[v, .int .i64 (k : Int)] w fun e w' => e = .returned (.int .i64 ((k + tot (fun i => wkS (S i)) n : Nat) : Int)) ∧ Ow w' B (slsD n (mkL k S)) v F ∧ Trn w w' F := by
 rcases ow_shape h with ⟨rfl, rfl⟩ | ⟨g, cap, rfl⟩
 ·refine (markSls_0 none 0 k w).mono ?_
  rintro e w' ⟨rfl, rfl⟩
  exact ⟨rfl, Ow.nil _ _ _ _ _ _, Trn.refl _ _⟩
 ·exact markSlsF_any B g n cap F S k w h hn hm hk
theorem markD_sys (B : Nat) (v : Value) (n : Nat) (S : Nat → Sy) (k : Nat) (F : Nat → Prop) (w : World) (h : Ow w B (sysD n S) v F) (hn : n ≤ 1048576) (hm : ∀ i, i < n → (S i).p.m ≤ 1048576) (hk : ofy k S n ≤ 40000000) :
  Calls Tryz.prog 29 #[v, .int .i64 (k : Int)] w fun e w' => e = .returned (.int .i64 ((ofy k S n : Nat) : Int)) ∧ Ow w' B (sysD n (mkdY k S)) v F ∧ Trn w w' F := by
 rcases ow_shape h with ⟨rfl, rfl⟩ | ⟨g, cap, rfl⟩
 ·refine (markSys_0 none 0 k w).mono ?_
  rintro e w' ⟨rfl, rfl⟩
  exact ⟨rfl, Ow.nil _ _ _ _ _ _, Trn.refl _ _⟩
 ·exact markSysF_any B g n cap F S k w h hn hm hk
def wkN (d : Nd) : Nat := 2 + tot (fun i => wkS (d.S i)) d.n
def mkNd (o : Nat) (d : Nd) : Nd := ⟨(o : Int), ((o + 1 : Nat) : Int), d.n, mkL (o + 2) d.S⟩
def mkNL (k : Nat) (N : Nat → Nd) (i : Nat) : Nd := mkNd (k + tot (fun i => wkN (N i)) i) (N i)
theorem markNdsF_any (B g n cap : Nat) (F : Nat → Prop) (N : Nat → Nd) (k : Nat) (w : World) (h : Ow w B (ndsD n N) (.slice (some ⟨g, 0, none⟩) n cap) F) (hn : n ≤ 1048576) (hm : ∀ i, i < n → NdS (N i)) (hk : k + tot (fun i => wkN (N i)) n ≤ 40000000) :
  Calls Tryz.prog 27 #[.slice (some ⟨g, 0, none⟩) n cap, .int .i64 (k : Int)] w fun e w' => e = .returned (.int .i64 ((k + tot (fun i => wkN (N i)) n : Nat) : Int)) ∧ Ow w' B (ndsD n (mkNL k N)) (.slice (some ⟨g, 0, none⟩) n cap) F ∧ Trn w w' F := by
 obtain ⟨G, hsep, hmk⟩ := Ow.mk h
 have KS : Hid (Sep (some ⟨g, 0, none⟩) n 3 G F) := hsep
 have HG : Hid (F g) := hsep.head _ rfl
 have K0 : Hid (MkS w B 72 3 g n cap G (fun i => ndD (if i < 0 then mkNL k N i else N i))) := hmk.congr (fun i q _ _ => by simp)
 have HM : Hid (∀ i, i < n → NdS (N i)) := hm
 have HK : Hid (k + tot (fun i => wkN (N i)) n ≤ 40000000) := hk
 clear h hm hsep hmk hk
 go_enter Tryz.func27, Tryz.ntmps27
 go_wp2
 go_loopw [1, 5] (fun vk vi wr => ∃ (c x : Nat), c ≤ n ∧ vk = .int .i64 (x : Int) ∧ vi = .int .i64 (c : Int) ∧ Hid (x = k + tot (fun i => wkN (N i)) c ∧ MkS wr B 72 3 g n cap G (fun i => ndD (if i < c then mkNL k N i else N i)) ∧ Trn w wr F)) (fun _ vi _ => n - (intOf vi).toNat)
 case atStart => exact ⟨0, k, Nat.zero_le _, rfl, rfl, rfl, K0.out, Trn.refl _ _⟩
 case round =>
  obtain ⟨c, o0, hcn, rfl, rfl, KO⟩ := hrel
  clear K0
  by_cases hlt : c < n
  case neg =>
   obtain rfl : c = n := by omega
   have HF : Hid (Ow wr B (ndsD c (mkNL k N)) (.slice (some ⟨g, 0, none⟩) c cap) F) := (KO.out.2.1.congr (fun i q hi _ => by simp only [hi, if_true])).ow KS.out
   go_wp2
   go_ret
   exact ⟨ret_int (by have := KO.out.1; omega), HF.out, KO.out.2.2⟩
  have hki : (c : Int) < (n : Int) := by omega
  have hsc := HM.out c hlt
  obtain ⟨wk, HWK⟩ : ∃ x, Hid (tot (fun i => wkS ((N c).S i)) (N c).n = x) := ⟨_, rfl⟩
  obtain ⟨o1, Ho1⟩ : ∃ x, Hid (x = o0 + 1) := ⟨_, rfl⟩
  obtain ⟨o2, Ho2⟩ : ∃ x, Hid (x = o1 + 1) := ⟨_, rfl⟩
  obtain ⟨o3, Ho3⟩ : ∃ x, Hid (o2 + wk = x) := ⟨_, rfl⟩
  have HNX : Hid (o3 = k + tot (fun i => wkN (N i)) (c + 1)) := by
   show _ = k + (tot (fun i => wkN (N i)) c + wkN (N c))
   have h1 := KO.out.1
   have h2 : wkN (N c) = 2 + wk := by unfold wkN; rw [HWK.out]
   rw [h2]
   have := Ho1.out; have := Ho2.out; have := Ho3.out
   omega
  have UB : Hid (o3 ≤ 40000000) := by
   have h2 : tot (fun i => wkN (N i)) c + wkN (N c) ≤ tot (fun i => wkN (N i)) n := tot_step (g := fun i => wkN (N i)) hlt
   have h3 := HK.out
   have h4 := HNX.out
   have h5 : tot (fun i => wkN (N i)) (c + 1) = tot (fun i => wkN (N i)) c + wkN (N c) := rfl
   show o3 ≤ _
   omega
  have e1 : (o0 : Int) + 1 = (o1 : Int) := by have := Ho1.out; omega
  have e2 : (o1 : Int) + 1 = (o2 : Int) := by have := Ho2.out; omega
  have u0 : o0 ≤ 40000000 := by have := UB.out; have := Ho1.out; have := Ho2.out; have := Ho3.out; omega
  have u1 : o1 ≤ 40000000 := by have := UB.out; have := Ho2.out; have := Ho3.out; omega
  have u2 : o2 ≤ 40000000 := by have := UB.out; have := Ho3.out; omega
  obtain ⟨x0v, x0, f0, _⟩ := MkS.cell KO.out.2.1 hlt (show 0 < 3 by omega)
  obtain ⟨x1v, x1, f1, _⟩ := MkS.cell KO.out.2.1 hlt (show 1 < 3 by omega)
  simp only [Nat.add_zero] at x0 f0
  obtain ⟨W1, HW1⟩ : ∃ x, Hid (x = (wr.setCell ⟨g, c * 3, none⟩ (.int .i64 (o0 : Int))).setCell ⟨g, c * 3 + 1, none⟩ (.int .i64 (o1 : Int))) := ⟨_, rfl⟩
  have M1 := MkS.set KO.out.2.1 KS.out hlt (show 0 < 3 by omega) (.int .i64 (o0 : Int))
  rw [Nat.add_zero] at M1
  have M1 := MkS.set M1 KS.out hlt (show 1 < 3 by omega) (.int .i64 (o1 : Int))
  rw [← HW1.out] at M1
  have KK1 : Hid (MkS W1 B 72 3 g n cap G _ ∧ Trn w W1 F) := ⟨M1, by rw [HW1.out]; exact (KO.out.2.2.trans (Trn.set _ (c * 3) _ HG.out)).trans (Trn.set _ (c * 3 + 1) _ HG.out)⟩
  clear M1
  obtain ⟨v2, x2, _, h2⟩ := MkS.cell KK1.out.1 hlt (show 2 < 3 by omega)
  have HD2 : Hid (Ow W1 B (slsD (N c).n (N c).S) v2 (G c 2)) := by
   have := h2
   simp [ndD] at this
   exact this
  have KMS : Hid _ := markD_sls B v2 (N c).n (N c).S o2 (G c 2) W1 HD2.out hsc.n hsc.s (by rw [HWK.out, Ho3.out]; have := UB.out; omega)
  rw [HWK.out, Ho3.out] at KMS
  obtain ⟨a2, c2, e2'⟩ := HD2.out.rd.shape
  subst e2'
  have X2 : Hid (W1.cell? ⟨g, c * 3 + 2, none⟩ = some (.slice a2 (N c).n c2)) := x2
  have y2 : wr.cell? ⟨g, c * 3 + 2, none⟩ = some (.slice a2 (N c).n c2) := by
   have h1 := x2
   rw [HW1.out, World.cell?_setCell_other _ _ _ _ (by simp), World.cell?_setCell_other _ _ _ _ (by simp)] at h1
   exact h1
  clear h2 x2 hsc
  go_wp2_with fail
  rw [← HW1.out]
  refine Calls.mono KMS.out ?_
  rintro e w2 ⟨rfl, hR, hT⟩
  have M2 := MkS.turn KK1.out.1 KS.out hlt (show 2 < 3 by omega) X2.out hR hT
  have HN : Hid (MkS w2 B 72 3 g n cap G (fun i => ndD (if i < c + 1 then mkNL k N i else N i)) ∧ Trn w w2 F) := by
   refine ⟨MkS.congr M2 fun i q hi hq => ?_, KK1.out.2.trans (hT.mono (fun x hx => KS.out.sub c 2 x hlt (by omega) hx))⟩
   show _ = ndD (if i < c + 1 then mkNL k N i else N i) q
   by_cases ei : i = c
   ·subst ei
    have hd : mkNL k N i = ⟨(o0 : Int), (o1 : Int), (N i).n, mkL o2 (N i).S⟩ := by
     have z0 : k + tot (fun i => wkN (N i)) i = o0 := KO.out.1.symm
     have z1 : o0 + 1 = o1 := Ho1.out.symm
     have z2 : o0 + 2 = o2 := by have := Ho2.out; omega
     unfold mkNL mkNd
     rw [z0, z1, z2]
    rw [if_pos (show i < i + 1 by omega), hd]
    match q, hq with
    | 0, _ | 1, _ | 2, _ => simp [ndD]
   ·by_cases e3 : i < c
    ·rw [if_pos (show i < c + 1 by omega)]
     simp [ei, e3]
    ·rw [if_neg (show ¬ i < c + 1 by omega)]
     simp [ei, e3]
  clear M2 hR hT KMS x0 f0 x1 f1 y2
  go_wp2
  go_roundw
  case rel => exact ⟨c + 1, o3, by omega, by go_num, by go_num, HNX.out, HN.out.1, HN.out.2⟩
  case measure => simp [intOf]; omega
structure NtO (w : World) (B n : Nat) (N : Nat → Nd) (zs : List Int) (m : Nat) (Y : Nat → Sy) (v1 v2 v3 : Value) (F1 F2 F3 : Nat → Prop) : Prop where
 n : Ow w B (ndsD n N) v1 F1
 z : Ow w B (inD zs) v2 F2
 y : Ow w B (sysD m Y) v3 F3
 d1 : ∀ g, F1 g → ¬ F2 g
 d2 : ∀ g, F1 g → ¬ F3 g
 d3 : ∀ g, F2 g → ¬ F3 g
def mq1 (n : Nat) (N : Nat → Nd) : Nat := 1 + tot (fun i => wkN (N i)) n
def mq2 (n : Nat) (N : Nat → Nd) (zs : List Int) : Nat := mq1 n N + zs.length
def mq3 (n : Nat) (N : Nat → Nd) (zs : List Int) (m : Nat) (Y : Nat → Sy) : Nat := ofy (mq2 n N zs) Y m
structure NtW (n : Nat) (N : Nat → Nd) (zs : List Int) (m : Nat) (Y : Nat → Sy) : Prop where
 kn : n ≤ 1048576
 kN : ∀ i, i < n → NdS (N i)
 kz : zs.length ≤ 1048576
 km : m ≤ 1048576
 kY : ∀ i, i < m → (Y i).p.m ≤ 1048576
 kq : mq3 n N zs m Y ≤ 40000000
theorem ofy_ge (k : Nat) (S : Nat → Sy) (n : Nat) : k ≤ ofy k S n := ofy_le k S (Nat.zero_le n)
theorem markD_nds (B : Nat) (v : Value) (n : Nat) (N : Nat → Nd) (k : Nat) (F : Nat → Prop) (w : World) (h : Ow w B (ndsD n N) v F) (hn : n ≤ 1048576) (hm : ∀ i, i < n → NdS (N i)) (hk : k + tot (fun i => wkN (N i)) n ≤ 40000000) :
  Calls Tryz.prog 27 #[v, .int .i64 (k : Int)] w fun e w' => e = .returned (.int .i64 ((k + tot (fun i => wkN (N i)) n : Nat) : Int)) ∧ Ow w' B (ndsD n (mkNL k N)) v F ∧ Trn w w' F := by
 rcases ow_shape h with ⟨rfl, rfl⟩ | ⟨g, cap, rfl⟩
 ·refine (markNds_0 none 0 k w).mono ?_
  rintro e w' ⟨rfl, rfl⟩
  exact ⟨rfl, Ow.nil _ _ _ _ _ _, Trn.refl _ _⟩
 ·exact markNdsF_any B g n cap F N k w h hn hm hk
theorem markNt_any (f : Int) (B n : Nat) (N : Nat → Nd) (zs : List Int) (m : Nat) (Y : Nat → Sy) (a l e : Option Addr) (c d g : Nat) (F1 F2 F3 : Nat → Prop) (w : World) (h : NtO w B n N zs m Y (.slice a n c) (.slice l zs.length d) (.slice e m g) F1 F2 F3) (hs : NtW n N zs m Y) :
  Calls Tryz.prog 12 #[ntV f (.slice a n c) (.slice l zs.length d) (.slice e m g), .int .i64 1] w fun r w' => r = .returned (.int .i64 ((mq3 n N zs m Y : Nat) : Int)) ∧ NtO w' B n (mkNL 1 N) (marks (mq1 n N) zs.length) m (mkdY (mq2 n N zs) Y) (.slice a n c) (.slice l zs.length d) (.slice e m g) F1 F2 F3 ∧ Trn w w' (fun x => F1 x ∨ F2 x ∨ F3 x) := by
 obtain ⟨A, HA⟩ : ∃ x, Hid (x = w.heap.size) := ⟨_, rfl⟩
 obtain ⟨w0, HW0⟩ : ∃ x, Hid (x = w.alloc (.cells #[.int .i64 f, .slice a n c, .slice l zs.length d, .slice e m g] 34)) := ⟨_, rfl⟩
 have RA : Hid (Row w0 A 34 #[.int .i64 f, .slice a n c, .slice l zs.length d, .slice e m g]) := by show Row _ _ _ _; rw [HW0.out, HA.out]; exact Row.new w _ _
 have hb0 : Below w.heap.size w w0 := by rw [HW0.out]; exact (Below.refl _ _).alloc (Nat.le_refl _) _
 have nA : ∀ {d v} {F : Nat → Prop}, Ow w B d v F → Ow w0 B d v (fun x => F x ∧ x < A) := fun {d v F} ho => by
  have := ho.cut.mono (F' := fun x => F x ∧ x < A) (fun x hx => ⟨hx.1, by rw [HA.out]; exact hx.2.2⟩)
  exact this.below hb0
 obtain ⟨q1, HQ1⟩ : ∃ x, Hid (1 + tot (fun i => wkN (N i)) n = x) := ⟨_, rfl⟩
 obtain ⟨q2, HQ2⟩ : ∃ x, Hid (q1 + zs.length = x) := ⟨_, rfl⟩
 obtain ⟨q3, HQ3⟩ : ∃ x, Hid (ofy q2 Y m = x) := ⟨_, rfl⟩
 have E1 : Hid (mq1 n N = q1) := HQ1.out
 have E2 : Hid (mq2 n N zs = q2) := by show _ = _; unfold mq2; rw [E1.out, HQ2.out]
 have E3 : Hid (mq3 n N zs m Y = q3) := by show _ = _; unfold mq3; rw [E2.out, HQ3.out]
 rw [E1.out, E2.out, E3.out]
 have hq3 : q3 ≤ 40000000 := by rw [← E3.out]; exact hs.kq
 have hq2 : q2 ≤ 40000000 := by have := ofy_ge q2 Y m; rw [HQ3.out] at this; omega
 have hq1 : q1 ≤ 40000000 := by have := HQ2.out; omega
 have KM : Hid (Calls Tryz.prog 27 #[.slice a n c, .int .i64 ((1 : Nat) : Int)] w0 _) := markD_nds B (.slice a n c) n N 1 (fun x => F1 x ∧ x < A) w0 (nA h.n) hs.kn hs.kN (by rw [HQ1.out]; exact hq1)
 rw [HQ1.out] at KM
 have KE : Hid (Ow w0 B (inD zs) (.slice l zs.length d) (fun x => F2 x ∧ x < A)) := nA h.z
 have KZ : Hid (Ow w0 B (sysD m Y) (.slice e m g) (fun x => F3 x ∧ x < A)) := nA h.y
 have KD : Hid ((∀ g, F1 g → ¬ F2 g) ∧ (∀ g, F1 g → ¬ F3 g) ∧ ∀ g, F2 g → ¬ F3 g) := ⟨h.d1, h.d2, h.d3⟩
 have KT0 : Hid (Trn w w0 (fun x => F1 x ∨ F2 x ∨ F3 x)) := Trn.ofBelow _ hb0
 have KS : Hid (NtW n N zs m Y) := hs
 clear h hs hb0 nA
 go_enter Tryz.func12, Tryz.ntmps12
 go_wp2_with fail
 rw [← HW0.out, ← HA.out]
 refine Calls.mono KM.out ?_
 rintro e' w1 ⟨rfl, O1, T1⟩
 have R1 : Row w1 A 34 #[.int .i64 f, .slice a n c, .slice l zs.length d, .slice e m g] := (T1.block A RA.out.lt (fun h => Nat.lt_irrefl _ h.2)).trans RA.out
 have x2 := R1.cell 2
 simp at x2
 have E1' : Ow w1 B (inD zs) (.slice l zs.length d) (fun x => F2 x ∧ x < A) := KE.out.turned T1 (fun g h1 h2 => KD.out.1 g h2.1 h1.1)
 have KZ1 : Hid (Ow w1 B (sysD m Y) (.slice e m g) (fun x => F3 x ∧ x < A)) := KZ.out.turned T1 (fun g h1 h2 => KD.out.2.1 g h2.1 h1.1)
 have KO1 : Hid (Ow w1 B (ndsD n (mkNL 1 N)) (.slice a n c) (fun x => F1 x ∧ x < A)) := O1
 have KT1 : Hid (Trn w w1 (fun x => F1 x ∨ F2 x ∨ F3 x)) := KT0.out.trans (T1.mono (fun g h => .inl h.1))
 have HR1 : Hid (Row w1 A 34 #[.int .i64 f, .slice a n c, .slice l zs.length d, .slice e m g]) := R1
 have KM2 : Hid _ := markD_ints B (.slice l zs.length d) zs q1 q2 (fun x => F2 x ∧ x < A) w1 E1' KS.out.kz (by omega) HQ2.out
 clear T1 O1 E1' R1
 go_wp2_with fail
 refine Calls.mono KM2.out ?_
 rintro e' w2 ⟨rfl, O2, T2⟩
 have R2 : Row w2 A 34 #[.int .i64 f, .slice a n c, .slice l zs.length d, .slice e m g] := (T2.block A HR1.out.lt (fun h => Nat.lt_irrefl _ h.2)).trans HR1.out
 have x3 := R2.cell 3
 simp at x3
 have KO2 : Hid (Ow w2 B (ndsD n (mkNL 1 N)) (.slice a n c) (fun x => F1 x ∧ x < A) ∧ Ow w2 B (inD (marks q1 zs.length)) (.slice l zs.length d) (fun x => F2 x ∧ x < A)) := ⟨KO1.out.turned T2 (fun g h1 h2 => KD.out.1 g h1.1 h2.1), O2⟩
 have Z2 : Ow w2 B (sysD m Y) (.slice e m g) (fun x => F3 x ∧ x < A) := KZ1.out.turned T2 (fun g h1 h2 => KD.out.2.2 g h2.1 h1.1)
 have KT2 : Hid (Trn w w2 (fun x => F1 x ∨ F2 x ∨ F3 x)) := KT1.out.trans (T2.mono (fun g h => .inr (.inl h.1)))
 have KM3 : Hid _ := markD_sys B (.slice e m g) m Y q2 (fun x => F3 x ∧ x < A) w2 Z2 KS.out.km KS.out.kY (by rw [HQ3.out]; exact hq3)
 rw [HQ3.out] at KM3
 clear T2 O2 Z2 R2 x2
 go_wp2_with fail
 refine Calls.mono KM3.out ?_
 rintro e' w3 ⟨rfl, O3, T3⟩
 have KF : Hid (NtO w3 B n (mkNL 1 N) (marks q1 zs.length) m (mkdY q2 Y) (.slice a n c) (.slice l zs.length d) (.slice e m g) F1 F2 F3 ∧ Trn w w3 (fun x => F1 x ∨ F2 x ∨ F3 x)) := by
  refine ⟨⟨?_, ?_, ?_, KD.out.1, KD.out.2.1, KD.out.2.2⟩, KT2.out.trans (T3.mono (fun g h => .inr (.inr h.1)))⟩
  ·exact (KO2.out.1.turned T3 (fun g h1 h2 => KD.out.2.1 g h1.1 h2.1)).mono (fun g h => h.1)
  ·exact (KO2.out.2.turned T3 (fun g h1 h2 => KD.out.2.2 g h1.1 h2.1)).mono (fun g h => h.1)
  ·exact O3.mono (fun g h => h.1)
 clear T3 O3 x3
 go_wp2
 go_ret
 exact ⟨rfl, KF.out.1, KF.out.2⟩
theorem NtO.below {w w' : World} {B n m : Nat} {N : Nat → Nd} {zs : List Int} {Y : Nat → Sy} {v1 v2 v3 : Value} {F1 F2 F3 : Nat → Prop} (h : NtO w B n N zs m Y v1 v2 v3 F1 F2 F3) (hb : Below w.heap.size w w') : NtO w' B n N zs m Y v1 v2 v3 F1 F2 F3 := ⟨h.n.below hb, h.z.below hb, h.y.below hb, h.d1, h.d2, h.d3⟩
theorem NtO.cut {w : World} {B n m : Nat} {N : Nat → Nd} {zs : List Int} {Y : Nat → Sy} {v1 v2 v3 : Value} {F1 F2 F3 : Nat → Prop} (h : NtO w B n N zs m Y v1 v2 v3 F1 F2 F3) : ∃ G1 G2 G3, NtO w B n N zs m Y v1 v2 v3 G1 G2 G3 ∧ ∀ g, G1 g ∨ G2 g ∨ G3 g → B ≤ g ∧ g < w.heap.size :=
 ⟨_, _, _, ⟨h.n.cut, h.z.cut, h.y.cut, fun g a b => h.d1 g a.1 b.1, fun g a b => h.d2 g a.1 b.1, fun g a b => h.d3 g a.1 b.1⟩, fun g hg => by rcases hg with hg | hg | hg <;> exact hg.2⟩
end Go.Proofs.YtgooamiggebibaaGreatDoor
