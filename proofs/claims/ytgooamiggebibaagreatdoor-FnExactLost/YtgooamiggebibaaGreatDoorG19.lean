import Derived.Test.YtgooamiggebibaaGreatDoorG16
import Derived.Lib.QuietBelow
import Derived.BigQuiet
set_option maxHeartbeats 8000000
set_option maxRecDepth 2000
open Go.ChangeShapes Go.WideShapes Go.ChangeAt Go.RowKit
namespace Go.Proofs.YtgooamiggebibaaGreatDoor
theorem markSysF_any (B g n cap : Nat) (F : Nat → Prop) (S : Nat → Sy) (k : Nat) (w : World) (h : Ow w B (sysD n S) (.slice (some ⟨g, 0, none⟩) n cap) F) (_hn : n ≤ 1048576) (hm : ∀ i, i < n → (S i).p.m ≤ 1048576) (hk : ofy k S n ≤ 40000000) :
  Calls Tryz.prog 29 #[.slice (some ⟨g, 0, none⟩) n cap, .int .i64 (k : Int)] w fun e w' => e = .returned (.int .i64 ((ofy k S n : Nat) : Int)) ∧ Ow w' B (sysD n (mkdY k S)) (.slice (some ⟨g, 0, none⟩) n cap) F ∧ Trn w w' F := by
 obtain ⟨G, hsep, hmk⟩ := Ow.mk h
 have KS : Hid (Sep (some ⟨g, 0, none⟩) n 10 G F) := hsep
 have HG : Hid (F g) := hsep.head _ rfl
 have K0 : Hid (MkS w B 75 10 g n cap G (fun i => if i < 0 then syD (mkdY k S i) else syD (S i))) := hmk.congr (fun i q _ _ => by simp)
 have HM : Hid (∀ i, i < n → (S i).p.m ≤ 1048576) := hm
 clear h hm hsep hmk
 go_enter Tryz.func29, Tryz.ntmps29
 go_wp2
 go_loopw [1, 5] (fun vk vi wr => ∃ c : Nat, c ≤ n ∧ vk = .int .i64 ((ofy k S c : Nat) : Int) ∧ vi = .int .i64 (c : Int) ∧ MkS wr B 75 10 g n cap G (fun i => if i < c then syD (mkdY k S i) else syD (S i)) ∧ Trn w wr F) (fun _ vi _ => n - (intOf vi).toNat)
 case atStart => exact ⟨0, Nat.zero_le _, rfl, rfl, K0.out, Trn.refl _ _⟩
 case round =>
  obtain ⟨c, hcn, rfl, rfl, hop, htr⟩ := hrel
  clear K0
  have KO : Hid (MkS wr B 75 10 g n cap G (fun i => if i < c then syD (mkdY k S i) else syD (S i)) ∧ Trn w wr F) := ⟨hop, htr⟩
  clear hop htr
  by_cases hlt : c < n
  ·have hki : (c : Int) < (n : Int) := by omega
   obtain ⟨o0, HO0⟩ : ∃ x, Hid (ofy k S c = x) := ⟨_, rfl⟩
   have ho : o0 + 9 + (S c).p.m ≤ 40000000 := by rw [← HO0.out]; exact Nat.le_trans (ofy_le k S (show c + 1 ≤ n by omega)) hk
   have HNX : Hid (ofy k S (c + 1) = o0 + 9 + (S c).p.m) := by show ofy k S c + 9 + (S c).p.m = _; rw [HO0.out]
   have hmc := HM.out c hlt
   rw [HO0.out]
   obtain ⟨o1, HO1⟩ : ∃ x, Hid (x = o0 + 1) := ⟨_, rfl⟩
   obtain ⟨o2, HO2⟩ : ∃ x, Hid (x = o0 + 2) := ⟨_, rfl⟩
   obtain ⟨o3, HO3⟩ : ∃ x, Hid (x = o0 + 3) := ⟨_, rfl⟩
   obtain ⟨o4, HO4⟩ : ∃ x, Hid (x = o0 + 4) := ⟨_, rfl⟩
   obtain ⟨o5, HO5⟩ : ∃ x, Hid (x = o0 + 5) := ⟨_, rfl⟩
   obtain ⟨o6, HO6⟩ : ∃ x, Hid (x = o0 + 6) := ⟨_, rfl⟩
   obtain ⟨o7, HO7⟩ : ∃ x, Hid (x = o0 + 7) := ⟨_, rfl⟩
   obtain ⟨o8, HO8⟩ : ∃ x, Hid (x = o0 + 8) := ⟨_, rfl⟩
   obtain ⟨o9, HO9⟩ : ∃ x, Hid (x = o0 + 9) := ⟨_, rfl⟩
   have e1 : (o0 : Int) + 1 = (o1 : Int) := by have := HO1.out; omega
   have e2 : (o1 : Int) + 1 = (o2 : Int) := by have := HO2.out; have := HO1.out; omega
   have e3 : (o2 : Int) + 1 = (o3 : Int) := by have := HO3.out; have := HO2.out; omega
   have e4 : (o3 : Int) + 1 = (o4 : Int) := by have := HO4.out; have := HO3.out; omega
   have e5 : (o4 : Int) + 1 = (o5 : Int) := by have := HO5.out; have := HO4.out; omega
   have e6 : (o5 : Int) + 1 = (o6 : Int) := by have := HO6.out; have := HO5.out; omega
   have e7 : (o6 : Int) + 1 = (o7 : Int) := by have := HO7.out; have := HO6.out; omega
   have e8 : (o7 : Int) + 1 = (o8 : Int) := by have := HO8.out; have := HO7.out; omega
   have e9 : (o8 : Int) + 1 = (o9 : Int) := by have := HO9.out; have := HO8.out; omega
   obtain ⟨m, HMm⟩ : ∃ x, Hid ((S c).p.m = x) := ⟨_, rfl⟩
   rw [HMm.out] at ho hmc HNX
   obtain ⟨q6, HQ6⟩ : ∃ x, Hid (o9 + m = x) := ⟨_, rfl⟩
   have u0 : o0 ≤ 40000000 := by omega
   have u1 : o1 ≤ 40000000 := by have := HO1.out; omega
   have u2 : o2 ≤ 40000000 := by have := HO2.out; omega
   have u3 : o3 ≤ 40000000 := by have := HO3.out; omega
   have u4 : o4 ≤ 40000000 := by have := HO4.out; omega
   have u5 : o5 ≤ 40000000 := by have := HO5.out; omega
   have u6 : o6 ≤ 40000000 := by have := HO6.out; omega
   have u7 : o7 ≤ 40000000 := by have := HO7.out; omega
   have u8 : o8 ≤ 40000000 := by have := HO8.out; omega
   have u9 : o9 ≤ 40000000 := by have := HO9.out; omega
   obtain ⟨s3, HS3⟩ : ∃ x, Hid (mtxt o3 = x) := ⟨_, rfl⟩
   have KM3 : Hid (∀ W, Calls Tryz.prog 30 #[.int .i64 (o3 : Int)] W fun e w' => e = .returned (.string s3) ∧ Below W.heap.size W w') := fun W => by rw [← HS3.out]; exact markText_any o3 W (by omega)
   obtain ⟨s4, HS4⟩ : ∃ x, Hid (mtxt o4 = x) := ⟨_, rfl⟩
   have KM4 : Hid (∀ W, Calls Tryz.prog 30 #[.int .i64 (o4 : Int)] W fun e w' => e = .returned (.string s4) ∧ Below W.heap.size W w') := fun W => by rw [← HS4.out]; exact markText_any o4 W (by omega)
   obtain ⟨s8, HS8⟩ : ∃ x, Hid (mtxt o8 = x) := ⟨_, rfl⟩
   have KM8 : Hid (∀ W, Calls Tryz.prog 30 #[.int .i64 (o8 : Int)] W fun e w' => e = .returned (.string s8) ∧ Below W.heap.size W w') := fun W => by rw [← HS8.out]; exact markText_any o8 W (by omega)
   clear hk ho
   obtain ⟨x0v, x0, f0, _⟩ := MkS.cell KO.out.1 hlt (show 0 < 10 by omega)
   obtain ⟨x1v, x1, f1, _⟩ := MkS.cell KO.out.1 hlt (show 1 < 10 by omega)
   obtain ⟨x2v, x2, f2, _⟩ := MkS.cell KO.out.1 hlt (show 2 < 10 by omega)
   simp only [Nat.add_zero] at x0 f0 x1 f1 x2 f2
   obtain ⟨W1, HW1⟩ : ∃ x, Hid (x = (((wr.setCell ⟨g, c * 10, none⟩ (.int .i64 (o0 : Int))).setCell ⟨g, c * 10 + 1, none⟩ (.int .i64 (o1 : Int))).setCell ⟨g, c * 10 + 2, none⟩ (.int .i64 (o2 : Int)))) := ⟨_, rfl⟩
   have M1 := KO.out.1
   have M1 := MkS.set M1 KS.out hlt (show 0 < 10 by omega) (.int .i64 (o0 : Int))
   rw [Nat.add_zero] at M1
   have M1 := MkS.set M1 KS.out hlt (show 1 < 10 by omega) (.int .i64 (o1 : Int))
   have M1 := MkS.set M1 KS.out hlt (show 2 < 10 by omega) (.int .i64 (o2 : Int))
   rw [← HW1.out] at M1
   have KMk1 : Hid (MkS W1 B 75 10 g n cap G _) := M1
   clear M1
   have KTr1 : Hid (Trn w W1 F) := by show Trn _ _ _; rw [HW1.out]; exact (((KO.out.2.trans (Trn.set _ (c * 10) _ HG.out)).trans (Trn.set _ (c * 10 + 1) _ HG.out)).trans (Trn.set _ (c * 10 + 2) _ HG.out))
   go_wp2_with fail
   rw [← HW1.out]
   clear x0 f0 x1 f1 x2 f2
   refine Calls.mono (KM3.out _) ?_
   rintro e w1 ⟨rfl, b1⟩
   have KNk1 : Hid (MkS w1 B 75 10 g n cap G _) := MkS.below KMk1.out b1
   have KNt1 : Hid (Trn w w1 F) := KTr1.out.trans (Trn.ofBelow F b1)
   clear b1 KMk1 KTr1
   obtain ⟨x3v, x3, f3, _⟩ := MkS.cell KNk1.out hlt (show 3 < 10 by omega)
   obtain ⟨W2, HW2⟩ : ∃ x, Hid (x = (w1.setCell ⟨g, c * 10 + 3, none⟩ (.string s3))) := ⟨_, rfl⟩
   have M2 := KNk1.out
   have M2 := MkS.set M2 KS.out hlt (show 3 < 10 by omega) (.string s3)
   rw [← HW2.out] at M2
   have KMk2 : Hid (MkS W2 B 75 10 g n cap G _) := M2
   clear M2
   have KTr2 : Hid (Trn w W2 F) := by show Trn _ _ _; rw [HW2.out]; exact (KNt1.out.trans (Trn.set _ (c * 10 + 3) _ HG.out))
   go_wp2_with fail
   rw [← HW2.out]
   clear x3 f3
   refine Calls.mono (KM4.out _) ?_
   rintro e w2 ⟨rfl, b2⟩
   have KNk2 : Hid (MkS w2 B 75 10 g n cap G _) := MkS.below KMk2.out b2
   have KNt2 : Hid (Trn w w2 F) := KTr2.out.trans (Trn.ofBelow F b2)
   clear b2 KMk2 KTr2
   obtain ⟨x4v, x4, f4, _⟩ := MkS.cell KNk2.out hlt (show 4 < 10 by omega)
   obtain ⟨x5v, x5, f5, _⟩ := MkS.cell KNk2.out hlt (show 5 < 10 by omega)
   obtain ⟨x6v, x6, f6, _⟩ := MkS.cell KNk2.out hlt (show 6 < 10 by omega)
   obtain ⟨x7v, x7, f7, _⟩ := MkS.cell KNk2.out hlt (show 7 < 10 by omega)
   obtain ⟨W3, HW3⟩ : ∃ x, Hid (x = ((((w2.setCell ⟨g, c * 10 + 4, none⟩ (.string s4)).setCell ⟨g, c * 10 + 5, none⟩ (.int .i64 (o5 : Int))).setCell ⟨g, c * 10 + 6, none⟩ (.int .i64 (o6 : Int))).setCell ⟨g, c * 10 + 7, none⟩ (.int .i64 (o7 : Int)))) := ⟨_, rfl⟩
   have M3 := KNk2.out
   have M3 := MkS.set M3 KS.out hlt (show 4 < 10 by omega) (.string s4)
   have M3 := MkS.set M3 KS.out hlt (show 5 < 10 by omega) (.int .i64 (o5 : Int))
   have M3 := MkS.set M3 KS.out hlt (show 6 < 10 by omega) (.int .i64 (o6 : Int))
   have M3 := MkS.set M3 KS.out hlt (show 7 < 10 by omega) (.int .i64 (o7 : Int))
   rw [← HW3.out] at M3
   have KMk3 : Hid (MkS W3 B 75 10 g n cap G _) := M3
   clear M3
   have KTr3 : Hid (Trn w W3 F) := by show Trn _ _ _; rw [HW3.out]; exact ((((KNt2.out.trans (Trn.set _ (c * 10 + 4) _ HG.out)).trans (Trn.set _ (c * 10 + 5) _ HG.out)).trans (Trn.set _ (c * 10 + 6) _ HG.out)).trans (Trn.set _ (c * 10 + 7) _ HG.out))
   go_wp2_with fail
   rw [← HW3.out]
   clear x4 f4 x5 f5 x6 f6 x7 f7
   refine Calls.mono (KM8.out _) ?_
   rintro e w3 ⟨rfl, b3⟩
   have KNk3 : Hid (MkS w3 B 75 10 g n cap G _) := MkS.below KMk3.out b3
   have KNt3 : Hid (Trn w w3 F) := KTr3.out.trans (Trn.ofBelow F b3)
   clear b3 KMk3 KTr3
   obtain ⟨x8v, x8, f8, _⟩ := MkS.cell KNk3.out hlt (show 8 < 10 by omega)
   obtain ⟨v9, x9, _, ho9⟩ := MkS.cell KNk3.out hlt (show 9 < 10 by omega)
   obtain ⟨W4, HW4⟩ : ∃ x, Hid (x = (w3.setCell ⟨g, c * 10 + 8, none⟩ (.string s8))) := ⟨_, rfl⟩
   have M4 := KNk3.out
   have M4 := MkS.set M4 KS.out hlt (show 8 < 10 by omega) (.string s8)
   rw [← HW4.out] at M4
   have KMk4 : Hid (MkS W4 B 75 10 g n cap G _) := M4
   clear M4
   have KTr4 : Hid (Trn w W4 F) := by show Trn _ _ _; rw [HW4.out]; exact (KNt3.out.trans (Trn.set _ (c * 10 + 8) _ HG.out))
   obtain ⟨v9', x9', _, ho9'⟩ := MkS.cell KMk4.out hlt (show 9 < 10 by omega)
   have ev : v9' = v9 := by
    have h1 := x9'
    rw [HW4.out, World.cell?_setCell_other _ _ _ _ (by simp)] at h1
    exact Option.some.inj (h1.symm.trans x9)
   subst ev
   have HD9 : Hid (Ow W4 B (txD m (S c).p.S) v9' (G c 9)) := by
    have := ho9'
    show Ow _ _ _ _ _
    rw [← HMm.out]
    simpa [syD] using this
   have KMS : Hid _ := markD_txt B v9' m (S c).p.S o9 q6 (G c 9) W4 HD9.out (by omega) (by omega) HQ6.out
   have X9 : Hid (W4.cell? ⟨g, c * 10 + 9, none⟩ = some v9') := x9'
   clear ho9 ho9' x9'
   obtain ⟨a9, c9, e9⟩ : ∃ a9 c9, v9' = .slice a9 m c9 := by
    obtain ⟨a, cp, e, _⟩ := txt_ow HD9.out
    exact ⟨a, cp, e⟩
   subst e9
   go_wp2_with fail
   rw [← HW4.out]
   refine Calls.mono KMS.out ?_
   rintro e w9 ⟨rfl, hR9, hT9⟩
   have M9 := MkS.turn KMk4.out KS.out hlt (show 9 < 10 by omega) X9.out hR9 hT9
   have KT9 : Hid (Trn w w9 F) := KTr4.out.trans (hT9.mono (fun x hx => KS.out.sub c 9 x hlt (by omega) hx))
   have HN : Hid (MkS w9 B 75 10 g n cap G (fun i => if i < c + 1 then syD (mkdY k S i) else syD (S i))) := by
    refine MkS.congr M9 fun i q hi hq => ?_
    by_cases ei : i = c
    ·subst ei
     have hd : mkdY k S i = ⟨(o0 : Int), (o1 : Int), (o2 : Int), s3, ⟨s4, (o5 : Int), (o6 : Int), (o7 : Int), s8, m, fun j => mtxt (o9 + j)⟩⟩ := by
      unfold mkdY
      rw [HO0.out, ← HO1.out, ← HO2.out, ← HO3.out, ← HO4.out, ← HO5.out, ← HO6.out, ← HO7.out, ← HO8.out, ← HO9.out, HS3.out, HS4.out, HS8.out, HMm.out]
     rw [if_pos (show i < i + 1 by omega), hd]
     match q, hq with
     | 0, _ | 1, _ | 2, _ | 3, _ | 4, _ | 5, _ | 6, _ | 7, _ | 8, _ | 9, _ => simp [syD]
    ·by_cases e2 : i < c
     ·simp [ei, e2, show i < c + 1 by omega]
     ·simp [ei, e2, show ¬ i < c + 1 by omega]
   have HQQ : Hid ((q6 : Int) = ((ofy k S (c + 1) : Nat) : Int)) := by show _ = _; rw [HNX.out, ← HQ6.out, HO9.out]
   clear M9 hR9 hT9 KMS x8 f8 x9
   go_wp2
   go_roundw
   case rel => exact ⟨c + 1, by omega, by rw [HQQ.out], by go_num, HN.out, KT9.out⟩
   case measure => simp [intOf]; omega
  ·obtain rfl : c = n := by omega
   have HN : Hid (MkS wr B 75 10 g c cap G (fun i => syD (mkdY k S i))) := KO.out.1.congr (fun i q hi _ => by simp [hi])
   go_wp2
   go_ret
   exact ⟨rfl, HN.out.ow KS.out, KO.out.2⟩
end Go.Proofs.YtgooamiggebibaaGreatDoor
namespace Go.Proofs.YtgooamiggebibaaGreatDoor
open Go.ChangeShapes Go.WideShapes Go.ChangeAt Go.RowKit Go.Sort
def mkX (o : Nat) (s : Sl) : Sl := ⟨mtxt o, ⟨mtxt (o + 1), ((o + 2 : Nat) : Int), ((o + 3 : Nat) : Int), ((o + 4 : Nat) : Int), mtxt (o + 5), s.p.m, fun j => mtxt (o + 6 + j)⟩, (((o + 6 + s.p.m : Nat) : Int) % 3 == 0), (((o + 7 + s.p.m : Nat) : Int) % 3 == 0), (((o + 8 + s.p.m : Nat) : Int) % 3 == 0), (((o + 9 + s.p.m : Nat) : Int) % 3 == 0), marks (o + 10 + s.p.m) s.ze.length, marks (o + 10 + s.p.m + s.ze.length) s.zr.length⟩
def mkL (k : Nat) (S : Nat → Sl) (i : Nat) : Sl := mkX (k + tot (fun i => wkS (S i)) i) (S i)
theorem markSlsF_any (B g n cap : Nat) (F : Nat → Prop) (S : Nat → Sl) (k : Nat) (w : World) (h : Ow w B (slsD n S) (.slice (some ⟨g, 0, none⟩) n cap) F) (hn : n ≤ 1048576) (hm : ∀ i, i < n → SlS (S i)) (hk : k + tot (fun i => wkS (S i)) n ≤ 40000000) :
  Calls Tryz.prog 45 #[.slice (some ⟨g, 0, none⟩) n cap, .int .i64 (k : Int)] w fun e w' => e = .returned (.int .i64 ((k + tot (fun i => wkS (S i)) n : Nat) : Int)) ∧ Ow w' B (slsD n (mkL k S)) (.slice (some ⟨g, 0, none⟩) n cap) F ∧ Trn w w' F := by
 obtain ⟨G, hsep, hmk⟩ := Ow.mk h
 have KS : Hid (Sep (some ⟨g, 0, none⟩) n 13 G F) := hsep
 have HG : Hid (F g) := hsep.head _ rfl
 have K0 : Hid (MkS w B 90 13 g n cap G (fun i => slD (S i))) := hmk.congr (fun i q _ _ => rfl)
 have HM : Hid (∀ i, i < n → SlS (S i)) := hm
 have HK : Hid (k + tot (fun i => wkS (S i)) n ≤ 40000000) := hk
 clear h hm hsep hmk hk
 go_enter Tryz.func45, Tryz.ntmps45
 go_wp2
 go_loopw [1, 5] (fun vk vi wr => ∃ (c x : Nat) (S' : Nat → Sl), c ≤ n ∧ vk = .int .i64 (x : Int) ∧ vi = .int .i64 (c : Int) ∧ Hid (x = k + tot (fun i => wkS (S i)) c ∧ (∀ i, S' i = if i < c then mkL k S i else S i) ∧ MkS wr B 90 13 g n cap G (fun i => slD (S' i)) ∧ Trn w wr F)) (fun _ vi _ => n - (intOf vi).toNat)
 case atStart => exact ⟨0, k, S, Nat.zero_le _, rfl, rfl, rfl, fun i => by simp, K0.out, Trn.refl _ _⟩
 case round =>
  obtain ⟨c, o0, S', hcn, rfl, rfl, KO⟩ := hrel
  clear K0
  by_cases hlt : c < n
  ·have hki : (c : Int) < (n : Int) := by omega
   have hS : S' c = S c := by rw [KO.out.2.1 c, if_neg (Nat.lt_irrefl _)]
   have hsc := HM.out c hlt
   have ho : o0 + wkS (S c) ≤ 40000000 := by
    have h1 := KO.out.1
    have h2 : tot (fun i => wkS (S i)) c + wkS (S c) ≤ tot (fun i => wkS (S i)) n := tot_step (g := fun i => wkS (S i)) hlt
    have h3 := HK.out
    omega
   obtain ⟨m, HMm⟩ : ∃ x, Hid ((S c).p.m = x) := ⟨_, rfl⟩
   obtain ⟨le, HLe⟩ : ∃ x, Hid ((S c).ze.length = x) := ⟨_, rfl⟩
   obtain ⟨lr, HLr⟩ : ∃ x, Hid ((S c).zr.length = x) := ⟨_, rfl⟩
   have HNX : Hid (o0 + 10 + m + le + lr = k + tot (fun i => wkS (S i)) (c + 1)) := by
    show _ = k + (tot (fun i => wkS (S i)) c + wkS (S c))
    have := KO.out.1
    unfold wkS
    rw [HMm.out, HLe.out, HLr.out]
    unfold wkS at this
    omega
   unfold wkS at ho
   unfold SlS at hsc
   rw [HMm.out, HLe.out, HLr.out] at ho hsc
   obtain ⟨o1, Ho1⟩ : ∃ x, Hid (x = o0 + 1) := ⟨_, rfl⟩
   obtain ⟨o2, Ho2⟩ : ∃ x, Hid (x = o1 + 1) := ⟨_, rfl⟩
   obtain ⟨o3, Ho3⟩ : ∃ x, Hid (x = o2 + 1) := ⟨_, rfl⟩
   obtain ⟨o4, Ho4⟩ : ∃ x, Hid (x = o3 + 1) := ⟨_, rfl⟩
   obtain ⟨o5, Ho5⟩ : ∃ x, Hid (x = o4 + 1) := ⟨_, rfl⟩
   obtain ⟨o6, Ho6⟩ : ∃ x, Hid (x = o5 + 1) := ⟨_, rfl⟩
   obtain ⟨o7, Ho7⟩ : ∃ x, Hid (o6 + m = x) := ⟨_, rfl⟩
   obtain ⟨o8, Ho8⟩ : ∃ x, Hid (x = o7 + 1) := ⟨_, rfl⟩
   obtain ⟨o9, Ho9⟩ : ∃ x, Hid (x = o8 + 1) := ⟨_, rfl⟩
   obtain ⟨o10, Ho10⟩ : ∃ x, Hid (x = o9 + 1) := ⟨_, rfl⟩
   obtain ⟨o11, Ho11⟩ : ∃ x, Hid (x = o10 + 1) := ⟨_, rfl⟩
   obtain ⟨o12, Ho12⟩ : ∃ x, Hid (o11 + le = x) := ⟨_, rfl⟩
   obtain ⟨o13, Ho13⟩ : ∃ x, Hid (o12 + lr = x) := ⟨_, rfl⟩
   have e1 : (o0 : Int) + 1 = (o1 : Int) := by have := Ho1.out; omega
   have e2 : (o1 : Int) + 1 = (o2 : Int) := by have := Ho2.out; omega
   have e3 : (o2 : Int) + 1 = (o3 : Int) := by have := Ho3.out; omega
   have e4 : (o3 : Int) + 1 = (o4 : Int) := by have := Ho4.out; omega
   have e5 : (o4 : Int) + 1 = (o5 : Int) := by have := Ho5.out; omega
   have e6 : (o5 : Int) + 1 = (o6 : Int) := by have := Ho6.out; omega
   have e8 : (o7 : Int) + 1 = (o8 : Int) := by have := Ho8.out; omega
   have e9 : (o8 : Int) + 1 = (o9 : Int) := by have := Ho9.out; omega
   have e10 : (o9 : Int) + 1 = (o10 : Int) := by have := Ho10.out; omega
   have e11 : (o10 : Int) + 1 = (o11 : Int) := by have := Ho11.out; omega
   have UB : Hid (o13 ≤ 40000000 ∧ o12 ≤ 40000000 ∧ o11 ≤ 40000000 ∧ o6 ≤ 40000000 ∧ o5 ≤ 40000000 ∧ o1 ≤ 40000000 ∧ o0 ≤ 40000000) := by have := Ho1.out; have := Ho2.out; have := Ho3.out; have := Ho4.out; have := Ho5.out; have := Ho6.out; have := Ho7.out; have := Ho8.out; have := Ho9.out; have := Ho10.out; have := Ho11.out; have := Ho12.out; have := Ho13.out; exact ⟨by omega, by omega, by omega, by omega, by omega, by omega, by omega⟩
   have HNX2 : Hid (o13 = k + tot (fun i => wkS (S i)) (c + 1)) := by show _ = _; rw [← HNX.out]; have := Ho1.out; have := Ho2.out; have := Ho3.out; have := Ho4.out; have := Ho5.out; have := Ho6.out; have := Ho7.out; have := Ho8.out; have := Ho9.out; have := Ho10.out; have := Ho11.out; have := Ho12.out; have := Ho13.out; omega
   have u0 : o0 ≤ 40000000 := by have := Ho1.out; have := Ho2.out; have := Ho3.out; have := Ho4.out; have := Ho5.out; have := Ho6.out; have := Ho7.out; have := Ho8.out; have := Ho9.out; have := Ho10.out; have := Ho11.out; have := Ho12.out; have := UB.out.1; have := Ho13.out; omega
   have u1 : o1 ≤ 40000000 := by have := Ho1.out; have := Ho2.out; have := Ho3.out; have := Ho4.out; have := Ho5.out; have := Ho6.out; have := Ho7.out; have := Ho8.out; have := Ho9.out; have := Ho10.out; have := Ho11.out; have := Ho12.out; have := UB.out.1; have := Ho13.out; omega
   have u2 : o2 ≤ 40000000 := by have := Ho1.out; have := Ho2.out; have := Ho3.out; have := Ho4.out; have := Ho5.out; have := Ho6.out; have := Ho7.out; have := Ho8.out; have := Ho9.out; have := Ho10.out; have := Ho11.out; have := Ho12.out; have := UB.out.1; have := Ho13.out; omega
   have u3 : o3 ≤ 40000000 := by have := Ho1.out; have := Ho2.out; have := Ho3.out; have := Ho4.out; have := Ho5.out; have := Ho6.out; have := Ho7.out; have := Ho8.out; have := Ho9.out; have := Ho10.out; have := Ho11.out; have := Ho12.out; have := UB.out.1; have := Ho13.out; omega
   have u4 : o4 ≤ 40000000 := by have := Ho1.out; have := Ho2.out; have := Ho3.out; have := Ho4.out; have := Ho5.out; have := Ho6.out; have := Ho7.out; have := Ho8.out; have := Ho9.out; have := Ho10.out; have := Ho11.out; have := Ho12.out; have := UB.out.1; have := Ho13.out; omega
   have u5 : o5 ≤ 40000000 := by have := Ho1.out; have := Ho2.out; have := Ho3.out; have := Ho4.out; have := Ho5.out; have := Ho6.out; have := Ho7.out; have := Ho8.out; have := Ho9.out; have := Ho10.out; have := Ho11.out; have := Ho12.out; have := UB.out.1; have := Ho13.out; omega
   have u6 : o6 ≤ 40000000 := by have := Ho1.out; have := Ho2.out; have := Ho3.out; have := Ho4.out; have := Ho5.out; have := Ho6.out; have := Ho7.out; have := Ho8.out; have := Ho9.out; have := Ho10.out; have := Ho11.out; have := Ho12.out; have := UB.out.1; have := Ho13.out; omega
   have u7 : o7 ≤ 40000000 := by have := Ho1.out; have := Ho2.out; have := Ho3.out; have := Ho4.out; have := Ho5.out; have := Ho6.out; have := Ho7.out; have := Ho8.out; have := Ho9.out; have := Ho10.out; have := Ho11.out; have := Ho12.out; have := UB.out.1; have := Ho13.out; omega
   have u8 : o8 ≤ 40000000 := by have := Ho1.out; have := Ho2.out; have := Ho3.out; have := Ho4.out; have := Ho5.out; have := Ho6.out; have := Ho7.out; have := Ho8.out; have := Ho9.out; have := Ho10.out; have := Ho11.out; have := Ho12.out; have := UB.out.1; have := Ho13.out; omega
   have u9 : o9 ≤ 40000000 := by have := Ho1.out; have := Ho2.out; have := Ho3.out; have := Ho4.out; have := Ho5.out; have := Ho6.out; have := Ho7.out; have := Ho8.out; have := Ho9.out; have := Ho10.out; have := Ho11.out; have := Ho12.out; have := UB.out.1; have := Ho13.out; omega
   have u10 : o10 ≤ 40000000 := by have := Ho1.out; have := Ho2.out; have := Ho3.out; have := Ho4.out; have := Ho5.out; have := Ho6.out; have := Ho7.out; have := Ho8.out; have := Ho9.out; have := Ho10.out; have := Ho11.out; have := Ho12.out; have := UB.out.1; have := Ho13.out; omega
   have u11 : o11 ≤ 40000000 := by have := Ho1.out; have := Ho2.out; have := Ho3.out; have := Ho4.out; have := Ho5.out; have := Ho6.out; have := Ho7.out; have := Ho8.out; have := Ho9.out; have := Ho10.out; have := Ho11.out; have := Ho12.out; have := UB.out.1; have := Ho13.out; omega
   obtain ⟨s0, HS0⟩ : ∃ x, Hid (mtxt o0 = x) := ⟨_, rfl⟩
   have KM0 : Hid (∀ W, Calls Tryz.prog 30 #[.int .i64 (o0 : Int)] W fun e w' => e = .returned (.string s0) ∧ Below W.heap.size W w') := fun W => by rw [← HS0.out]; exact markText_any o0 W (by omega)
   obtain ⟨s1, HS1⟩ : ∃ x, Hid (mtxt o1 = x) := ⟨_, rfl⟩
   have KM1 : Hid (∀ W, Calls Tryz.prog 30 #[.int .i64 (o1 : Int)] W fun e w' => e = .returned (.string s1) ∧ Below W.heap.size W w') := fun W => by rw [← HS1.out]; exact markText_any o1 W (by omega)
   obtain ⟨s5, HS5⟩ : ∃ x, Hid (mtxt o5 = x) := ⟨_, rfl⟩
   have KM5 : Hid (∀ W, Calls Tryz.prog 30 #[.int .i64 (o5 : Int)] W fun e w' => e = .returned (.string s5) ∧ Below W.heap.size W w') := fun W => by rw [← HS5.out]; exact markText_any o5 W (by omega)
   have hs1 := hsc.1
   have hs2 := hsc.2.1
   have hs3 := hsc.2.2
   clear ho hsc
   have K1 : Hid (MkS wr B 90 13 g n cap G (fun i => slD (S' i)) ∧ Trn w wr F) := ⟨KO.out.2.2.1, KO.out.2.2.2⟩
   obtain ⟨W1, HW1⟩ : ∃ x, Hid (x = wr) := ⟨_, rfl⟩
   have M1 := K1.out.1
   rw [← HW1.out] at M1
   have KK1 : Hid (MkS W1 B 90 13 g n cap G _ ∧ Trn w W1 F) := ⟨M1, by rw [HW1.out]; exact K1.out.2⟩
   clear M1
   go_wp2_with fail
   rw [← HW1.out]
   refine Calls.mono (KM0.out _) ?_
   rintro e w1 ⟨rfl, b1⟩
   have KN1 : Hid (MkS w1 B 90 13 g n cap G _ ∧ Trn w w1 F) := ⟨MkS.below KK1.out.1 b1, KK1.out.2.trans (Trn.ofBelow F b1)⟩
   clear b1 KK1
   obtain ⟨x0v, x0, f0, _⟩ := MkS.cell KN1.out.1 hlt (show 0 < 13 by omega)
   simp only [Nat.add_zero] at x0 f0
   obtain ⟨W2, HW2⟩ : ∃ x, Hid (x = (w1.setCell ⟨g, c * 13, none⟩ (.string s0))) := ⟨_, rfl⟩
   have M2 := KN1.out.1
   have M2 := MkS.set M2 KS.out hlt (show 0 < 13 by omega) (.string s0)
   rw [Nat.add_zero] at M2
   rw [← HW2.out] at M2
   have KK2 : Hid (MkS W2 B 90 13 g n cap G _ ∧ Trn w W2 F) := ⟨M2, by rw [HW2.out]; exact (KN1.out.2.trans (Trn.set _ (c * 13) _ HG.out))⟩
   clear M2
   go_wp2_with fail
   rw [← HW2.out]
   clear x0 f0
   refine Calls.mono (KM1.out _) ?_
   rintro e w2 ⟨rfl, b2⟩
   have KN2 : Hid (MkS w2 B 90 13 g n cap G _ ∧ Trn w w2 F) := ⟨MkS.below KK2.out.1 b2, KK2.out.2.trans (Trn.ofBelow F b2)⟩
   clear b2 KK2
   obtain ⟨x1v, x1, f1, _⟩ := MkS.cell KN2.out.1 hlt (show 1 < 13 by omega)
   obtain ⟨x2v, x2, f2, _⟩ := MkS.cell KN2.out.1 hlt (show 2 < 13 by omega)
   obtain ⟨x3v, x3, f3, _⟩ := MkS.cell KN2.out.1 hlt (show 3 < 13 by omega)
   obtain ⟨x4v, x4, f4, _⟩ := MkS.cell KN2.out.1 hlt (show 4 < 13 by omega)
   obtain ⟨W3, HW3⟩ : ∃ x, Hid (x = ((((w2.setCell ⟨g, c * 13 + 1, none⟩ (.string s1)).setCell ⟨g, c * 13 + 2, none⟩ (.int .i64 (o2 : Int))).setCell ⟨g, c * 13 + 3, none⟩ (.int .i64 (o3 : Int))).setCell ⟨g, c * 13 + 4, none⟩ (.int .i64 (o4 : Int)))) := ⟨_, rfl⟩
   have M3 := KN2.out.1
   have M3 := MkS.set M3 KS.out hlt (show 1 < 13 by omega) (.string s1)
   have M3 := MkS.set M3 KS.out hlt (show 2 < 13 by omega) (.int .i64 (o2 : Int))
   have M3 := MkS.set M3 KS.out hlt (show 3 < 13 by omega) (.int .i64 (o3 : Int))
   have M3 := MkS.set M3 KS.out hlt (show 4 < 13 by omega) (.int .i64 (o4 : Int))
   rw [← HW3.out] at M3
   have KK3 : Hid (MkS W3 B 90 13 g n cap G _ ∧ Trn w W3 F) := ⟨M3, by rw [HW3.out]; exact ((((KN2.out.2.trans (Trn.set _ (c * 13 + 1) _ HG.out)).trans (Trn.set _ (c * 13 + 2) _ HG.out)).trans (Trn.set _ (c * 13 + 3) _ HG.out)).trans (Trn.set _ (c * 13 + 4) _ HG.out))⟩
   clear M3
   go_wp2_with fail
   rw [← HW3.out]
   clear x1 f1 x2 f2 x3 f3 x4 f4
   refine Calls.mono (KM5.out _) ?_
   rintro e w3 ⟨rfl, b3⟩
   have KN3 : Hid (MkS w3 B 90 13 g n cap G _ ∧ Trn w w3 F) := ⟨MkS.below KK3.out.1 b3, KK3.out.2.trans (Trn.ofBelow F b3)⟩
   clear b3 KK3
   obtain ⟨x5v, x5, f5, _⟩ := MkS.cell KN3.out.1 hlt (show 5 < 13 by omega)
   obtain ⟨W4, HW4⟩ : ∃ x, Hid (x = (w3.setCell ⟨g, c * 13 + 5, none⟩ (.string s5))) := ⟨_, rfl⟩
   have M4 := KN3.out.1
   have M4 := MkS.set M4 KS.out hlt (show 5 < 13 by omega) (.string s5)
   rw [← HW4.out] at M4
   have KK4 : Hid (MkS W4 B 90 13 g n cap G _ ∧ Trn w W4 F) := ⟨M4, by rw [HW4.out]; exact (KN3.out.2.trans (Trn.set _ (c * 13 + 5) _ HG.out))⟩
   clear M4
   obtain ⟨v6, x6, _, h6⟩ := MkS.cell KK4.out.1 hlt (show 6 < 13 by omega)
   have HD6 : Hid (Ow W4 B (txD (S c).p.m (S c).p.S) v6 (G c 6)) := by
    have := h6
    simp [slD, hS] at this
    exact this
   have KMS : Hid _ := markD_txt B v6 (S c).p.m (S c).p.S o6 o7 (G c 6) W4 HD6.out (by rw [HMm.out]; exact hs1) (by omega) (by rw [HMm.out]; exact Ho7.out)
   obtain ⟨a6, c6, e6⟩ : ∃ a6 c6, v6 = .slice a6 m c6 := by
    obtain ⟨a, cp, e, _⟩ := txt_ow HD6.out
    rw [HMm.out] at e
    exact ⟨a, cp, e⟩
   subst e6
   have X6 : Hid (W4.cell? ⟨g, c * 13 + 6, none⟩ = some (.slice a6 m c6)) := x6
   have y6 : w3.cell? ⟨g, c * 13 + 6, none⟩ = some (.slice a6 m c6) := by
    have h1 := x6
    rw [HW4.out, World.cell?_setCell_other _ _ _ _ (by simp)] at h1
    exact h1
   clear h6 x6
   go_wp2_with fail
   rw [← HW4.out]
   refine Calls.mono KMS.out ?_
   rintro e w4 ⟨rfl, hR6, hT6⟩
   have M4 := MkS.turn KK4.out.1 KS.out hlt (show 6 < 13 by omega) X6.out hR6 hT6
   have KN4 : Hid (MkS w4 B 90 13 g n cap G _ ∧ Trn w w4 F) := ⟨M4, KK4.out.2.trans (hT6.mono (fun x hx => KS.out.sub c 6 x hlt (by omega) hx))⟩
   clear M4 hR6 hT6 KMS KK4 y6 x5 f5
   obtain ⟨x7v, x7, f7, _⟩ := MkS.cell KN4.out.1 hlt (show 7 < 13 by omega)
   obtain ⟨x8v, x8, f8, _⟩ := MkS.cell KN4.out.1 hlt (show 8 < 13 by omega)
   obtain ⟨x9v, x9, f9, _⟩ := MkS.cell KN4.out.1 hlt (show 9 < 13 by omega)
   obtain ⟨x10v, x10, f10, _⟩ := MkS.cell KN4.out.1 hlt (show 10 < 13 by omega)
   obtain ⟨W5, HW5⟩ : ∃ x, Hid (x = ((((w4.setCell ⟨g, c * 13 + 7, none⟩ (.bool ((o7 : Int) % 3 == 0))).setCell ⟨g, c * 13 + 8, none⟩ (.bool ((o8 : Int) % 3 == 0))).setCell ⟨g, c * 13 + 9, none⟩ (.bool ((o9 : Int) % 3 == 0))).setCell ⟨g, c * 13 + 10, none⟩ (.bool ((o10 : Int) % 3 == 0)))) := ⟨_, rfl⟩
   have M5 := KN4.out.1
   have M5 := MkS.set M5 KS.out hlt (show 7 < 13 by omega) (.bool ((o7 : Int) % 3 == 0))
   have M5 := MkS.set M5 KS.out hlt (show 8 < 13 by omega) (.bool ((o8 : Int) % 3 == 0))
   have M5 := MkS.set M5 KS.out hlt (show 9 < 13 by omega) (.bool ((o9 : Int) % 3 == 0))
   have M5 := MkS.set M5 KS.out hlt (show 10 < 13 by omega) (.bool ((o10 : Int) % 3 == 0))
   rw [← HW5.out] at M5
   have KK5 : Hid (MkS W5 B 90 13 g n cap G _ ∧ Trn w W5 F) := ⟨M5, by rw [HW5.out]; exact ((((KN4.out.2.trans (Trn.set _ (c * 13 + 7) _ HG.out)).trans (Trn.set _ (c * 13 + 8) _ HG.out)).trans (Trn.set _ (c * 13 + 9) _ HG.out)).trans (Trn.set _ (c * 13 + 10) _ HG.out))⟩
   clear M5
   obtain ⟨v11, x11, _, h11⟩ := MkS.cell KK5.out.1 hlt (show 11 < 13 by omega)
   have HD11 : Hid (Ow W5 B (inD (S c).ze) v11 (G c 11)) := by
    have := h11
    simp [slD, hS] at this
    exact this
   have KMS : Hid _ := markD_ints B v11 (S c).ze o11 o12 (G c 11) W5 HD11.out (by rw [HLe.out]; exact hs2) (by have := UB.out; omega) (by rw [HLe.out]; exact Ho12.out)
   obtain ⟨a11, c11, e11'⟩ : ∃ a11 c11, v11 = .slice a11 le c11 := by
    obtain ⟨a, cp, e, _⟩ := ints_ow HD11.out
    rw [HLe.out] at e
    exact ⟨a, cp, e⟩
   subst e11'
   have X11 : Hid (W5.cell? ⟨g, c * 13 + 11, none⟩ = some (.slice a11 le c11)) := x11
   have y11 : w4.cell? ⟨g, c * 13 + 11, none⟩ = some (.slice a11 le c11) := by
    have h1 := x11
    rw [HW5.out, World.cell?_setCell_other _ _ _ _ (by simp), World.cell?_setCell_other _ _ _ _ (by simp), World.cell?_setCell_other _ _ _ _ (by simp), World.cell?_setCell_other _ _ _ _ (by simp)] at h1
    exact h1
   clear h11 x11
   go_wp2_with fail
   rw [← HW5.out]
   refine Calls.mono KMS.out ?_
   rintro e w5 ⟨rfl, hR11, hT11⟩
   have M5 := MkS.turn KK5.out.1 KS.out hlt (show 11 < 13 by omega) X11.out hR11 hT11
   have KN5 : Hid (MkS w5 B 90 13 g n cap G _ ∧ Trn w w5 F) := ⟨M5, KK5.out.2.trans (hT11.mono (fun x hx => KS.out.sub c 11 x hlt (by omega) hx))⟩
   clear M5 hR11 hT11 KMS KK5 y11 x7 f7 x8 f8 x9 f9 x10 f10
   obtain ⟨W6, HW6⟩ : ∃ x, Hid (x = w5) := ⟨_, rfl⟩
   have M6 := KN5.out.1
   rw [← HW6.out] at M6
   have KK6 : Hid (MkS W6 B 90 13 g n cap G _ ∧ Trn w W6 F) := ⟨M6, by rw [HW6.out]; exact KN5.out.2⟩
   clear M6
   obtain ⟨v12, x12, _, h12⟩ := MkS.cell KK6.out.1 hlt (show 12 < 13 by omega)
   have HD12 : Hid (Ow W6 B (inD (S c).zr) v12 (G c 12)) := by
    have := h12
    simp [slD, hS] at this
    exact this
   have KMS : Hid _ := markD_ints B v12 (S c).zr o12 o13 (G c 12) W6 HD12.out (by rw [HLr.out]; exact hs3) (by have := UB.out; omega) (by rw [HLr.out]; exact Ho13.out)
   obtain ⟨a12, c12, e12'⟩ : ∃ a12 c12, v12 = .slice a12 lr c12 := by
    obtain ⟨a, cp, e, _⟩ := ints_ow HD12.out
    rw [HLr.out] at e
    exact ⟨a, cp, e⟩
   subst e12'
   have X12 : Hid (W6.cell? ⟨g, c * 13 + 12, none⟩ = some (.slice a12 lr c12)) := x12
   have y12 : w5.cell? ⟨g, c * 13 + 12, none⟩ = some (.slice a12 lr c12) := by
    have h1 := x12
    rw [HW6.out] at h1
    exact h1
   clear h12 x12
   go_wp2_with fail
   rw [← HW6.out]
   refine Calls.mono KMS.out ?_
   rintro e w6 ⟨rfl, hR12, hT12⟩
   have M6 := MkS.turn KK6.out.1 KS.out hlt (show 12 < 13 by omega) X12.out hR12 hT12
   have KN6 : Hid (MkS w6 B 90 13 g n cap G _ ∧ Trn w w6 F) := ⟨M6, KK6.out.2.trans (hT12.mono (fun x hx => KS.out.sub c 12 x hlt (by omega) hx))⟩
   clear M6 hR12 hT12 KMS KK6 y12
   obtain ⟨W7, HW7⟩ : ∃ x, Hid (x = w6) := ⟨_, rfl⟩
   have M7 := KN6.out.1
   rw [← HW7.out] at M7
   have KK7 : Hid (MkS W7 B 90 13 g n cap G _ ∧ Trn w W7 F) := ⟨M7, by rw [HW7.out]; exact KN6.out.2⟩
   clear M7
   have HN : Hid (∃ S2 : Nat → Sl, (∀ i, S2 i = if i < c + 1 then mkL k S i else S i) ∧ MkS w6 B 90 13 g n cap G (fun i => slD (S2 i)) ∧ Trn w w6 F) := by
    have hd : mkL k S c = ⟨s0, ⟨s1, (o2 : Int), (o3 : Int), (o4 : Int), s5, (S c).p.m, fun j => mtxt (o6 + j)⟩, ((o7 : Int) % 3 == 0), ((o8 : Int) % 3 == 0), ((o9 : Int) % 3 == 0), ((o10 : Int) % 3 == 0), marks o11 (S c).ze.length, marks o12 (S c).zr.length⟩ := by
     have z0 : k + tot (fun i => wkS (S i)) c = o0 := KO.out.1.symm
     have z1 : o0 + 1 = o1 := Ho1.out.symm
     have z2 : o0 + 2 = o2 := by have := Ho2.out; omega
     have z3 : o0 + 3 = o3 := by have := Ho3.out; omega
     have z4 : o0 + 4 = o4 := by have := Ho4.out; omega
     have z5 : o0 + 5 = o5 := by have := Ho5.out; omega
     have z6 : o0 + 6 = o6 := by have := Ho6.out; omega
     have z7 : o6 + (S c).p.m = o7 := by rw [HMm.out]; exact Ho7.out
     have z8 : o0 + 7 + (S c).p.m = o8 := by have := Ho8.out; omega
     have z9 : o0 + 8 + (S c).p.m = o9 := by have := Ho9.out; omega
     have z10 : o0 + 9 + (S c).p.m = o10 := by have := Ho10.out; omega
     have z11 : o0 + 10 + (S c).p.m = o11 := by have := Ho11.out; omega
     have z12 : o11 + (S c).ze.length = o12 := by rw [HLe.out]; exact Ho12.out
     unfold mkL mkX
     rw [z0, z1, z2, z3, z4, z5, z6, z7, z8, z9, z10, z11, z12, HS0.out, HS1.out, HS5.out]
    refine ⟨fun i => if i < c + 1 then mkL k S i else S i, fun i => rfl, MkS.congr KN6.out.1 fun i q hi hq => ?_, KN6.out.2⟩
    show _ = slD (if i < c + 1 then mkL k S i else S i) q
    by_cases ei : i = c
    ·subst ei
     rw [if_pos (show i < i + 1 by omega), hd]
     match q, hq with
     | 0, _ | 1, _ | 2, _ | 3, _ | 4, _ | 5, _ | 6, _ | 7, _ | 8, _ | 9, _ | 10, _ | 11, _ | 12, _ => simp [slD]
    ·have e1 := KO.out.2.1 i
     by_cases e2 : i < c
     ·rw [if_pos (show i < c + 1 by omega)]
      rw [if_pos e2] at e1
      simp [ei, e1]
     ·rw [if_neg (show ¬ i < c + 1 by omega)]
      rw [if_neg e2] at e1
      simp [ei, e1]
   go_wp2
   obtain ⟨S2, g1, g2, g3⟩ := HN.out
   go_roundw
   case rel => exact ⟨c + 1, o13, S2, by omega, by go_num, by go_num, HNX2.out, g1, g2, g3⟩
   case measure => simp [intOf]; omega
  ·obtain rfl : c = n := by omega
   go_wp2
   go_ret
   have HF : Hid (Ow wr B (slsD c (mkL k S)) (.slice (some ⟨g, 0, none⟩) c cap) F) := (KO.out.2.2.1.congr (fun i q hi _ => by rw [KO.out.2.1 i, if_pos hi])).ow KS.out
   exact ⟨ret_int (by have := KO.out.1; omega), HF.out, KO.out.2.2.2⟩
end Go.Proofs.YtgooamiggebibaaGreatDoor
