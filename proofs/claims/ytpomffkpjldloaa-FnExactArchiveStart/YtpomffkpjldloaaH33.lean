/- Marks laid into lists of sayings, and asked for, with wide bounds. Written by mkmarkn.py. -/
import Derived.Test.YtpomffkpjldloaaH27
import Derived.Test.YtpomffkpjldloaaH28
namespace Go.Proofs.Ytpomffkpjldloaa
set_option maxRecDepth 2000
open Go.ChangeShapes Go.WideShapes Go.ChangeAt Go.RowKit

set_option maxHeartbeats 4000000 in
theorem markSysF_any (B g n cap : Nat) (F : Nat → Prop) (S : Nat → Sy) (k : Nat) (w : World) (h : Ow w B (sysD n S) (.slice (some ⟨g, 0, none⟩) n cap) F) (_hn : n ≤ 1048576) (hm : ∀ i, i < n → (S i).p.m ≤ 1048576) (hk : ofy k S n ≤ 40000000) :
    Calls Try.prog 36 #[.slice (some ⟨g, 0, none⟩) n cap, .int .i64 (k : Int)] w fun e w' => e = .returned (.int .i64 ((ofy k S n : Nat) : Int)) ∧ Ow w' B (sysD n (mkdY k S)) (.slice (some ⟨g, 0, none⟩) n cap) F ∧ Trn w w' F := by
  obtain ⟨G, hsep, hmk⟩ := Ow.mk h
  have KS : Hid (Sep (some ⟨g, 0, none⟩) n 10 G F) := hsep
  have HG : Hid (F g) := hsep.head _ rfl
  have K0 : Hid (MkS w B 75 10 g n cap G (fun i => if i < 0 then syD (mkdY k S i) else syD (S i))) := hmk.congr (fun i q _ _ => by simp)
  have HM : Hid (∀ i, i < n → (S i).p.m ≤ 1048576) := hm
  clear h hm hsep hmk
  go_enter Try.func36, Try.ntmps36
  go_wp2
  go_loopw [1, 5] (fun vk vi wr => ∃ c : Nat, c ≤ n ∧ vk = .int .i64 ((ofy k S c : Nat) : Int) ∧ vi = .int .i64 (c : Int) ∧ MkS wr B 75 10 g n cap G (fun i => if i < c then syD (mkdY k S i) else syD (S i)) ∧ Trn w wr F) (fun _ vi _ => n - (intOf vi).toNat)
  case atStart => exact ⟨0, Nat.zero_le _, rfl, rfl, K0.out, Trn.refl _ _⟩
  case round =>
    obtain ⟨c, hcn, rfl, rfl, hop, htr⟩ := hrel
    clear K0
    have KO : Hid (MkS wr B 75 10 g n cap G (fun i => if i < c then syD (mkdY k S i) else syD (S i)) ∧ Trn w wr F) := ⟨hop, htr⟩
    clear hop htr
    by_cases hlt : c < n
    · have hki : (c : Int) < (n : Int) := by omega
      obtain ⟨o0, HO0⟩ : ∃ x, Hid (ofy k S c = x) := ⟨_, rfl⟩
      have ho : o0 + 9 + (S c).p.m ≤ 40000000 := by rw [← HO0.out]; exact Nat.le_trans (ofy_le k S (show c + 1 ≤ n by omega)) hk
      have HNX : Hid (ofy k S (c + 1) = o0 + 9 + (S c).p.m) := by show ofy k S c + 9 + (S c).p.m = _; rw [HO0.out]
      have hmc := HM.out c hlt
      rw [HO0.out]
      obtain ⟨o1, HO1⟩ : ∃ x, Hid (x = o0 + 1) := ⟨_, rfl⟩
      obtain ⟨o2, HO2⟩ : ∃ x, Hid (x = o0 + 2) := ⟨_, rfl⟩
      obtain ⟨o3, HO3⟩ : ∃ x, Hid (x = o0 + 3) := ⟨_, rfl⟩
      obtain ⟨o4, HO4⟩ : ∃ x, Hid (x = o0 + 4) := ⟨_, rfl⟩
      obtain ⟨o5, HO5⟩ : ∃ x, Hid (x = o0 + 5) := ⟨_, rfl⟩
      obtain ⟨o6, HO6⟩ : ∃ x, Hid (x = o0 + 6) := ⟨_, rfl⟩
      obtain ⟨o7, HO7⟩ : ∃ x, Hid (x = o0 + 7) := ⟨_, rfl⟩
      obtain ⟨o8, HO8⟩ : ∃ x, Hid (x = o0 + 8) := ⟨_, rfl⟩
      obtain ⟨o9, HO9⟩ : ∃ x, Hid (x = o0 + 9) := ⟨_, rfl⟩
      have e1 : (o0 : Int) + 1 = (o1 : Int) := by have := HO1.out; omega
      have e2 : (o1 : Int) + 1 = (o2 : Int) := by have := HO2.out; have := HO1.out; omega
      have e3 : (o2 : Int) + 1 = (o3 : Int) := by have := HO3.out; have := HO2.out; omega
      have e4 : (o3 : Int) + 1 = (o4 : Int) := by have := HO4.out; have := HO3.out; omega
      have e5 : (o4 : Int) + 1 = (o5 : Int) := by have := HO5.out; have := HO4.out; omega
      have e6 : (o5 : Int) + 1 = (o6 : Int) := by have := HO6.out; have := HO5.out; omega
      have e7 : (o6 : Int) + 1 = (o7 : Int) := by have := HO7.out; have := HO6.out; omega
      have e8 : (o7 : Int) + 1 = (o8 : Int) := by have := HO8.out; have := HO7.out; omega
      have e9 : (o8 : Int) + 1 = (o9 : Int) := by have := HO9.out; have := HO8.out; omega
      obtain ⟨m, HMm⟩ : ∃ x, Hid ((S c).p.m = x) := ⟨_, rfl⟩
      rw [HMm.out] at ho hmc HNX
      obtain ⟨q6, HQ6⟩ : ∃ x, Hid (o9 + m = x) := ⟨_, rfl⟩
      have u0 : o0 ≤ 40000000 := by omega
      have u1 : o1 ≤ 40000000 := by have := HO1.out; omega
      have u2 : o2 ≤ 40000000 := by have := HO2.out; omega
      have u3 : o3 ≤ 40000000 := by have := HO3.out; omega
      have u4 : o4 ≤ 40000000 := by have := HO4.out; omega
      have u5 : o5 ≤ 40000000 := by have := HO5.out; omega
      have u6 : o6 ≤ 40000000 := by have := HO6.out; omega
      have u7 : o7 ≤ 40000000 := by have := HO7.out; omega
      have u8 : o8 ≤ 40000000 := by have := HO8.out; omega
      have u9 : o9 ≤ 40000000 := by have := HO9.out; omega
      obtain ⟨s3, HS3⟩ : ∃ x, Hid (mtxt o3 = x) := ⟨_, rfl⟩
      have KM3 : Hid (∀ W, Calls Try.prog 37 #[.int .i64 (o3 : Int)] W fun e w' => e = .returned (.string s3) ∧ Below W.heap.size W w') := fun W => by rw [← HS3.out]; exact markText_any o3 W (by omega)
      obtain ⟨s4, HS4⟩ : ∃ x, Hid (mtxt o4 = x) := ⟨_, rfl⟩
      have KM4 : Hid (∀ W, Calls Try.prog 37 #[.int .i64 (o4 : Int)] W fun e w' => e = .returned (.string s4) ∧ Below W.heap.size W w') := fun W => by rw [← HS4.out]; exact markText_any o4 W (by omega)
      obtain ⟨s8, HS8⟩ : ∃ x, Hid (mtxt o8 = x) := ⟨_, rfl⟩
      have KM8 : Hid (∀ W, Calls Try.prog 37 #[.int .i64 (o8 : Int)] W fun e w' => e = .returned (.string s8) ∧ Below W.heap.size W w') := fun W => by rw [← HS8.out]; exact markText_any o8 W (by omega)
      clear hk ho
      obtain ⟨x0v, x0, f0, _⟩ := MkS.cell KO.out.1 hlt (show 0 < 10 by omega)
      obtain ⟨x1v, x1, f1, _⟩ := MkS.cell KO.out.1 hlt (show 1 < 10 by omega)
      obtain ⟨x2v, x2, f2, _⟩ := MkS.cell KO.out.1 hlt (show 2 < 10 by omega)
      simp only [Nat.add_zero] at x0 f0 x1 f1 x2 f2
      obtain ⟨W1, HW1⟩ : ∃ x, Hid (x = (((wr.setCell ⟨g, c * 10, none⟩ (.int .i64 (o0 : Int))).setCell ⟨g, c * 10 + 1, none⟩ (.int .i64 (o1 : Int))).setCell ⟨g, c * 10 + 2, none⟩ (.int .i64 (o2 : Int)))) := ⟨_, rfl⟩
      have M1 := KO.out.1
      have M1 := MkS.set M1 KS.out hlt (show 0 < 10 by omega) (.int .i64 (o0 : Int))
      rw [Nat.add_zero] at M1
      have M1 := MkS.set M1 KS.out hlt (show 1 < 10 by omega) (.int .i64 (o1 : Int))
      have M1 := MkS.set M1 KS.out hlt (show 2 < 10 by omega) (.int .i64 (o2 : Int))
      rw [← HW1.out] at M1
      have KMk1 : Hid (MkS W1 B 75 10 g n cap G _) := M1
      clear M1
      have KTr1 : Hid (Trn w W1 F) := by show Trn _ _ _; rw [HW1.out]; exact (((KO.out.2.trans (Trn.set _ (c * 10) _ HG.out)).trans (Trn.set _ (c * 10 + 1) _ HG.out)).trans (Trn.set _ (c * 10 + 2) _ HG.out))
      go_wp2_with fail
      rw [← HW1.out]
      clear x0 f0 x1 f1 x2 f2
      refine Calls.mono (KM3.out _) ?_
      rintro e w1 ⟨rfl, b1⟩
      have KNk1 : Hid (MkS w1 B 75 10 g n cap G _) := MkS.below KMk1.out b1
      have KNt1 : Hid (Trn w w1 F) := KTr1.out.trans (Trn.ofBelow F b1)
      clear b1 KMk1 KTr1
      obtain ⟨x3v, x3, f3, _⟩ := MkS.cell KNk1.out hlt (show 3 < 10 by omega)
      obtain ⟨W2, HW2⟩ : ∃ x, Hid (x = (w1.setCell ⟨g, c * 10 + 3, none⟩ (.string s3))) := ⟨_, rfl⟩
      have M2 := KNk1.out
      have M2 := MkS.set M2 KS.out hlt (show 3 < 10 by omega) (.string s3)
      rw [← HW2.out] at M2
      have KMk2 : Hid (MkS W2 B 75 10 g n cap G _) := M2
      clear M2
      have KTr2 : Hid (Trn w W2 F) := by show Trn _ _ _; rw [HW2.out]; exact (KNt1.out.trans (Trn.set _ (c * 10 + 3) _ HG.out))
      go_wp2_with fail
      rw [← HW2.out]
      clear x3 f3
      refine Calls.mono (KM4.out _) ?_
      rintro e w2 ⟨rfl, b2⟩
      have KNk2 : Hid (MkS w2 B 75 10 g n cap G _) := MkS.below KMk2.out b2
      have KNt2 : Hid (Trn w w2 F) := KTr2.out.trans (Trn.ofBelow F b2)
      clear b2 KMk2 KTr2
      obtain ⟨x4v, x4, f4, _⟩ := MkS.cell KNk2.out hlt (show 4 < 10 by omega)
      obtain ⟨x5v, x5, f5, _⟩ := MkS.cell KNk2.out hlt (show 5 < 10 by omega)
      obtain ⟨x6v, x6, f6, _⟩ := MkS.cell KNk2.out hlt (show 6 < 10 by omega)
      obtain ⟨x7v, x7, f7, _⟩ := MkS.cell KNk2.out hlt (show 7 < 10 by omega)
      obtain ⟨W3, HW3⟩ : ∃ x, Hid (x = ((((w2.setCell ⟨g, c * 10 + 4, none⟩ (.string s4)).setCell ⟨g, c * 10 + 5, none⟩ (.int .i64 (o5 : Int))).setCell ⟨g, c * 10 + 6, none⟩ (.int .i64 (o6 : Int))).setCell ⟨g, c * 10 + 7, none⟩ (.int .i64 (o7 : Int)))) := ⟨_, rfl⟩
      have M3 := KNk2.out
      have M3 := MkS.set M3 KS.out hlt (show 4 < 10 by omega) (.string s4)
      have M3 := MkS.set M3 KS.out hlt (show 5 < 10 by omega) (.int .i64 (o5 : Int))
      have M3 := MkS.set M3 KS.out hlt (show 6 < 10 by omega) (.int .i64 (o6 : Int))
      have M3 := MkS.set M3 KS.out hlt (show 7 < 10 by omega) (.int .i64 (o7 : Int))
      rw [← HW3.out] at M3
      have KMk3 : Hid (MkS W3 B 75 10 g n cap G _) := M3
      clear M3
      have KTr3 : Hid (Trn w W3 F) := by show Trn _ _ _; rw [HW3.out]; exact ((((KNt2.out.trans (Trn.set _ (c * 10 + 4) _ HG.out)).trans (Trn.set _ (c * 10 + 5) _ HG.out)).trans (Trn.set _ (c * 10 + 6) _ HG.out)).trans (Trn.set _ (c * 10 + 7) _ HG.out))
      go_wp2_with fail
      rw [← HW3.out]
      clear x4 f4 x5 f5 x6 f6 x7 f7
      refine Calls.mono (KM8.out _) ?_
      rintro e w3 ⟨rfl, b3⟩
      have KNk3 : Hid (MkS w3 B 75 10 g n cap G _) := MkS.below KMk3.out b3
      have KNt3 : Hid (Trn w w3 F) := KTr3.out.trans (Trn.ofBelow F b3)
      clear b3 KMk3 KTr3
      obtain ⟨x8v, x8, f8, _⟩ := MkS.cell KNk3.out hlt (show 8 < 10 by omega)
      obtain ⟨v9, x9, _, ho9⟩ := MkS.cell KNk3.out hlt (show 9 < 10 by omega)
      obtain ⟨W4, HW4⟩ : ∃ x, Hid (x = (w3.setCell ⟨g, c * 10 + 8, none⟩ (.string s8))) := ⟨_, rfl⟩
      have M4 := KNk3.out
      have M4 := MkS.set M4 KS.out hlt (show 8 < 10 by omega) (.string s8)
      rw [← HW4.out] at M4
      have KMk4 : Hid (MkS W4 B 75 10 g n cap G _) := M4
      clear M4
      have KTr4 : Hid (Trn w W4 F) := by show Trn _ _ _; rw [HW4.out]; exact (KNt3.out.trans (Trn.set _ (c * 10 + 8) _ HG.out))
      obtain ⟨v9', x9', _, ho9'⟩ := MkS.cell KMk4.out hlt (show 9 < 10 by omega)
      have ev : v9' = v9 := by
        have h1 := x9'
        rw [HW4.out, World.cell?_setCell_other _ _ _ _ (by simp)] at h1
        exact Option.some.inj (h1.symm.trans x9)
      subst ev
      have HD9 : Hid (Ow W4 B (txD m (S c).p.S) v9' (G c 9)) := by
        have := ho9'
        show Ow _ _ _ _ _
        rw [← HMm.out]
        simpa [syD] using this
      have KMS : Hid _ := markD_txt B v9' m (S c).p.S o9 q6 (G c 9) W4 HD9.out (by omega) (by omega) HQ6.out
      have X9 : Hid (W4.cell? ⟨g, c * 10 + 9, none⟩ = some v9') := x9'
      clear ho9 ho9' x9'
      obtain ⟨a9, c9, e9⟩ : ∃ a9 c9, v9' = .slice a9 m c9 := by
        obtain ⟨a, cp, e, _⟩ := txt_ow HD9.out
        exact ⟨a, cp, e⟩
      subst e9
      go_wp2_with fail
      rw [← HW4.out]
      refine Calls.mono KMS.out ?_
      rintro e w9 ⟨rfl, hR9, hT9⟩
      have M9 := MkS.turn KMk4.out KS.out hlt (show 9 < 10 by omega) X9.out hR9 hT9
      have KT9 : Hid (Trn w w9 F) := KTr4.out.trans (hT9.mono (fun x hx => KS.out.sub c 9 x hlt (by omega) hx))
      have HN : Hid (MkS w9 B 75 10 g n cap G (fun i => if i < c + 1 then syD (mkdY k S i) else syD (S i))) := by
        refine MkS.congr M9 fun i q hi hq => ?_
        by_cases ei : i = c
        · subst ei
          have hd : mkdY k S i = ⟨(o0 : Int), (o1 : Int), (o2 : Int), s3, ⟨s4, (o5 : Int), (o6 : Int), (o7 : Int), s8, m, fun j => mtxt (o9 + j)⟩⟩ := by
            unfold mkdY
            rw [HO0.out, ← HO1.out, ← HO2.out, ← HO3.out, ← HO4.out, ← HO5.out, ← HO6.out, ← HO7.out, ← HO8.out, ← HO9.out, HS3.out, HS4.out, HS8.out, HMm.out]
          rw [if_pos (show i < i + 1 by omega), hd]
          match q, hq with
          | 0, _ | 1, _ | 2, _ | 3, _ | 4, _ | 5, _ | 6, _ | 7, _ | 8, _ | 9, _ => simp [syD]
        · by_cases e2 : i < c
          · simp [ei, e2, show i < c + 1 by omega]
          · simp [ei, e2, show ¬ i < c + 1 by omega]
      have HQQ : Hid ((q6 : Int) = ((ofy k S (c + 1) : Nat) : Int)) := by show _ = _; rw [HNX.out, ← HQ6.out, HO9.out]
      clear M9 hR9 hT9 KMS x8 f8 x9
      go_wp2
      go_roundw
      case rel => exact ⟨c + 1, by omega, by rw [HQQ.out], by go_num, HN.out, KT9.out⟩
      case measure => simp [intOf]; omega
    · obtain rfl : c = n := by omega
      have HN : Hid (MkS wr B 75 10 g c cap G (fun i => syD (mkdY k S i))) := KO.out.1.congr (fun i q hi _ => by simp [hi])
      go_wp2
      go_ret
      exact ⟨rfl, HN.out.ow KS.out, KO.out.2⟩
set_option maxHeartbeats 4000000 in
theorem heldSysF_any (a : Option Addr) (n cap : Nat) (S : Nat → Sy) (k : Nat) (w : World) (h : Rd w (sysD n (mkdY k S)) (.slice a n cap)) (_hn : n ≤ 1048576) (hm : ∀ i, i < n → (S i).p.m ≤ 1048576) (hk : ofy k S n ≤ 40000000) :
    Calls Try.prog 40 #[.slice a n cap, .int .i64 (k : Int)] w fun e w' => e = .returned (.int .i64 ((ofy k S n : Nat) : Int)) ∧ Below w.heap.size w w' := by
  have KH : Hid (Rd w (sysD n (mkdY k S)) (.slice a n cap)) := h
  have HM : Hid (∀ i, i < n → (S i).p.m ≤ 1048576) := hm
  clear h hm
  go_enter Try.func40, Try.ntmps40
  go_wp2
  go_loopw [1, 5] (fun vk vi wr => ∃ c : Nat, c ≤ n ∧ vk = .int .i64 ((ofy k S c : Nat) : Int) ∧ vi = .int .i64 (c : Int) ∧ Below w.heap.size w wr) (fun _ vi _ => n - (intOf vi).toNat)
  case atStart => exact ⟨0, Nat.zero_le _, rfl, rfl, Below.refl _ _⟩
  case round =>
    obtain ⟨c, hcn, rfl, rfl, hbel⟩ := hrel
    by_cases hlt : c < n
    · have hki : (c : Int) < (n : Int) := by omega
      obtain ⟨b1, f1, y, p9, q9, rfl, hc1, ey, ht1⟩ := say_row (KH.out.below hbel) hlt
      obtain ⟨o0, HO0⟩ : ∃ x, Hid (ofy k S c = x) := ⟨_, rfl⟩
      have ho : o0 + 9 + (S c).p.m ≤ 40000000 := by rw [← HO0.out]; exact Nat.le_trans (ofy_le k S (show c + 1 ≤ n by omega)) hk
      have HNX : Hid (ofy k S (c + 1) = o0 + 9 + (S c).p.m) := by show ofy k S c + 9 + (S c).p.m = _; rw [HO0.out]
      have hmc := HM.out c hlt
      rw [HO0.out]
      obtain ⟨o1, HO1⟩ : ∃ x, Hid (x = o0 + 1) := ⟨_, rfl⟩
      obtain ⟨o2, HO2⟩ : ∃ x, Hid (x = o0 + 2) := ⟨_, rfl⟩
      obtain ⟨o3, HO3⟩ : ∃ x, Hid (x = o0 + 3) := ⟨_, rfl⟩
      obtain ⟨o4, HO4⟩ : ∃ x, Hid (x = o0 + 4) := ⟨_, rfl⟩
      obtain ⟨o5, HO5⟩ : ∃ x, Hid (x = o0 + 5) := ⟨_, rfl⟩
      obtain ⟨o6, HO6⟩ : ∃ x, Hid (x = o0 + 6) := ⟨_, rfl⟩
      obtain ⟨o7, HO7⟩ : ∃ x, Hid (x = o0 + 7) := ⟨_, rfl⟩
      obtain ⟨o8, HO8⟩ : ∃ x, Hid (x = o0 + 8) := ⟨_, rfl⟩
      obtain ⟨o9, HO9⟩ : ∃ x, Hid (x = o0 + 9) := ⟨_, rfl⟩
      have e1 : (o0 : Int) + 1 = (o1 : Int) := by have := HO1.out; omega
      have e2 : (o1 : Int) + 1 = (o2 : Int) := by have := HO2.out; have := HO1.out; omega
      have e3 : (o2 : Int) + 1 = (o3 : Int) := by have := HO3.out; have := HO2.out; omega
      have e4 : (o3 : Int) + 1 = (o4 : Int) := by have := HO4.out; have := HO3.out; omega
      have e5 : (o4 : Int) + 1 = (o5 : Int) := by have := HO5.out; have := HO4.out; omega
      have e6 : (o5 : Int) + 1 = (o6 : Int) := by have := HO6.out; have := HO5.out; omega
      have e7 : (o6 : Int) + 1 = (o7 : Int) := by have := HO7.out; have := HO6.out; omega
      have e8 : (o7 : Int) + 1 = (o8 : Int) := by have := HO8.out; have := HO7.out; omega
      have e9 : (o8 : Int) + 1 = (o9 : Int) := by have := HO9.out; have := HO8.out; omega
      obtain ⟨m, HMm⟩ : ∃ x, Hid ((S c).p.m = x) := ⟨_, rfl⟩
      rw [HMm.out] at ho hmc HNX
      obtain ⟨q6, HQ6⟩ : ∃ x, Hid (o9 + m = x) := ⟨_, rfl⟩
      have u0 : o0 ≤ 40000000 := by omega
      have u1 : o1 ≤ 40000000 := by have := HO1.out; omega
      have u2 : o2 ≤ 40000000 := by have := HO2.out; omega
      have u3 : o3 ≤ 40000000 := by have := HO3.out; omega
      have u4 : o4 ≤ 40000000 := by have := HO4.out; omega
      have u5 : o5 ≤ 40000000 := by have := HO5.out; omega
      have u6 : o6 ≤ 40000000 := by have := HO6.out; omega
      have u7 : o7 ≤ 40000000 := by have := HO7.out; omega
      have u8 : o8 ≤ 40000000 := by have := HO8.out; omega
      have u9 : o9 ≤ 40000000 := by have := HO9.out; omega
      obtain ⟨s3, HS3⟩ : ∃ x, Hid (mtxt o3 = x) := ⟨_, rfl⟩
      have KM3 : Hid (∀ W, Calls Try.prog 37 #[.int .i64 (o3 : Int)] W fun e w' => e = .returned (.string s3) ∧ Below W.heap.size W w') := fun W => by rw [← HS3.out]; exact markText_any o3 W (by omega)
      have n3 : (s3.toList != s3.toList) = false := by simp
      have n3' := ba_beq s3
      obtain ⟨s4, HS4⟩ : ∃ x, Hid (mtxt o4 = x) := ⟨_, rfl⟩
      have KM4 : Hid (∀ W, Calls Try.prog 37 #[.int .i64 (o4 : Int)] W fun e w' => e = .returned (.string s4) ∧ Below W.heap.size W w') := fun W => by rw [← HS4.out]; exact markText_any o4 W (by omega)
      have n4 : (s4.toList != s4.toList) = false := by simp
      have n4' := ba_beq s4
      obtain ⟨s8, HS8⟩ : ∃ x, Hid (mtxt o8 = x) := ⟨_, rfl⟩
      have KM8 : Hid (∀ W, Calls Try.prog 37 #[.int .i64 (o8 : Int)] W fun e w' => e = .returned (.string s8) ∧ Below W.heap.size W w') := fun W => by rw [← HS8.out]; exact markText_any o8 W (by omega)
      have n8 : (s8.toList != s8.toList) = false := by simp
      have n8' := ba_beq s8
      have n0 : ((o0 : Int) != (o0 : Int)) = false := by simp
      have n1 : ((o1 : Int) != (o1 : Int)) = false := by simp
      have n2 : ((o2 : Int) != (o2 : Int)) = false := by simp
      have n5 : ((o5 : Int) != (o5 : Int)) = false := by simp
      have n6 : ((o6 : Int) != (o6 : Int)) = false := by simp
      have n7 : ((o7 : Int) != (o7 : Int)) = false := by simp
      have hd : mkdY k S c = ⟨(o0 : Int), (o1 : Int), (o2 : Int), s3, ⟨s4, (o5 : Int), (o6 : Int), (o7 : Int), s8, m, fun j => mtxt (o9 + j)⟩⟩ := by
        unfold mkdY
        rw [HO0.out, ← HO1.out, ← HO2.out, ← HO3.out, ← HO4.out, ← HO5.out, ← HO6.out, ← HO7.out, ← HO8.out, ← HO9.out, HS3.out, HS4.out, HS8.out, HMm.out]
      rw [hd] at ey ht1
      simp only [ag10, syV, syC, Value.agg.injEq, Array.mk.injEq, List.cons.injEq, and_true] at ey
      obtain ⟨y0, y1, y2, y3, y4, y5, y6, y7, y8, y9⟩ := ey
      obtain ⟨x0, xq⟩ := one_row (sz := 9) wr (Below.refl _ _) hc1
      have x1 := xq 1 (by omega)
      have x2 := xq 2 (by omega)
      have x3 := xq 3 (by omega)
      have x4 := xq 4 (by omega)
      have x5 := xq 5 (by omega)
      have x6 := xq 6 (by omega)
      have x7 := xq 7 (by omega)
      have x8 := xq 8 (by omega)
      have x9 := xq 9 (by omega)
      rw [y0] at x0
      rw [y1] at x1
      rw [y2] at x2
      rw [y3] at x3
      rw [y4] at x4
      rw [y5] at x5
      rw [y6] at x6
      rw [y7] at x7
      rw [y8] at x8
      rw [y9] at x9
      have KSt : Hid (∀ W, Below wr.heap.size wr W → Calls Try.prog 48 #[.slice p9 m q9, .int .i64 (o9 : Int)] W fun e w' => e = .returned (.int .i64 (q6 : Int)) ∧ Below W.heap.size W w') := fun W hW => heldT2_any p9 m q9 o9 q6 W (ht1.below hW) (by omega) (by omega) HQ6.out
      have q6n : ¬ ((q6 : Int) < 0) := by omega
      have KB : Hid (Below w.heap.size w wr) := hbel
      have HQQ : Hid ((q6 : Int) = ((ofy k S (c + 1) : Nat) : Int)) := by show _ = _; rw [HNX.out, ← HQ6.out, HO9.out]
      have lg := block_lt_of_cell x0
      have KBr : Hid (Below wr.heap.size wr wr) := Below.refl _ _
      clear hc1 ht1 hbel hk ho hd xq y0 y1 y2 y3 y4 y5 y6 y7 y8 y9 KH
      go_wp2_with fail
      go_region_held3 (fun w' => w'.cell? ⟨b1, f1 + c * 10 + 3, none⟩ = some (.string s3)) (go_keep) ((go_at_call 37; refine Calls.mono (KM3.out _) ?_; rintro e v1 ⟨rfl, bq'⟩; have bq := below_of_drew bq'; clear bq'; have z3 := (bq.cell (p := ⟨b1, f1 + c * 10 + 3, none⟩) (block_lt_of_cell x3)).trans x3))
      all_goals
        replace x4 := (bq.cell (p := ⟨b1, f1 + c * 10 + 4, none⟩) (block_lt_of_cell x4)).trans x4
        replace x5 := (bq.cell (p := ⟨b1, f1 + c * 10 + 5, none⟩) (block_lt_of_cell x5)).trans x5
        replace x6 := (bq.cell (p := ⟨b1, f1 + c * 10 + 6, none⟩) (block_lt_of_cell x6)).trans x6
        replace x7 := (bq.cell (p := ⟨b1, f1 + c * 10 + 7, none⟩) (block_lt_of_cell x7)).trans x7
        replace x8 := (bq.cell (p := ⟨b1, f1 + c * 10 + 8, none⟩) (block_lt_of_cell x8)).trans x8
        replace x9 := (bq.cell (p := ⟨b1, f1 + c * 10 + 9, none⟩) (block_lt_of_cell x9)).trans x9
        have KB1 : Hid (Below wr.heap.size wr v1) := below2 KBr.out bq
        clear bq z3 x0 x1 x2 x3
        go_wp2_with fail
        go_region_held3 (fun w' => w'.cell? ⟨b1, f1 + c * 10 + 4, none⟩ = some (.string s4)) (go_keep) ((go_at_call 37; refine Calls.mono (KM4.out _) ?_; rintro e v2 ⟨rfl, bq'⟩; have bq := below_of_drew bq'; clear bq'; have z4 := (bq.cell (p := ⟨b1, f1 + c * 10 + 4, none⟩) (block_lt_of_cell x4)).trans x4))
        all_goals
          replace x5 := (bq.cell (p := ⟨b1, f1 + c * 10 + 5, none⟩) (block_lt_of_cell x5)).trans x5
          replace x6 := (bq.cell (p := ⟨b1, f1 + c * 10 + 6, none⟩) (block_lt_of_cell x6)).trans x6
          replace x7 := (bq.cell (p := ⟨b1, f1 + c * 10 + 7, none⟩) (block_lt_of_cell x7)).trans x7
          replace x8 := (bq.cell (p := ⟨b1, f1 + c * 10 + 8, none⟩) (block_lt_of_cell x8)).trans x8
          replace x9 := (bq.cell (p := ⟨b1, f1 + c * 10 + 9, none⟩) (block_lt_of_cell x9)).trans x9
          have KB2 : Hid (Below wr.heap.size wr v2) := below2 KB1.out bq
          clear bq z4 x4
          go_wp2_with fail
          go_region_held3 (fun w' => w'.cell? ⟨b1, f1 + c * 10 + 8, none⟩ = some (.string s8)) (go_keep) ((go_at_call 37; refine Calls.mono (KM8.out _) ?_; rintro e v3 ⟨rfl, bq'⟩; have bq := below_of_drew bq'; clear bq'; have z8 := (bq.cell (p := ⟨b1, f1 + c * 10 + 8, none⟩) (block_lt_of_cell x8)).trans x8))
          all_goals
            replace x9 := (bq.cell (p := ⟨b1, f1 + c * 10 + 9, none⟩) (block_lt_of_cell x9)).trans x9
            have KB3 : Hid (Below wr.heap.size wr v3) := below2 KB2.out bq
            clear bq z8 x5 x6 x7 x8
            go_wp2_with fail
            refine Calls.mono (KSt.out _ KB3.out) ?_
            rintro e w3 ⟨rfl, b3⟩
            have HB3 : Hid (Below w.heap.size w w3) := below2 KB.out (below2 KB3.out b3)
            clear b3 x9
            go_wp2
            go_roundw
            case rel => exact ⟨c + 1, by omega, by rw [HQQ.out], by go_num, HB3.out⟩
            case measure => simp [intOf]; omega
    · obtain rfl : c = n := by omega
      go_wp2
      go_ret
      exact ⟨rfl, hbel⟩
end Go.Proofs.Ytpomffkpjldloaa
