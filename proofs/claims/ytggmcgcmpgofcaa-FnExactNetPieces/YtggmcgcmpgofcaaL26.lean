/- Marks laid into lists of pieces, of any length that the laws bear: what turns is told. Conditions: at most 2^20 pieces, marks up to 2 * 10^7. Written by mkmarkp.py. -/
import Derived.Test.YtggmcgcmpgofcaaL17
import Derived.Test.YtggmcgcmpgofcaaL22
import Derived.Test.YtggmcgcmpgofcaaL23
namespace Go.Proofs.Ytggmcgcmpgofcaa
set_option maxRecDepth 2000
open Go.ChangeShapes Go.WideShapes Go.ChangeAt Go.RowKit

def pcsD (n : Nat) (P : Nat → Pc) : Dt := .lst 77 6 n fun i => pcD (P i)
set_option maxHeartbeats 4000000 in
theorem markPcs_any (B g n cap : Nat) (F : Nat → Prop) (P : Nat → Pc) (k : Nat) (w : World) (h : Ow w B (pcsD n P) (.slice (some ⟨g, 0, none⟩) n cap) F) (hn : n ≤ 1048576) (hm : ∀ i, i < n → (P i).m ≤ 1048576) (hk : ofs k P n ≤ 20000000) :
    Calls Try.prog 29 #[.slice (some ⟨g, 0, none⟩) n cap, .int .i64 (k : Int)] w fun e w' => e = .returned (.int .i64 ((ofs k P n : Nat) : Int)) ∧ Ow w' B (pcsD n (mkd k P)) (.slice (some ⟨g, 0, none⟩) n cap) F ∧ Trn w w' F := by
  obtain ⟨G, hsep, hmk⟩ := Ow.mk h
  have KS : Hid (Sep (some ⟨g, 0, none⟩) n 6 G F) := hsep
  have HG : Hid (F g) := hsep.head _ rfl
  have K0 : Hid (MkS w B 77 6 g n cap G (fun i => if i < 0 then pcD (mkd k P i) else pcD (P i))) := hmk.congr (fun i q _ _ => by simp)
  have HM : Hid (∀ i, i < n → (P i).m ≤ 1048576) := hm
  clear h hm hsep hmk
  go_enter Try.func29, Try.ntmps29
  go_wp2
  go_loopw [1, 5] (fun vk vi wr => ∃ c : Nat, c ≤ n ∧ vk = .int .i64 ((ofs k P c : Nat) : Int) ∧ vi = .int .i64 (c : Int) ∧ MkS wr B 77 6 g n cap G (fun i => if i < c then pcD (mkd k P i) else pcD (P i)) ∧ Trn w wr F) (fun _ vi _ => n - (intOf vi).toNat)
  case atStart => exact ⟨0, Nat.zero_le _, rfl, rfl, K0.out, Trn.refl _ _⟩
  case round =>
    obtain ⟨c, hcn, rfl, rfl, hop, htr⟩ := hrel
    clear K0
    have KO : Hid (MkS wr B 77 6 g n cap G (fun i => if i < c then pcD (mkd k P i) else pcD (P i)) ∧ Trn w wr F) := ⟨hop, htr⟩
    clear hop htr
    by_cases hlt : c < n
    · have hki : (c : Int) < (n : Int) := by omega
      obtain ⟨o0, HO0⟩ : ∃ x, Hid (ofs k P c = x) := ⟨_, rfl⟩
      have ho : o0 + 5 + (P c).m ≤ 20000000 := by rw [← HO0.out]; exact Nat.le_trans (ofs_le k P (show c + 1 ≤ n by omega)) hk
      have HNX : Hid (ofs k P (c + 1) = o0 + 5 + (P c).m) := by show ofs k P c + 5 + (P c).m = _; rw [HO0.out]
      have hmc := HM.out c hlt
      rw [HO0.out]
      obtain ⟨o1, HO1⟩ : ∃ x, Hid (x = o0 + 1) := ⟨_, rfl⟩
      obtain ⟨o2, HO2⟩ : ∃ x, Hid (x = o0 + 2) := ⟨_, rfl⟩
      obtain ⟨o3, HO3⟩ : ∃ x, Hid (x = o0 + 3) := ⟨_, rfl⟩
      obtain ⟨o4, HO4⟩ : ∃ x, Hid (x = o0 + 4) := ⟨_, rfl⟩
      obtain ⟨o5, HO5⟩ : ∃ x, Hid (x = o0 + 5) := ⟨_, rfl⟩
      have e1 : (o0 : Int) + 1 = (o1 : Int) := by have := HO1.out; omega
      have e2 : (o1 : Int) + 1 = (o2 : Int) := by have := HO2.out; have := HO1.out; omega
      have e3 : (o2 : Int) + 1 = (o3 : Int) := by have := HO3.out; have := HO2.out; omega
      have e4 : (o3 : Int) + 1 = (o4 : Int) := by have := HO4.out; have := HO3.out; omega
      have e5 : (o4 : Int) + 1 = (o5 : Int) := by have := HO5.out; have := HO4.out; omega
      obtain ⟨m, HMm⟩ : ∃ x, Hid ((P c).m = x) := ⟨_, rfl⟩
      rw [HMm.out] at ho hmc HNX
      obtain ⟨q6, HQ6⟩ : ∃ x, Hid (o5 + m = x) := ⟨_, rfl⟩
      have u0 : o0 ≤ 20000000 := by omega
      have u1 : o1 ≤ 20000000 := by have := HO1.out; omega
      have u2 : o2 ≤ 20000000 := by have := HO2.out; omega
      have u3 : o3 ≤ 20000000 := by have := HO3.out; omega
      have u4 : o4 ≤ 20000000 := by have := HO4.out; omega
      have u5 : o5 ≤ 20000000 := by have := HO5.out; omega
      obtain ⟨s0, HS0⟩ : ∃ x, Hid (mtxt o0 = x) := ⟨_, rfl⟩
      have KM0 : Hid (∀ W, Calls Try.prog 57 #[.int .i64 (o0 : Int)] W fun e w' => e = .returned (.string s0) ∧ Below W.heap.size W w') := fun W => by rw [← HS0.out]; exact markText_any o0 W (by omega)
      obtain ⟨s4, HS4⟩ : ∃ x, Hid (mtxt o4 = x) := ⟨_, rfl⟩
      have KM4 : Hid (∀ W, Calls Try.prog 57 #[.int .i64 (o4 : Int)] W fun e w' => e = .returned (.string s4) ∧ Below W.heap.size W w') := fun W => by rw [← HS4.out]; exact markText_any o4 W (by omega)
      clear hk ho
      go_wp2_with fail
      refine Calls.mono (KM0.out _) ?_
      rintro e w0' ⟨rfl, b0⟩
      have KNk0 : Hid (MkS w0' B 77 6 g n cap G _) := MkS.below KO.out.1 b0
      have KNt0 : Hid (Trn w w0' F) := KO.out.2.trans (Trn.ofBelow F b0)
      clear b0
      obtain ⟨x0v, x0, f0, _⟩ := MkS.cell KNk0.out hlt (show 0 < 6 by omega)
      obtain ⟨x1v, x1, f1, _⟩ := MkS.cell KNk0.out hlt (show 1 < 6 by omega)
      obtain ⟨x2v, x2, f2, _⟩ := MkS.cell KNk0.out hlt (show 2 < 6 by omega)
      obtain ⟨x3v, x3, f3, _⟩ := MkS.cell KNk0.out hlt (show 3 < 6 by omega)
      simp only [Nat.add_zero] at x0 f0 x1 f1 x2 f2 x3 f3
      obtain ⟨W1, HW1⟩ : ∃ x, Hid (x = ((((w0'.setCell ⟨g, c * 6, none⟩ (.string s0)).setCell ⟨g, c * 6 + 1, none⟩ (.int .i64 (o1 : Int))).setCell ⟨g, c * 6 + 2, none⟩ (.int .i64 (o2 : Int))).setCell ⟨g, c * 6 + 3, none⟩ (.int .i64 (o3 : Int)))) := ⟨_, rfl⟩
      have M1 := KNk0.out
      have M1 := MkS.set M1 KS.out hlt (show 0 < 6 by omega) (.string s0)
      rw [Nat.add_zero] at M1
      have M1 := MkS.set M1 KS.out hlt (show 1 < 6 by omega) (.int .i64 (o1 : Int))
      have M1 := MkS.set M1 KS.out hlt (show 2 < 6 by omega) (.int .i64 (o2 : Int))
      have M1 := MkS.set M1 KS.out hlt (show 3 < 6 by omega) (.int .i64 (o3 : Int))
      rw [← HW1.out] at M1
      have KMk1 : Hid (MkS W1 B 77 6 g n cap G _) := M1
      clear M1
      have KTr1 : Hid (Trn w W1 F) := by show Trn _ _ _; rw [HW1.out]; exact ((((KNt0.out.trans (Trn.set _ (c * 6) _ HG.out)).trans (Trn.set _ (c * 6 + 1) _ HG.out)).trans (Trn.set _ (c * 6 + 2) _ HG.out)).trans (Trn.set _ (c * 6 + 3) _ HG.out))
      go_wp2_with fail
      rw [← HW1.out]
      clear x0 f0 x1 f1 x2 f2 x3 f3
      refine Calls.mono (KM4.out _) ?_
      rintro e w1 ⟨rfl, b1⟩
      have KNk1 : Hid (MkS w1 B 77 6 g n cap G _) := MkS.below KMk1.out b1
      have KNt1 : Hid (Trn w w1 F) := KTr1.out.trans (Trn.ofBelow F b1)
      clear b1 KMk1 KTr1
      obtain ⟨x4v, x4, f4, _⟩ := MkS.cell KNk1.out hlt (show 4 < 6 by omega)
      obtain ⟨v9, x9, _, ho9⟩ := MkS.cell KNk1.out hlt (show 5 < 6 by omega)
      obtain ⟨W2, HW2⟩ : ∃ x, Hid (x = (w1.setCell ⟨g, c * 6 + 4, none⟩ (.string s4))) := ⟨_, rfl⟩
      have M2 := KNk1.out
      have M2 := MkS.set M2 KS.out hlt (show 4 < 6 by omega) (.string s4)
      rw [← HW2.out] at M2
      have KMk2 : Hid (MkS W2 B 77 6 g n cap G _) := M2
      clear M2
      have KTr2 : Hid (Trn w W2 F) := by show Trn _ _ _; rw [HW2.out]; exact (KNt1.out.trans (Trn.set _ (c * 6 + 4) _ HG.out))
      obtain ⟨v9', x9', _, ho9'⟩ := MkS.cell KMk2.out hlt (show 5 < 6 by omega)
      have ev : v9' = v9 := by
        have h1 := x9'
        rw [HW2.out, World.cell?_setCell_other _ _ _ _ (by simp)] at h1
        exact Option.some.inj (h1.symm.trans x9)
      subst ev
      have HD9 : Hid (Ow W2 B (txD m (P c).S) v9' (G c 5)) := by
        have := ho9'
        show Ow _ _ _ _ _
        rw [← HMm.out]
        simpa [pcD] using this
      have KMS : Hid _ := markD_txt B v9' m (P c).S o5 q6 (G c 5) W2 HD9.out (by omega) (by omega) HQ6.out
      have X9 : Hid (W2.cell? ⟨g, c * 6 + 5, none⟩ = some v9') := x9'
      clear ho9 ho9' x9'
      obtain ⟨a9, c9, e9⟩ : ∃ a9 c9, v9' = .slice a9 m c9 := by
        obtain ⟨a, cp, e, _⟩ := txt_ow HD9.out
        exact ⟨a, cp, e⟩
      subst e9
      go_wp2_with fail
      rw [← HW2.out]
      refine Calls.mono KMS.out ?_
      rintro e w9 ⟨rfl, hR9, hT9⟩
      have M9 := MkS.turn KMk2.out KS.out hlt (show 5 < 6 by omega) X9.out hR9 hT9
      have KT9 : Hid (Trn w w9 F) := KTr2.out.trans (hT9.mono (fun x hx => KS.out.sub c 5 x hlt (by omega) hx))
      have HN : Hid (MkS w9 B 77 6 g n cap G (fun i => if i < c + 1 then pcD (mkd k P i) else pcD (P i))) := by
        refine MkS.congr M9 fun i q hi hq => ?_
        by_cases ei : i = c
        · subst ei
          have hd : mkd k P i = ⟨s0, (o1 : Int), (o2 : Int), (o3 : Int), s4, m, fun j => mtxt (o5 + j)⟩ := by
            unfold mkd
            rw [HO0.out, ← HO1.out, ← HO2.out, ← HO3.out, ← HO4.out, ← HO5.out, HS0.out, HS4.out, HMm.out]
          rw [if_pos (show i < i + 1 by omega), hd]
          match q, hq with
          | 0, _ | 1, _ | 2, _ | 3, _ | 4, _ | 5, _ => simp [pcD]
        · by_cases e2 : i < c
          · simp [ei, e2, show i < c + 1 by omega]
          · simp [ei, e2, show ¬ i < c + 1 by omega]
      have HQQ : Hid ((q6 : Int) = ((ofs k P (c + 1) : Nat) : Int)) := by show _ = _; rw [HNX.out, ← HQ6.out, HO5.out]
      clear M9 hR9 hT9 KMS x4 f4 x9
      go_wp2
      go_roundw
      case rel => exact ⟨c + 1, by omega, by rw [HQQ.out], by go_num, HN.out, KT9.out⟩
      case measure => simp [intOf]; omega
    · obtain rfl : c = n := by omega
      have HN : Hid (MkS wr B 77 6 g c cap G (fun i => pcD (mkd k P i))) := KO.out.1.congr (fun i q hi _ => by simp [hi])
      go_wp2
      go_ret
      exact ⟨rfl, HN.out.ow KS.out, KO.out.2⟩
end Go.Proofs.Ytggmcgcmpgofcaa
