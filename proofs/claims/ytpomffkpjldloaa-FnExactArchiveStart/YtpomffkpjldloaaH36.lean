/- Marks laid into a list of slots and asked for: all that is written. Conditions: lists of at most 2^20. Written by mkmarkf.py. -/
import Derived.Test.YtpomffkpjldloaaH28
import Derived.Test.YtpomffkpjldloaaH29
import Derived.Lib.QuietBelow
import Derived.BigQuiet
namespace Go.Proofs.Ytpomffkpjldloaa
set_option maxRecDepth 2000
open Go.ChangeShapes Go.WideShapes Go.ChangeAt Go.RowKit Go.Sort

/-- A slot, marked from o on. -/
def mkX (o : Nat) (s : Sl) : Sl := ⟨mtxt o, ⟨mtxt (o + 1), ((o + 2 : Nat) : Int), ((o + 3 : Nat) : Int), ((o + 4 : Nat) : Int), mtxt (o + 5), s.p.m, fun j => mtxt (o + 6 + j)⟩, (((o + 6 + s.p.m : Nat) : Int) % 3 == 0), (((o + 7 + s.p.m : Nat) : Int) % 3 == 0), (((o + 8 + s.p.m : Nat) : Int) % 3 == 0), (((o + 9 + s.p.m : Nat) : Int) % 3 == 0), marks (o + 10 + s.p.m) s.ze.length, marks (o + 10 + s.p.m + s.ze.length) s.zr.length⟩
def mkL (k : Nat) (S : Nat → Sl) (i : Nat) : Sl := mkX (k + tot (fun i => wkS (S i)) i) (S i)
set_option maxHeartbeats 8000000 in
theorem markSlsF_any (B g n cap : Nat) (F : Nat → Prop) (S : Nat → Sl) (k : Nat) (w : World) (h : Ow w B (slsD n S) (.slice (some ⟨g, 0, none⟩) n cap) F) (hn : n ≤ 1048576) (hm : ∀ i, i < n → SlS (S i)) (hk : k + tot (fun i => wkS (S i)) n ≤ 40000000) :
    Calls Try.prog 45 #[.slice (some ⟨g, 0, none⟩) n cap, .int .i64 (k : Int)] w fun e w' => e = .returned (.int .i64 ((k + tot (fun i => wkS (S i)) n : Nat) : Int)) ∧ Ow w' B (slsD n (mkL k S)) (.slice (some ⟨g, 0, none⟩) n cap) F ∧ Trn w w' F := by
  obtain ⟨G, hsep, hmk⟩ := Ow.mk h
  have KS : Hid (Sep (some ⟨g, 0, none⟩) n 13 G F) := hsep
  have HG : Hid (F g) := hsep.head _ rfl
  have K0 : Hid (MkS w B 82 13 g n cap G (fun i => slD (S i))) := hmk.congr (fun i q _ _ => rfl)
  have HM : Hid (∀ i, i < n → SlS (S i)) := hm
  have HK : Hid (k + tot (fun i => wkS (S i)) n ≤ 40000000) := hk
  clear h hm hsep hmk hk
  go_enter Try.func45, Try.ntmps45
  go_wp2
  go_loopw [1, 5] (fun vk vi wr => ∃ (c x : Nat) (S' : Nat → Sl), c ≤ n ∧ vk = .int .i64 (x : Int) ∧ vi = .int .i64 (c : Int) ∧ Hid (x = k + tot (fun i => wkS (S i)) c ∧ (∀ i, S' i = if i < c then mkL k S i else S i) ∧ MkS wr B 82 13 g n cap G (fun i => slD (S' i)) ∧ Trn w wr F)) (fun _ vi _ => n - (intOf vi).toNat)
  case atStart => exact ⟨0, k, S, Nat.zero_le _, rfl, rfl, rfl, fun i => by simp, K0.out, Trn.refl _ _⟩
  case round =>
    obtain ⟨c, o0, S', hcn, rfl, rfl, KO⟩ := hrel
    clear K0
    by_cases hlt : c < n
    · have hki : (c : Int) < (n : Int) := by omega
      have hS : S' c = S c := by rw [KO.out.2.1 c, if_neg (Nat.lt_irrefl _)]
      have hsc := HM.out c hlt
      have ho : o0 + wkS (S c) ≤ 40000000 := by
        have h1 := KO.out.1
        have h2 : tot (fun i => wkS (S i)) c + wkS (S c) ≤ tot (fun i => wkS (S i)) n := tot_step (g := fun i => wkS (S i)) hlt
        have h3 := HK.out
        omega
      obtain ⟨m, HMm⟩ : ∃ x, Hid ((S c).p.m = x) := ⟨_, rfl⟩
      obtain ⟨le, HLe⟩ : ∃ x, Hid ((S c).ze.length = x) := ⟨_, rfl⟩
      obtain ⟨lr, HLr⟩ : ∃ x, Hid ((S c).zr.length = x) := ⟨_, rfl⟩
      have HNX : Hid (o0 + 10 + m + le + lr = k + tot (fun i => wkS (S i)) (c + 1)) := by
        show _ = k + (tot (fun i => wkS (S i)) c + wkS (S c))
        have := KO.out.1
        unfold wkS
        rw [HMm.out, HLe.out, HLr.out]
        unfold wkS at this
        omega
      unfold wkS at ho
      unfold SlS at hsc
      rw [HMm.out, HLe.out, HLr.out] at ho hsc
      obtain ⟨o1, Ho1⟩ : ∃ x, Hid (x = o0 + 1) := ⟨_, rfl⟩
      obtain ⟨o2, Ho2⟩ : ∃ x, Hid (x = o1 + 1) := ⟨_, rfl⟩
      obtain ⟨o3, Ho3⟩ : ∃ x, Hid (x = o2 + 1) := ⟨_, rfl⟩
      obtain ⟨o4, Ho4⟩ : ∃ x, Hid (x = o3 + 1) := ⟨_, rfl⟩
      obtain ⟨o5, Ho5⟩ : ∃ x, Hid (x = o4 + 1) := ⟨_, rfl⟩
      obtain ⟨o6, Ho6⟩ : ∃ x, Hid (x = o5 + 1) := ⟨_, rfl⟩
      obtain ⟨o7, Ho7⟩ : ∃ x, Hid (o6 + m = x) := ⟨_, rfl⟩
      obtain ⟨o8, Ho8⟩ : ∃ x, Hid (x = o7 + 1) := ⟨_, rfl⟩
      obtain ⟨o9, Ho9⟩ : ∃ x, Hid (x = o8 + 1) := ⟨_, rfl⟩
      obtain ⟨o10, Ho10⟩ : ∃ x, Hid (x = o9 + 1) := ⟨_, rfl⟩
      obtain ⟨o11, Ho11⟩ : ∃ x, Hid (x = o10 + 1) := ⟨_, rfl⟩
      obtain ⟨o12, Ho12⟩ : ∃ x, Hid (o11 + le = x) := ⟨_, rfl⟩
      obtain ⟨o13, Ho13⟩ : ∃ x, Hid (o12 + lr = x) := ⟨_, rfl⟩
      have e1 : (o0 : Int) + 1 = (o1 : Int) := by have := Ho1.out; omega
      have e2 : (o1 : Int) + 1 = (o2 : Int) := by have := Ho2.out; omega
      have e3 : (o2 : Int) + 1 = (o3 : Int) := by have := Ho3.out; omega
      have e4 : (o3 : Int) + 1 = (o4 : Int) := by have := Ho4.out; omega
      have e5 : (o4 : Int) + 1 = (o5 : Int) := by have := Ho5.out; omega
      have e6 : (o5 : Int) + 1 = (o6 : Int) := by have := Ho6.out; omega
      have e8 : (o7 : Int) + 1 = (o8 : Int) := by have := Ho8.out; omega
      have e9 : (o8 : Int) + 1 = (o9 : Int) := by have := Ho9.out; omega
      have e10 : (o9 : Int) + 1 = (o10 : Int) := by have := Ho10.out; omega
      have e11 : (o10 : Int) + 1 = (o11 : Int) := by have := Ho11.out; omega
      have UB : Hid (o13 ≤ 40000000 ∧ o12 ≤ 40000000 ∧ o11 ≤ 40000000 ∧ o6 ≤ 40000000 ∧ o5 ≤ 40000000 ∧ o1 ≤ 40000000 ∧ o0 ≤ 40000000) := by have := Ho1.out; have := Ho2.out; have := Ho3.out; have := Ho4.out; have := Ho5.out; have := Ho6.out; have := Ho7.out; have := Ho8.out; have := Ho9.out; have := Ho10.out; have := Ho11.out; have := Ho12.out; have := Ho13.out; exact ⟨by omega, by omega, by omega, by omega, by omega, by omega, by omega⟩
      have HNX2 : Hid (o13 = k + tot (fun i => wkS (S i)) (c + 1)) := by show _ = _; rw [← HNX.out]; have := Ho1.out; have := Ho2.out; have := Ho3.out; have := Ho4.out; have := Ho5.out; have := Ho6.out; have := Ho7.out; have := Ho8.out; have := Ho9.out; have := Ho10.out; have := Ho11.out; have := Ho12.out; have := Ho13.out; omega
      have u0 : o0 ≤ 40000000 := by have := Ho1.out; have := Ho2.out; have := Ho3.out; have := Ho4.out; have := Ho5.out; have := Ho6.out; have := Ho7.out; have := Ho8.out; have := Ho9.out; have := Ho10.out; have := Ho11.out; have := Ho12.out; have := UB.out.1; have := Ho13.out; omega
      have u1 : o1 ≤ 40000000 := by have := Ho1.out; have := Ho2.out; have := Ho3.out; have := Ho4.out; have := Ho5.out; have := Ho6.out; have := Ho7.out; have := Ho8.out; have := Ho9.out; have := Ho10.out; have := Ho11.out; have := Ho12.out; have := UB.out.1; have := Ho13.out; omega
      have u2 : o2 ≤ 40000000 := by have := Ho1.out; have := Ho2.out; have := Ho3.out; have := Ho4.out; have := Ho5.out; have := Ho6.out; have := Ho7.out; have := Ho8.out; have := Ho9.out; have := Ho10.out; have := Ho11.out; have := Ho12.out; have := UB.out.1; have := Ho13.out; omega
      have u3 : o3 ≤ 40000000 := by have := Ho1.out; have := Ho2.out; have := Ho3.out; have := Ho4.out; have := Ho5.out; have := Ho6.out; have := Ho7.out; have := Ho8.out; have := Ho9.out; have := Ho10.out; have := Ho11.out; have := Ho12.out; have := UB.out.1; have := Ho13.out; omega
      have u4 : o4 ≤ 40000000 := by have := Ho1.out; have := Ho2.out; have := Ho3.out; have := Ho4.out; have := Ho5.out; have := Ho6.out; have := Ho7.out; have := Ho8.out; have := Ho9.out; have := Ho10.out; have := Ho11.out; have := Ho12.out; have := UB.out.1; have := Ho13.out; omega
      have u5 : o5 ≤ 40000000 := by have := Ho1.out; have := Ho2.out; have := Ho3.out; have := Ho4.out; have := Ho5.out; have := Ho6.out; have := Ho7.out; have := Ho8.out; have := Ho9.out; have := Ho10.out; have := Ho11.out; have := Ho12.out; have := UB.out.1; have := Ho13.out; omega
      have u6 : o6 ≤ 40000000 := by have := Ho1.out; have := Ho2.out; have := Ho3.out; have := Ho4.out; have := Ho5.out; have := Ho6.out; have := Ho7.out; have := Ho8.out; have := Ho9.out; have := Ho10.out; have := Ho11.out; have := Ho12.out; have := UB.out.1; have := Ho13.out; omega
      have u7 : o7 ≤ 40000000 := by have := Ho1.out; have := Ho2.out; have := Ho3.out; have := Ho4.out; have := Ho5.out; have := Ho6.out; have := Ho7.out; have := Ho8.out; have := Ho9.out; have := Ho10.out; have := Ho11.out; have := Ho12.out; have := UB.out.1; have := Ho13.out; omega
      have u8 : o8 ≤ 40000000 := by have := Ho1.out; have := Ho2.out; have := Ho3.out; have := Ho4.out; have := Ho5.out; have := Ho6.out; have := Ho7.out; have := Ho8.out; have := Ho9.out; have := Ho10.out; have := Ho11.out; have := Ho12.out; have := UB.out.1; have := Ho13.out; omega
      have u9 : o9 ≤ 40000000 := by have := Ho1.out; have := Ho2.out; have := Ho3.out; have := Ho4.out; have := Ho5.out; have := Ho6.out; have := Ho7.out; have := Ho8.out; have := Ho9.out; have := Ho10.out; have := Ho11.out; have := Ho12.out; have := UB.out.1; have := Ho13.out; omega
      have u10 : o10 ≤ 40000000 := by have := Ho1.out; have := Ho2.out; have := Ho3.out; have := Ho4.out; have := Ho5.out; have := Ho6.out; have := Ho7.out; have := Ho8.out; have := Ho9.out; have := Ho10.out; have := Ho11.out; have := Ho12.out; have := UB.out.1; have := Ho13.out; omega
      have u11 : o11 ≤ 40000000 := by have := Ho1.out; have := Ho2.out; have := Ho3.out; have := Ho4.out; have := Ho5.out; have := Ho6.out; have := Ho7.out; have := Ho8.out; have := Ho9.out; have := Ho10.out; have := Ho11.out; have := Ho12.out; have := UB.out.1; have := Ho13.out; omega
      obtain ⟨s0, HS0⟩ : ∃ x, Hid (mtxt o0 = x) := ⟨_, rfl⟩
      have KM0 : Hid (∀ W, Calls Try.prog 37 #[.int .i64 (o0 : Int)] W fun e w' => e = .returned (.string s0) ∧ Below W.heap.size W w') := fun W => by rw [← HS0.out]; exact markText_any o0 W (by omega)
      obtain ⟨s1, HS1⟩ : ∃ x, Hid (mtxt o1 = x) := ⟨_, rfl⟩
      have KM1 : Hid (∀ W, Calls Try.prog 37 #[.int .i64 (o1 : Int)] W fun e w' => e = .returned (.string s1) ∧ Below W.heap.size W w') := fun W => by rw [← HS1.out]; exact markText_any o1 W (by omega)
      obtain ⟨s5, HS5⟩ : ∃ x, Hid (mtxt o5 = x) := ⟨_, rfl⟩
      have KM5 : Hid (∀ W, Calls Try.prog 37 #[.int .i64 (o5 : Int)] W fun e w' => e = .returned (.string s5) ∧ Below W.heap.size W w') := fun W => by rw [← HS5.out]; exact markText_any o5 W (by omega)
      have hs1 := hsc.1
      have hs2 := hsc.2.1
      have hs3 := hsc.2.2
      clear ho hsc
      have K1 : Hid (MkS wr B 82 13 g n cap G (fun i => slD (S' i)) ∧ Trn w wr F) := ⟨KO.out.2.2.1, KO.out.2.2.2⟩
      obtain ⟨W1, HW1⟩ : ∃ x, Hid (x = wr) := ⟨_, rfl⟩
      have M1 := K1.out.1
      rw [← HW1.out] at M1
      have KK1 : Hid (MkS W1 B 82 13 g n cap G _ ∧ Trn w W1 F) := ⟨M1, by rw [HW1.out]; exact K1.out.2⟩
      clear M1
      go_wp2_with fail
      rw [← HW1.out]
      refine Calls.mono (KM0.out _) ?_
      rintro e w1 ⟨rfl, b1⟩
      have KN1 : Hid (MkS w1 B 82 13 g n cap G _ ∧ Trn w w1 F) := ⟨MkS.below KK1.out.1 b1, KK1.out.2.trans (Trn.ofBelow F b1)⟩
      clear b1 KK1
      obtain ⟨x0v, x0, f0, _⟩ := MkS.cell KN1.out.1 hlt (show 0 < 13 by omega)
      simp only [Nat.add_zero] at x0 f0
      obtain ⟨W2, HW2⟩ : ∃ x, Hid (x = (w1.setCell ⟨g, c * 13, none⟩ (.string s0))) := ⟨_, rfl⟩
      have M2 := KN1.out.1
      have M2 := MkS.set M2 KS.out hlt (show 0 < 13 by omega) (.string s0)
      rw [Nat.add_zero] at M2
      rw [← HW2.out] at M2
      have KK2 : Hid (MkS W2 B 82 13 g n cap G _ ∧ Trn w W2 F) := ⟨M2, by rw [HW2.out]; exact (KN1.out.2.trans (Trn.set _ (c * 13) _ HG.out))⟩
      clear M2
      go_wp2_with fail
      rw [← HW2.out]
      clear x0 f0
      refine Calls.mono (KM1.out _) ?_
      rintro e w2 ⟨rfl, b2⟩
      have KN2 : Hid (MkS w2 B 82 13 g n cap G _ ∧ Trn w w2 F) := ⟨MkS.below KK2.out.1 b2, KK2.out.2.trans (Trn.ofBelow F b2)⟩
      clear b2 KK2
      obtain ⟨x1v, x1, f1, _⟩ := MkS.cell KN2.out.1 hlt (show 1 < 13 by omega)
      obtain ⟨x2v, x2, f2, _⟩ := MkS.cell KN2.out.1 hlt (show 2 < 13 by omega)
      obtain ⟨x3v, x3, f3, _⟩ := MkS.cell KN2.out.1 hlt (show 3 < 13 by omega)
      obtain ⟨x4v, x4, f4, _⟩ := MkS.cell KN2.out.1 hlt (show 4 < 13 by omega)
      obtain ⟨W3, HW3⟩ : ∃ x, Hid (x = ((((w2.setCell ⟨g, c * 13 + 1, none⟩ (.string s1)).setCell ⟨g, c * 13 + 2, none⟩ (.int .i64 (o2 : Int))).setCell ⟨g, c * 13 + 3, none⟩ (.int .i64 (o3 : Int))).setCell ⟨g, c * 13 + 4, none⟩ (.int .i64 (o4 : Int)))) := ⟨_, rfl⟩
      have M3 := KN2.out.1
      have M3 := MkS.set M3 KS.out hlt (show 1 < 13 by omega) (.string s1)
      have M3 := MkS.set M3 KS.out hlt (show 2 < 13 by omega) (.int .i64 (o2 : Int))
      have M3 := MkS.set M3 KS.out hlt (show 3 < 13 by omega) (.int .i64 (o3 : Int))
      have M3 := MkS.set M3 KS.out hlt (show 4 < 13 by omega) (.int .i64 (o4 : Int))
      rw [← HW3.out] at M3
      have KK3 : Hid (MkS W3 B 82 13 g n cap G _ ∧ Trn w W3 F) := ⟨M3, by rw [HW3.out]; exact ((((KN2.out.2.trans (Trn.set _ (c * 13 + 1) _ HG.out)).trans (Trn.set _ (c * 13 + 2) _ HG.out)).trans (Trn.set _ (c * 13 + 3) _ HG.out)).trans (Trn.set _ (c * 13 + 4) _ HG.out))⟩
      clear M3
      go_wp2_with fail
      rw [← HW3.out]
      clear x1 f1 x2 f2 x3 f3 x4 f4
      refine Calls.mono (KM5.out _) ?_
      rintro e w3 ⟨rfl, b3⟩
      have KN3 : Hid (MkS w3 B 82 13 g n cap G _ ∧ Trn w w3 F) := ⟨MkS.below KK3.out.1 b3, KK3.out.2.trans (Trn.ofBelow F b3)⟩
      clear b3 KK3
      obtain ⟨x5v, x5, f5, _⟩ := MkS.cell KN3.out.1 hlt (show 5 < 13 by omega)
      obtain ⟨W4, HW4⟩ : ∃ x, Hid (x = (w3.setCell ⟨g, c * 13 + 5, none⟩ (.string s5))) := ⟨_, rfl⟩
      have M4 := KN3.out.1
      have M4 := MkS.set M4 KS.out hlt (show 5 < 13 by omega) (.string s5)
      rw [← HW4.out] at M4
      have KK4 : Hid (MkS W4 B 82 13 g n cap G _ ∧ Trn w W4 F) := ⟨M4, by rw [HW4.out]; exact (KN3.out.2.trans (Trn.set _ (c * 13 + 5) _ HG.out))⟩
      clear M4
      obtain ⟨v6, x6, _, h6⟩ := MkS.cell KK4.out.1 hlt (show 6 < 13 by omega)
      have HD6 : Hid (Ow W4 B (txD (S c).p.m (S c).p.S) v6 (G c 6)) := by
        have := h6
        simp [slD, hS] at this
        exact this
      have KMS : Hid _ := markD_txt B v6 (S c).p.m (S c).p.S o6 o7 (G c 6) W4 HD6.out (by rw [HMm.out]; exact hs1) (by omega) (by rw [HMm.out]; exact Ho7.out)
      obtain ⟨a6, c6, e6⟩ : ∃ a6 c6, v6 = .slice a6 m c6 := by
        obtain ⟨a, cp, e, _⟩ := txt_ow HD6.out
        rw [HMm.out] at e
        exact ⟨a, cp, e⟩
      subst e6
      have X6 : Hid (W4.cell? ⟨g, c * 13 + 6, none⟩ = some (.slice a6 m c6)) := x6
      have y6 : w3.cell? ⟨g, c * 13 + 6, none⟩ = some (.slice a6 m c6) := by
        have h1 := x6
        rw [HW4.out, World.cell?_setCell_other _ _ _ _ (by simp)] at h1
        exact h1
      clear h6 x6
      go_wp2_with fail
      rw [← HW4.out]
      refine Calls.mono KMS.out ?_
      rintro e w4 ⟨rfl, hR6, hT6⟩
      have M4 := MkS.turn KK4.out.1 KS.out hlt (show 6 < 13 by omega) X6.out hR6 hT6
      have KN4 : Hid (MkS w4 B 82 13 g n cap G _ ∧ Trn w w4 F) := ⟨M4, KK4.out.2.trans (hT6.mono (fun x hx => KS.out.sub c 6 x hlt (by omega) hx))⟩
      clear M4 hR6 hT6 KMS KK4 y6 x5 f5
      obtain ⟨x7v, x7, f7, _⟩ := MkS.cell KN4.out.1 hlt (show 7 < 13 by omega)
      obtain ⟨x8v, x8, f8, _⟩ := MkS.cell KN4.out.1 hlt (show 8 < 13 by omega)
      obtain ⟨x9v, x9, f9, _⟩ := MkS.cell KN4.out.1 hlt (show 9 < 13 by omega)
      obtain ⟨x10v, x10, f10, _⟩ := MkS.cell KN4.out.1 hlt (show 10 < 13 by omega)
      obtain ⟨W5, HW5⟩ : ∃ x, Hid (x = ((((w4.setCell ⟨g, c * 13 + 7, none⟩ (.bool ((o7 : Int) % 3 == 0))).setCell ⟨g, c * 13 + 8, none⟩ (.bool ((o8 : Int) % 3 == 0))).setCell ⟨g, c * 13 + 9, none⟩ (.bool ((o9 : Int) % 3 == 0))).setCell ⟨g, c * 13 + 10, none⟩ (.bool ((o10 : Int) % 3 == 0)))) := ⟨_, rfl⟩
      have M5 := KN4.out.1
      have M5 := MkS.set M5 KS.out hlt (show 7 < 13 by omega) (.bool ((o7 : Int) % 3 == 0))
      have M5 := MkS.set M5 KS.out hlt (show 8 < 13 by omega) (.bool ((o8 : Int) % 3 == 0))
      have M5 := MkS.set M5 KS.out hlt (show 9 < 13 by omega) (.bool ((o9 : Int) % 3 == 0))
      have M5 := MkS.set M5 KS.out hlt (show 10 < 13 by omega) (.bool ((o10 : Int) % 3 == 0))
      rw [← HW5.out] at M5
      have KK5 : Hid (MkS W5 B 82 13 g n cap G _ ∧ Trn w W5 F) := ⟨M5, by rw [HW5.out]; exact ((((KN4.out.2.trans (Trn.set _ (c * 13 + 7) _ HG.out)).trans (Trn.set _ (c * 13 + 8) _ HG.out)).trans (Trn.set _ (c * 13 + 9) _ HG.out)).trans (Trn.set _ (c * 13 + 10) _ HG.out))⟩
      clear M5
      obtain ⟨v11, x11, _, h11⟩ := MkS.cell KK5.out.1 hlt (show 11 < 13 by omega)
      have HD11 : Hid (Ow W5 B (inD (S c).ze) v11 (G c 11)) := by
        have := h11
        simp [slD, hS] at this
        exact this
      have KMS : Hid _ := markD_ints B v11 (S c).ze o11 o12 (G c 11) W5 HD11.out (by rw [HLe.out]; exact hs2) (by have := UB.out; omega) (by rw [HLe.out]; exact Ho12.out)
      obtain ⟨a11, c11, e11'⟩ : ∃ a11 c11, v11 = .slice a11 le c11 := by
        obtain ⟨a, cp, e, _⟩ := ints_ow HD11.out
        rw [HLe.out] at e
        exact ⟨a, cp, e⟩
      subst e11'
      have X11 : Hid (W5.cell? ⟨g, c * 13 + 11, none⟩ = some (.slice a11 le c11)) := x11
      have y11 : w4.cell? ⟨g, c * 13 + 11, none⟩ = some (.slice a11 le c11) := by
        have h1 := x11
        rw [HW5.out, World.cell?_setCell_other _ _ _ _ (by simp), World.cell?_setCell_other _ _ _ _ (by simp), World.cell?_setCell_other _ _ _ _ (by simp), World.cell?_setCell_other _ _ _ _ (by simp)] at h1
        exact h1
      clear h11 x11
      go_wp2_with fail
      rw [← HW5.out]
      refine Calls.mono KMS.out ?_
      rintro e w5 ⟨rfl, hR11, hT11⟩
      have M5 := MkS.turn KK5.out.1 KS.out hlt (show 11 < 13 by omega) X11.out hR11 hT11
      have KN5 : Hid (MkS w5 B 82 13 g n cap G _ ∧ Trn w w5 F) := ⟨M5, KK5.out.2.trans (hT11.mono (fun x hx => KS.out.sub c 11 x hlt (by omega) hx))⟩
      clear M5 hR11 hT11 KMS KK5 y11 x7 f7 x8 f8 x9 f9 x10 f10
      obtain ⟨W6, HW6⟩ : ∃ x, Hid (x = w5) := ⟨_, rfl⟩
      have M6 := KN5.out.1
      rw [← HW6.out] at M6
      have KK6 : Hid (MkS W6 B 82 13 g n cap G _ ∧ Trn w W6 F) := ⟨M6, by rw [HW6.out]; exact KN5.out.2⟩
      clear M6
      obtain ⟨v12, x12, _, h12⟩ := MkS.cell KK6.out.1 hlt (show 12 < 13 by omega)
      have HD12 : Hid (Ow W6 B (inD (S c).zr) v12 (G c 12)) := by
        have := h12
        simp [slD, hS] at this
        exact this
      have KMS : Hid _ := markD_ints B v12 (S c).zr o12 o13 (G c 12) W6 HD12.out (by rw [HLr.out]; exact hs3) (by have := UB.out; omega) (by rw [HLr.out]; exact Ho13.out)
      obtain ⟨a12, c12, e12'⟩ : ∃ a12 c12, v12 = .slice a12 lr c12 := by
        obtain ⟨a, cp, e, _⟩ := ints_ow HD12.out
        rw [HLr.out] at e
        exact ⟨a, cp, e⟩
      subst e12'
      have X12 : Hid (W6.cell? ⟨g, c * 13 + 12, none⟩ = some (.slice a12 lr c12)) := x12
      have y12 : w5.cell? ⟨g, c * 13 + 12, none⟩ = some (.slice a12 lr c12) := by
        have h1 := x12
        rw [HW6.out] at h1
        exact h1
      clear h12 x12
      go_wp2_with fail
      rw [← HW6.out]
      refine Calls.mono KMS.out ?_
      rintro e w6 ⟨rfl, hR12, hT12⟩
      have M6 := MkS.turn KK6.out.1 KS.out hlt (show 12 < 13 by omega) X12.out hR12 hT12
      have KN6 : Hid (MkS w6 B 82 13 g n cap G _ ∧ Trn w w6 F) := ⟨M6, KK6.out.2.trans (hT12.mono (fun x hx => KS.out.sub c 12 x hlt (by omega) hx))⟩
      clear M6 hR12 hT12 KMS KK6 y12 
      obtain ⟨W7, HW7⟩ : ∃ x, Hid (x = w6) := ⟨_, rfl⟩
      have M7 := KN6.out.1
      rw [← HW7.out] at M7
      have KK7 : Hid (MkS W7 B 82 13 g n cap G _ ∧ Trn w W7 F) := ⟨M7, by rw [HW7.out]; exact KN6.out.2⟩
      clear M7
      have HN : Hid (∃ S2 : Nat → Sl, (∀ i, S2 i = if i < c + 1 then mkL k S i else S i) ∧ MkS w6 B 82 13 g n cap G (fun i => slD (S2 i)) ∧ Trn w w6 F) := by
        have hd : mkL k S c = ⟨s0, ⟨s1, (o2 : Int), (o3 : Int), (o4 : Int), s5, (S c).p.m, fun j => mtxt (o6 + j)⟩, ((o7 : Int) % 3 == 0), ((o8 : Int) % 3 == 0), ((o9 : Int) % 3 == 0), ((o10 : Int) % 3 == 0), marks o11 (S c).ze.length, marks o12 (S c).zr.length⟩ := by
          have z0 : k + tot (fun i => wkS (S i)) c = o0 := KO.out.1.symm
          have z1 : o0 + 1 = o1 := Ho1.out.symm
          have z2 : o0 + 2 = o2 := by have := Ho2.out; omega
          have z3 : o0 + 3 = o3 := by have := Ho3.out; omega
          have z4 : o0 + 4 = o4 := by have := Ho4.out; omega
          have z5 : o0 + 5 = o5 := by have := Ho5.out; omega
          have z6 : o0 + 6 = o6 := by have := Ho6.out; omega
          have z7 : o6 + (S c).p.m = o7 := by rw [HMm.out]; exact Ho7.out
          have z8 : o0 + 7 + (S c).p.m = o8 := by have := Ho8.out; omega
          have z9 : o0 + 8 + (S c).p.m = o9 := by have := Ho9.out; omega
          have z10 : o0 + 9 + (S c).p.m = o10 := by have := Ho10.out; omega
          have z11 : o0 + 10 + (S c).p.m = o11 := by have := Ho11.out; omega
          have z12 : o11 + (S c).ze.length = o12 := by rw [HLe.out]; exact Ho12.out
          unfold mkL mkX
          rw [z0, z1, z2, z3, z4, z5, z6, z7, z8, z9, z10, z11, z12, HS0.out, HS1.out, HS5.out]
        refine ⟨fun i => if i < c + 1 then mkL k S i else S i, fun i => rfl, MkS.congr KN6.out.1 fun i q hi hq => ?_, KN6.out.2⟩
        show _ = slD (if i < c + 1 then mkL k S i else S i) q
        by_cases ei : i = c
        · subst ei
          rw [if_pos (show i < i + 1 by omega), hd]
          match q, hq with
          | 0, _ | 1, _ | 2, _ | 3, _ | 4, _ | 5, _ | 6, _ | 7, _ | 8, _ | 9, _ | 10, _ | 11, _ | 12, _ => simp [slD]
        · have e1 := KO.out.2.1 i
          by_cases e2 : i < c
          · rw [if_pos (show i < c + 1 by omega)]
            rw [if_pos e2] at e1
            simp [ei, e1]
          · rw [if_neg (show ¬ i < c + 1 by omega)]
            rw [if_neg e2] at e1
            simp [ei, e1]
      go_wp2
      obtain ⟨S2, g1, g2, g3⟩ := HN.out
      go_roundw
      case rel => exact ⟨c + 1, o13, S2, by omega, by go_num, by go_num, HNX2.out, g1, g2, g3⟩
      case measure => simp [intOf]; omega
    · obtain rfl : c = n := by omega
      go_wp2
      go_ret
      have HF : Hid (Ow wr B (slsD c (mkL k S)) (.slice (some ⟨g, 0, none⟩) c cap) F) := (KO.out.2.2.1.congr (fun i q hi _ => by rw [KO.out.2.1 i, if_pos hi])).ow KS.out
      exact ⟨ret_int (by have := KO.out.1; omega), HF.out, KO.out.2.2.2⟩
set_option maxHeartbeats 8000000 in
theorem heldSlsF_any (a : Option Addr) (n cap : Nat) (S : Nat → Sl) (k : Nat) (w : World) (h : Rd w (slsD n (mkL k S)) (.slice a n cap)) (hn : n ≤ 1048576) (hm : ∀ i, i < n → SlS (S i)) (hk : k + tot (fun i => wkS (S i)) n ≤ 40000000) :
    Calls Try.prog 47 #[.slice a n cap, .int .i64 (k : Int)] w fun e w' => e = .returned (.int .i64 ((k + tot (fun i => wkS (S i)) n : Nat) : Int)) ∧ Below w.heap.size w w' := by
  have KH : Hid (Rd w (slsD n (mkL k S)) (.slice a n cap)) := h
  have HM : Hid (∀ i, i < n → SlS (S i)) := hm
  have HK : Hid (k + tot (fun i => wkS (S i)) n ≤ 40000000) := hk
  clear h hm hk
  go_enter Try.func47, Try.ntmps47
  go_wp2
  go_loopw [1, 5] (fun vk vi wr => ∃ (c x : Nat), c ≤ n ∧ vk = .int .i64 (x : Int) ∧ vi = .int .i64 (c : Int) ∧ Hid (x = k + tot (fun i => wkS (S i)) c) ∧ Below w.heap.size w wr) (fun _ vi _ => n - (intOf vi).toNat)
  case atStart => exact ⟨0, k, Nat.zero_le _, rfl, rfl, rfl, Below.refl _ _⟩
  case round =>
    obtain ⟨c, o0, hcn, rfl, rfl, HO, hbel⟩ := hrel
    by_cases hlt : c < n
    case neg =>
      obtain rfl : c = n := by omega
      go_wp2
      go_ret
      exact ⟨ret_int (by have := HO.out; omega), hbel⟩
    have hki : (c : Int) < (n : Int) := by omega
    have hsc := HM.out c hlt
    have ho : o0 + wkS (S c) ≤ 40000000 := by
      have h1 := HO.out
      have h2 : tot (fun i => wkS (S i)) c + wkS (S c) ≤ tot (fun i => wkS (S i)) n := tot_step (g := fun i => wkS (S i)) hlt
      have h3 := HK.out
      omega
    obtain ⟨m, HMm⟩ : ∃ x, Hid ((S c).p.m = x) := ⟨_, rfl⟩
    obtain ⟨le, HLe⟩ : ∃ x, Hid ((S c).ze.length = x) := ⟨_, rfl⟩
    obtain ⟨lr, HLr⟩ : ∃ x, Hid ((S c).zr.length = x) := ⟨_, rfl⟩
    have HNX : Hid (o0 + 10 + m + le + lr = k + tot (fun i => wkS (S i)) (c + 1)) := by
      show _ = k + (tot (fun i => wkS (S i)) c + wkS (S c))
      have := HO.out
      unfold wkS
      rw [HMm.out, HLe.out, HLr.out]
      unfold wkS at this
      omega
    unfold wkS at ho
    unfold SlS at hsc
    rw [HMm.out, HLe.out, HLr.out] at ho hsc
    obtain ⟨o1, Ho1⟩ : ∃ x, Hid (x = o0 + 1) := ⟨_, rfl⟩
    obtain ⟨o2, Ho2⟩ : ∃ x, Hid (x = o1 + 1) := ⟨_, rfl⟩
    obtain ⟨o3, Ho3⟩ : ∃ x, Hid (x = o2 + 1) := ⟨_, rfl⟩
    obtain ⟨o4, Ho4⟩ : ∃ x, Hid (x = o3 + 1) := ⟨_, rfl⟩
    obtain ⟨o5, Ho5⟩ : ∃ x, Hid (x = o4 + 1) := ⟨_, rfl⟩
    obtain ⟨o6, Ho6⟩ : ∃ x, Hid (x = o5 + 1) := ⟨_, rfl⟩
    obtain ⟨o7, Ho7⟩ : ∃ x, Hid (o6 + m = x) := ⟨_, rfl⟩
    obtain ⟨o8, Ho8⟩ : ∃ x, Hid (x = o7 + 1) := ⟨_, rfl⟩
    obtain ⟨o9, Ho9⟩ : ∃ x, Hid (x = o8 + 1) := ⟨_, rfl⟩
    obtain ⟨o10, Ho10⟩ : ∃ x, Hid (x = o9 + 1) := ⟨_, rfl⟩
    obtain ⟨o11, Ho11⟩ : ∃ x, Hid (x = o10 + 1) := ⟨_, rfl⟩
    obtain ⟨o12, Ho12⟩ : ∃ x, Hid (o11 + le = x) := ⟨_, rfl⟩
    obtain ⟨o13, Ho13⟩ : ∃ x, Hid (o12 + lr = x) := ⟨_, rfl⟩
    have e1 : (o0 : Int) + 1 = (o1 : Int) := by have := Ho1.out; omega
    have e2 : (o1 : Int) + 1 = (o2 : Int) := by have := Ho2.out; omega
    have e3 : (o2 : Int) + 1 = (o3 : Int) := by have := Ho3.out; omega
    have e4 : (o3 : Int) + 1 = (o4 : Int) := by have := Ho4.out; omega
    have e5 : (o4 : Int) + 1 = (o5 : Int) := by have := Ho5.out; omega
    have e6 : (o5 : Int) + 1 = (o6 : Int) := by have := Ho6.out; omega
    have e8 : (o7 : Int) + 1 = (o8 : Int) := by have := Ho8.out; omega
    have e9 : (o8 : Int) + 1 = (o9 : Int) := by have := Ho9.out; omega
    have e10 : (o9 : Int) + 1 = (o10 : Int) := by have := Ho10.out; omega
    have e11 : (o10 : Int) + 1 = (o11 : Int) := by have := Ho11.out; omega
    have HNX2 : Hid (o13 = k + tot (fun i => wkS (S i)) (c + 1)) := by show _ = _; rw [← HNX.out]; have := Ho1.out; have := Ho2.out; have := Ho3.out; have := Ho4.out; have := Ho5.out; have := Ho6.out; have := Ho7.out; have := Ho8.out; have := Ho9.out; have := Ho10.out; have := Ho11.out; have := Ho12.out; have := Ho13.out; omega
    have u0 : o0 ≤ 40000000 := by have := Ho1.out; have := Ho2.out; have := Ho3.out; have := Ho4.out; have := Ho5.out; have := Ho6.out; have := Ho7.out; have := Ho8.out; have := Ho9.out; have := Ho10.out; have := Ho11.out; have := Ho12.out; have := Ho13.out; omega
    have u1 : o1 ≤ 40000000 := by have := Ho1.out; have := Ho2.out; have := Ho3.out; have := Ho4.out; have := Ho5.out; have := Ho6.out; have := Ho7.out; have := Ho8.out; have := Ho9.out; have := Ho10.out; have := Ho11.out; have := Ho12.out; have := Ho13.out; omega
    have u2 : o2 ≤ 40000000 := by have := Ho1.out; have := Ho2.out; have := Ho3.out; have := Ho4.out; have := Ho5.out; have := Ho6.out; have := Ho7.out; have := Ho8.out; have := Ho9.out; have := Ho10.out; have := Ho11.out; have := Ho12.out; have := Ho13.out; omega
    have u3 : o3 ≤ 40000000 := by have := Ho1.out; have := Ho2.out; have := Ho3.out; have := Ho4.out; have := Ho5.out; have := Ho6.out; have := Ho7.out; have := Ho8.out; have := Ho9.out; have := Ho10.out; have := Ho11.out; have := Ho12.out; have := Ho13.out; omega
    have u4 : o4 ≤ 40000000 := by have := Ho1.out; have := Ho2.out; have := Ho3.out; have := Ho4.out; have := Ho5.out; have := Ho6.out; have := Ho7.out; have := Ho8.out; have := Ho9.out; have := Ho10.out; have := Ho11.out; have := Ho12.out; have := Ho13.out; omega
    have u5 : o5 ≤ 40000000 := by have := Ho1.out; have := Ho2.out; have := Ho3.out; have := Ho4.out; have := Ho5.out; have := Ho6.out; have := Ho7.out; have := Ho8.out; have := Ho9.out; have := Ho10.out; have := Ho11.out; have := Ho12.out; have := Ho13.out; omega
    have u6 : o6 ≤ 40000000 := by have := Ho1.out; have := Ho2.out; have := Ho3.out; have := Ho4.out; have := Ho5.out; have := Ho6.out; have := Ho7.out; have := Ho8.out; have := Ho9.out; have := Ho10.out; have := Ho11.out; have := Ho12.out; have := Ho13.out; omega
    have u7 : o7 ≤ 40000000 := by have := Ho1.out; have := Ho2.out; have := Ho3.out; have := Ho4.out; have := Ho5.out; have := Ho6.out; have := Ho7.out; have := Ho8.out; have := Ho9.out; have := Ho10.out; have := Ho11.out; have := Ho12.out; have := Ho13.out; omega
    have u8 : o8 ≤ 40000000 := by have := Ho1.out; have := Ho2.out; have := Ho3.out; have := Ho4.out; have := Ho5.out; have := Ho6.out; have := Ho7.out; have := Ho8.out; have := Ho9.out; have := Ho10.out; have := Ho11.out; have := Ho12.out; have := Ho13.out; omega
    have u9 : o9 ≤ 40000000 := by have := Ho1.out; have := Ho2.out; have := Ho3.out; have := Ho4.out; have := Ho5.out; have := Ho6.out; have := Ho7.out; have := Ho8.out; have := Ho9.out; have := Ho10.out; have := Ho11.out; have := Ho12.out; have := Ho13.out; omega
    have u10 : o10 ≤ 40000000 := by have := Ho1.out; have := Ho2.out; have := Ho3.out; have := Ho4.out; have := Ho5.out; have := Ho6.out; have := Ho7.out; have := Ho8.out; have := Ho9.out; have := Ho10.out; have := Ho11.out; have := Ho12.out; have := Ho13.out; omega
    have u11 : o11 ≤ 40000000 := by have := Ho1.out; have := Ho2.out; have := Ho3.out; have := Ho4.out; have := Ho5.out; have := Ho6.out; have := Ho7.out; have := Ho8.out; have := Ho9.out; have := Ho10.out; have := Ho11.out; have := Ho12.out; have := Ho13.out; omega
    have u12 : o12 ≤ 40000000 := by have := Ho1.out; have := Ho2.out; have := Ho3.out; have := Ho4.out; have := Ho5.out; have := Ho6.out; have := Ho7.out; have := Ho8.out; have := Ho9.out; have := Ho10.out; have := Ho11.out; have := Ho12.out; have := Ho13.out; omega
    have u13 : o13 ≤ 40000000 := by have := Ho1.out; have := Ho2.out; have := Ho3.out; have := Ho4.out; have := Ho5.out; have := Ho6.out; have := Ho7.out; have := Ho8.out; have := Ho9.out; have := Ho10.out; have := Ho11.out; have := Ho12.out; have := Ho13.out; omega
    obtain ⟨s0, HS0⟩ : ∃ x, Hid (mtxt o0 = x) := ⟨_, rfl⟩
    have KM0 : Hid (∀ W, Calls Try.prog 37 #[.int .i64 (o0 : Int)] W fun e w' => e = .returned (.string s0) ∧ Below W.heap.size W w') := fun W => by rw [← HS0.out]; exact markText_any o0 W (by omega)
    have n0 : (s0.toList != s0.toList) = false := by simp
    have n0' := ba_beq s0
    obtain ⟨s1, HS1⟩ : ∃ x, Hid (mtxt o1 = x) := ⟨_, rfl⟩
    have KM1 : Hid (∀ W, Calls Try.prog 37 #[.int .i64 (o1 : Int)] W fun e w' => e = .returned (.string s1) ∧ Below W.heap.size W w') := fun W => by rw [← HS1.out]; exact markText_any o1 W (by omega)
    have n1 : (s1.toList != s1.toList) = false := by simp
    have n1' := ba_beq s1
    obtain ⟨s5, HS5⟩ : ∃ x, Hid (mtxt o5 = x) := ⟨_, rfl⟩
    have KM5 : Hid (∀ W, Calls Try.prog 37 #[.int .i64 (o5 : Int)] W fun e w' => e = .returned (.string s5) ∧ Below W.heap.size W w') := fun W => by rw [← HS5.out]; exact markText_any o5 W (by omega)
    have n5 : (s5.toList != s5.toList) = false := by simp
    have n5' := ba_beq s5
    have n2 : ((o2 : Int) != (o2 : Int)) = false := by simp
    have n3 : ((o3 : Int) != (o3 : Int)) = false := by simp
    have n4 : ((o4 : Int) != (o4 : Int)) = false := by simp
    obtain ⟨t7, HT7⟩ : ∃ x, ((o7 : Int) % 3 == 0) = x := ⟨_, rfl⟩
    have n7 : (t7 != t7) = false := by simp
    obtain ⟨t8, HT8⟩ : ∃ x, ((o8 : Int) % 3 == 0) = x := ⟨_, rfl⟩
    have n8 : (t8 != t8) = false := by simp
    obtain ⟨t9, HT9⟩ : ∃ x, ((o9 : Int) % 3 == 0) = x := ⟨_, rfl⟩
    have n9 : (t9 != t9) = false := by simp
    obtain ⟨t10, HT10⟩ : ∃ x, ((o10 : Int) % 3 == 0) = x := ⟨_, rfl⟩
    have n10 : (t10 != t10) = false := by simp
    have hd : mkL k S c = ⟨s0, ⟨s1, (o2 : Int), (o3 : Int), (o4 : Int), s5, m, fun j => mtxt (o6 + j)⟩, t7, t8, t9, t10, marks o11 le, marks o12 lr⟩ := by
      have z0 : k + tot (fun i => wkS (S i)) c = o0 := HO.out.symm
      have z1 : o0 + 1 = o1 := Ho1.out.symm
      have z2 : o0 + 2 = o2 := by have := Ho2.out; omega
      have z3 : o0 + 3 = o3 := by have := Ho3.out; omega
      have z4 : o0 + 4 = o4 := by have := Ho4.out; omega
      have z5 : o0 + 5 = o5 := by have := Ho5.out; omega
      have z6 : o0 + 6 = o6 := by have := Ho6.out; omega
      have z7 : o6 + m = o7 := Ho7.out
      have z8 : o0 + 7 + m = o8 := by have := Ho8.out; omega
      have z9 : o0 + 8 + m = o9 := by have := Ho9.out; omega
      have z10 : o0 + 9 + m = o10 := by have := Ho10.out; omega
      have z11 : o0 + 10 + m = o11 := by have := Ho11.out; omega
      have z12 : o11 + le = o12 := Ho12.out
      unfold mkL mkX
      rw [HMm.out, HLe.out, HLr.out, z0, z1, z2, z3, z4, z5, z6, z7, z8, z9, z10, z11, z12, HS0.out, HS1.out, HS5.out, HT7, HT8, HT9, HT10]
    obtain ⟨b1, f1, p6, p11, p12, q6, q11, q12, rfl, R1, h6, h11, h12⟩ := slot_at (KH.out.below hbel) hlt
    rw [hd] at R1 h6 h11 h12
    simp only [marks_length] at R1 h6 h11 h12
    have KC : Hid (∀ W, Below wr.heap.size wr W → W.cell? ⟨b1, f1 + c * 13, none⟩ = some (.string s0) ∧ W.cell? ⟨b1, f1 + c * 13 + 1, none⟩ = some (.string s1) ∧ W.cell? ⟨b1, f1 + c * 13 + 2, none⟩ = some (.int .i64 (o2 : Int)) ∧ W.cell? ⟨b1, f1 + c * 13 + 3, none⟩ = some (.int .i64 (o3 : Int)) ∧ W.cell? ⟨b1, f1 + c * 13 + 4, none⟩ = some (.int .i64 (o4 : Int)) ∧ W.cell? ⟨b1, f1 + c * 13 + 5, none⟩ = some (.string s5) ∧ W.cell? ⟨b1, f1 + c * 13 + 6, none⟩ = some (.slice p6 m q6) ∧ W.cell? ⟨b1, f1 + c * 13 + 7, none⟩ = some (.bool t7) ∧ W.cell? ⟨b1, f1 + c * 13 + 8, none⟩ = some (.bool t8) ∧ W.cell? ⟨b1, f1 + c * 13 + 9, none⟩ = some (.bool t9) ∧ W.cell? ⟨b1, f1 + c * 13 + 10, none⟩ = some (.bool t10) ∧ W.cell? ⟨b1, f1 + c * 13 + 11, none⟩ = some (.slice p11 le q11) ∧ W.cell? ⟨b1, f1 + c * 13 + 12, none⟩ = some (.slice p12 lr q12)) := fun W hW => by
      have R : ∀ (j : Nat) (v : Value), (slL ⟨s0, ⟨s1, (o2 : Int), (o3 : Int), (o4 : Int), s5, m, fun j => mtxt (o6 + j)⟩, t7, t8, t9, t10, marks o11 le, marks o12 lr⟩ (.slice p6 m q6) (.slice p11 le q11) (.slice p12 lr q12))[j]? = some v → W.cell? ⟨b1, f1 + c * 13 + j, none⟩ = some v := fun j v hv => (hW.cell (block_lt_of_cell (R1 j v hv))).trans (R1 j v hv)
      exact ⟨R 0 _ rfl, R 1 _ rfl, R 2 _ rfl, R 3 _ rfl, R 4 _ rfl, R 5 _ rfl, R 6 _ rfl, R 7 _ rfl, R 8 _ rfl, R 9 _ rfl, R 10 _ rfl, R 11 _ rfl, R 12 _ rfl⟩
    have KT : Hid (∀ W, Below wr.heap.size wr W → Calls Try.prog 48 #[.slice p6 m q6, .int .i64 (o6 : Int)] W fun e w' => e = .returned (.int .i64 (o7 : Int)) ∧ Below W.heap.size W w') := fun W hW => heldT2_any p6 m q6 o6 o7 W (h6.below hW) hsc.1 (by omega) Ho7.out
    have KE : Hid (∀ W, Below wr.heap.size wr W → Calls Try.prog 39 #[.slice p11 le q11, .int .i64 (o11 : Int)] W fun e w' => e = .returned (.int .i64 (o12 : Int)) ∧ w' = W) := fun W hW => held_q p11 le q11 o11 o12 W (h11.below hW) hsc.2.1 (by omega) Ho12.out
    have KZ : Hid (∀ W, Below wr.heap.size wr W → Calls Try.prog 39 #[.slice p12 lr q12, .int .i64 (o12 : Int)] W fun e w' => e = .returned (.int .i64 (o13 : Int)) ∧ w' = W) := fun W hW => held_q p12 lr q12 o12 o13 W (h12.below hW) hsc.2.2 (by omega) Ho13.out
    have g7 : ¬ ((o7 : Int) < 0) := by omega
    have g12 : ¬ ((o12 : Int) < 0) := by omega
    have g13 : ¬ ((o13 : Int) < 0) := by omega
    have KBr : Hid (Below w.heap.size w wr) := hbel
    have KB0 : Hid (Below wr.heap.size wr wr) := Below.refl _ _
    clear R1 h6 h11 h12 hbel hd ho hsc KH
    obtain ⟨y0, _, _, _, _, _, _, _, _, _, _, _, _⟩ := KC.out wr KB0.out
    have Y : ∀ d os, (grow (redrawn wr d) os).cell? ⟨b1, f1 + c * 13, none⟩ = _ := fun d os => cell_regrown y0 d os
    have NN : ∀ d os, Calls Try.prog 37 #[.int .i64 (o0 : Int)] (grow (redrawn wr d) os) fun e w' => e = .returned (.string s0) ∧ ∃ p : Regrown, w' = grow (redrawn wr p.d) p.os := fun d os => Calls.regrown_of (KM0.out _)
    go_wp2_with fail
    refine wp_region_quiet_below (by kernel_rfl) (by kernel_rfl) ?_
    repeat (go_big_quiet_step (with_reducible exact NN _ _))
    refine wpQuiet_nil ?_
    intro _ hw'
    obtain ⟨⟨dq, osq⟩, hw''⟩ := hw'
    subst hw''
    obtain ⟨v1, HX1⟩ : ∃ x, Hid (x = grow (redrawn wr dq) osq) := ⟨_, rfl⟩
    have KB1 : Hid (Below wr.heap.size wr v1) := by show Below _ _ _; rw [HX1.out]; exact below2 KB0.out (below_regrown wr dq osq)
    rw [← HX1.out]
    clear y0 Y NN
    obtain ⟨_, y1, _, _, _, _, _, _, _, _, _, _, _⟩ := KC.out v1 KB1.out
    have Y : ∀ d os, (grow (redrawn v1 d) os).cell? ⟨b1, f1 + c * 13 + 1, none⟩ = _ := fun d os => cell_regrown y1 d os
    have NN : ∀ d os, Calls Try.prog 37 #[.int .i64 (o1 : Int)] (grow (redrawn v1 d) os) fun e w' => e = .returned (.string s1) ∧ ∃ p : Regrown, w' = grow (redrawn v1 p.d) p.os := fun d os => Calls.regrown_of (KM1.out _)
    go_wp2_with fail
    refine wp_region_quiet_below (by kernel_rfl) (by kernel_rfl) ?_
    repeat (go_big_quiet_step (with_reducible exact NN _ _))
    refine wpQuiet_nil ?_
    intro _ hw'
    obtain ⟨⟨dq, osq⟩, hw''⟩ := hw'
    subst hw''
    obtain ⟨v2, HX2⟩ : ∃ x, Hid (x = grow (redrawn v1 dq) osq) := ⟨_, rfl⟩
    have KB2 : Hid (Below wr.heap.size wr v2) := by show Below _ _ _; rw [HX2.out]; exact below2 KB1.out (below_regrown v1 dq osq)
    rw [← HX2.out]
    clear y1 Y NN
    obtain ⟨_, _, y2, y3, y4, _, _, _, _, _, _, _, _⟩ := KC.out v2 KB2.out
    go_wp2_with fail
    clear y2 y3 y4
    obtain ⟨_, _, _, _, _, y5, _, _, _, _, _, _, _⟩ := KC.out v2 KB2.out
    have Y : ∀ d os, (grow (redrawn v2 d) os).cell? ⟨b1, f1 + c * 13 + 5, none⟩ = _ := fun d os => cell_regrown y5 d os
    have NN : ∀ d os, Calls Try.prog 37 #[.int .i64 (o5 : Int)] (grow (redrawn v2 d) os) fun e w' => e = .returned (.string s5) ∧ ∃ p : Regrown, w' = grow (redrawn v2 p.d) p.os := fun d os => Calls.regrown_of (KM5.out _)
    refine wp_region_quiet_below (by kernel_rfl) (by kernel_rfl) ?_
    repeat (go_big_quiet_step (with_reducible exact NN _ _))
    refine wpQuiet_nil ?_
    intro _ hw'
    obtain ⟨⟨dq, osq⟩, hw''⟩ := hw'
    subst hw''
    obtain ⟨v3, HX3⟩ : ∃ x, Hid (x = grow (redrawn v2 dq) osq) := ⟨_, rfl⟩
    have KB3 : Hid (Below wr.heap.size wr v3) := by show Below _ _ _; rw [HX3.out]; exact below2 KB2.out (below_regrown v2 dq osq)
    rw [← HX3.out]
    clear y5 Y NN
    obtain ⟨_, _, _, _, _, _, y6, _, _, _, _, _, _⟩ := KC.out v3 KB3.out
    go_wp2_with fail
    refine Calls.mono (KT.out _ KB3.out) ?_
    rintro e v4 ⟨rfl, b4⟩
    have KB4 : Hid (Below wr.heap.size wr v4) := below2 KB3.out b4
    clear y6 b4
    obtain ⟨_, _, _, _, _, _, _, y7, y8, y9, y10, y11, y12⟩ := KC.out v4 KB4.out
    go_wp2_with fail
    refine Calls.mono (KE.out _ KB4.out) ?_
    rintro e v5 ⟨rfl, hw⟩
    obtain rfl := hw.symm
    clear hw
    go_wp2_with fail
    refine Calls.mono (KZ.out _ KB4.out) ?_
    rintro e v5 ⟨rfl, hw⟩
    obtain rfl := hw.symm
    clear hw
    go_wp2
    go_roundw
    case rel => exact ⟨c + 1, o13, by omega, by go_num, by go_num, HNX2.out, below2 KBr.out KB4.out⟩
    case measure => simp [intOf]; omega
end Go.Proofs.Ytpomffkpjldloaa
