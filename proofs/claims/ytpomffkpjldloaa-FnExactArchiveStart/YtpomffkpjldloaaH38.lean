/- Marks laid into lists of nodes and into nets, and asked for. Conditions: lists of at most 2^20. Written by mkmarkn.py. -/
import Derived.Test.YtpomffkpjldloaaH36
import Derived.Test.YtpomffkpjldloaaH33
import Derived.Test.YtpomffkpjldloaaH32
namespace Go.Proofs.Ytpomffkpjldloaa
set_option maxRecDepth 2000
open Go.ChangeShapes Go.WideShapes Go.ChangeAt Go.RowKit

theorem markSls_0 (a : Option Addr) (cap k : Nat) (w : World) : Calls Try.prog 45 #[.slice a 0 cap, .int .i64 (k : Int)] w fun e w' => e = .returned (.int .i64 (k : Int)) ∧ w' = w := by
  go_enter Try.func45, Try.ntmps45
  go_wp2
  go_loopw [1, 5] (fun vk vi wr => vk = .int .i64 (k : Int) ∧ vi = .int .i64 0 ∧ wr = w) (fun _ _ _ => 0)
  case atStart => exact ⟨rfl, rfl, rfl⟩
  case round =>
    obtain ⟨rfl, rfl, hw⟩ := hrel
    obtain rfl := hw.symm
    go_wp2
    go_ret
    exact ⟨rfl, rfl⟩
theorem markSys_0 (a : Option Addr) (cap k : Nat) (w : World) : Calls Try.prog 36 #[.slice a 0 cap, .int .i64 (k : Int)] w fun e w' => e = .returned (.int .i64 (k : Int)) ∧ w' = w := by
  go_enter Try.func36, Try.ntmps36
  go_wp2
  go_loopw [1, 5] (fun vk vi wr => vk = .int .i64 (k : Int) ∧ vi = .int .i64 0 ∧ wr = w) (fun _ _ _ => 0)
  case atStart => exact ⟨rfl, rfl, rfl⟩
  case round =>
    obtain ⟨rfl, rfl, hw⟩ := hrel
    obtain rfl := hw.symm
    go_wp2
    go_ret
    exact ⟨rfl, rfl⟩
theorem markNds_0 (a : Option Addr) (cap k : Nat) (w : World) : Calls Try.prog 35 #[.slice a 0 cap, .int .i64 (k : Int)] w fun e w' => e = .returned (.int .i64 (k : Int)) ∧ w' = w := by
  go_enter Try.func35, Try.ntmps35
  go_wp2
  go_loopw [1, 5] (fun vk vi wr => vk = .int .i64 (k : Int) ∧ vi = .int .i64 0 ∧ wr = w) (fun _ _ _ => 0)
  case atStart => exact ⟨rfl, rfl, rfl⟩
  case round =>
    obtain ⟨rfl, rfl, hw⟩ := hrel
    obtain rfl := hw.symm
    go_wp2
    go_ret
    exact ⟨rfl, rfl⟩
/-- The two shapes of a list that is ours. -/
theorem ow_shape {w : World} {B t sz n : Nat} {D : Nat → Nat → Dt} {v : Value} {F : Nat → Prop} (h : Ow w B (.lst t sz n D) v F) : (v = .slice none 0 0 ∧ n = 0) ∨ ∃ g cap, v = .slice (some ⟨g, 0, none⟩) n cap := by
  obtain ⟨a, cap, c, G, rfl, ho, _⟩ := h
  rcases ho.2 with ⟨h0, hz⟩ | ⟨g, cap', cur, e, _⟩
  · exact .inl ⟨h0, hz⟩
  · exact .inr ⟨g, cap', e⟩
/-- Marks over a list of slots, by data. -/
theorem markD_sls (B : Nat) (v : Value) (n : Nat) (S : Nat → Sl) (k : Nat) (F : Nat → Prop) (w : World) (h : Ow w B (slsD n S) v F) (hn : n ≤ 1048576) (hm : ∀ i, i < n → SlS (S i)) (hk : k + tot (fun i => wkS (S i)) n ≤ 40000000) :
    Calls Try.prog 45 #[v, .int .i64 (k : Int)] w fun e w' => e = .returned (.int .i64 ((k + tot (fun i => wkS (S i)) n : Nat) : Int)) ∧ Ow w' B (slsD n (mkL k S)) v F ∧ Trn w w' F := by
  rcases ow_shape h with ⟨rfl, rfl⟩ | ⟨g, cap, rfl⟩
  · refine (markSls_0 none 0 k w).mono ?_
    rintro e w' ⟨rfl, rfl⟩
    exact ⟨rfl, Ow.nil _ _ _ _ _ _, Trn.refl _ _⟩
  · exact markSlsF_any B g n cap F S k w h hn hm hk
theorem markD_sys (B : Nat) (v : Value) (n : Nat) (S : Nat → Sy) (k : Nat) (F : Nat → Prop) (w : World) (h : Ow w B (sysD n S) v F) (hn : n ≤ 1048576) (hm : ∀ i, i < n → (S i).p.m ≤ 1048576) (hk : ofy k S n ≤ 40000000) :
    Calls Try.prog 36 #[v, .int .i64 (k : Int)] w fun e w' => e = .returned (.int .i64 ((ofy k S n : Nat) : Int)) ∧ Ow w' B (sysD n (mkdY k S)) v F ∧ Trn w w' F := by
  rcases ow_shape h with ⟨rfl, rfl⟩ | ⟨g, cap, rfl⟩
  · refine (markSys_0 none 0 k w).mono ?_
    rintro e w' ⟨rfl, rfl⟩
    exact ⟨rfl, Ow.nil _ _ _ _ _ _, Trn.refl _ _⟩
  · exact markSysF_any B g n cap F S k w h hn hm hk
/-- How many marks a node takes; a node, marked. -/
def wkN (d : Nd) : Nat := 2 + tot (fun i => wkS (d.S i)) d.n
def mkNd (o : Nat) (d : Nd) : Nd := ⟨(o : Int), ((o + 1 : Nat) : Int), d.n, mkL (o + 2) d.S⟩
def mkNL (k : Nat) (N : Nat → Nd) (i : Nat) : Nd := mkNd (k + tot (fun i => wkN (N i)) i) (N i)
set_option maxHeartbeats 8000000 in
theorem markNdsF_any (B g n cap : Nat) (F : Nat → Prop) (N : Nat → Nd) (k : Nat) (w : World) (h : Ow w B (ndsD n N) (.slice (some ⟨g, 0, none⟩) n cap) F) (hn : n ≤ 1048576) (hm : ∀ i, i < n → NdS (N i)) (hk : k + tot (fun i => wkN (N i)) n ≤ 40000000) :
    Calls Try.prog 35 #[.slice (some ⟨g, 0, none⟩) n cap, .int .i64 (k : Int)] w fun e w' => e = .returned (.int .i64 ((k + tot (fun i => wkN (N i)) n : Nat) : Int)) ∧ Ow w' B (ndsD n (mkNL k N)) (.slice (some ⟨g, 0, none⟩) n cap) F ∧ Trn w w' F := by
  obtain ⟨G, hsep, hmk⟩ := Ow.mk h
  have KS : Hid (Sep (some ⟨g, 0, none⟩) n 3 G F) := hsep
  have HG : Hid (F g) := hsep.head _ rfl
  have K0 : Hid (MkS w B 52 3 g n cap G (fun i => ndD (if i < 0 then mkNL k N i else N i))) := hmk.congr (fun i q _ _ => by simp)
  have HM : Hid (∀ i, i < n → NdS (N i)) := hm
  have HK : Hid (k + tot (fun i => wkN (N i)) n ≤ 40000000) := hk
  clear h hm hsep hmk hk
  go_enter Try.func35, Try.ntmps35
  go_wp2
  go_loopw [1, 5] (fun vk vi wr => ∃ (c x : Nat), c ≤ n ∧ vk = .int .i64 (x : Int) ∧ vi = .int .i64 (c : Int) ∧ Hid (x = k + tot (fun i => wkN (N i)) c ∧ MkS wr B 52 3 g n cap G (fun i => ndD (if i < c then mkNL k N i else N i)) ∧ Trn w wr F)) (fun _ vi _ => n - (intOf vi).toNat)
  case atStart => exact ⟨0, k, Nat.zero_le _, rfl, rfl, rfl, K0.out, Trn.refl _ _⟩
  case round =>
    obtain ⟨c, o0, hcn, rfl, rfl, KO⟩ := hrel
    clear K0
    by_cases hlt : c < n
    case neg =>
      obtain rfl : c = n := by omega
      have HF : Hid (Ow wr B (ndsD c (mkNL k N)) (.slice (some ⟨g, 0, none⟩) c cap) F) := (KO.out.2.1.congr (fun i q hi _ => by simp only [hi, if_true])).ow KS.out
      go_wp2
      go_ret
      exact ⟨ret_int (by have := KO.out.1; omega), HF.out, KO.out.2.2⟩
    have hki : (c : Int) < (n : Int) := by omega
    have hsc := HM.out c hlt
    obtain ⟨wk, HWK⟩ : ∃ x, Hid (tot (fun i => wkS ((N c).S i)) (N c).n = x) := ⟨_, rfl⟩
    obtain ⟨o1, Ho1⟩ : ∃ x, Hid (x = o0 + 1) := ⟨_, rfl⟩
    obtain ⟨o2, Ho2⟩ : ∃ x, Hid (x = o1 + 1) := ⟨_, rfl⟩
    obtain ⟨o3, Ho3⟩ : ∃ x, Hid (o2 + wk = x) := ⟨_, rfl⟩
    have HNX : Hid (o3 = k + tot (fun i => wkN (N i)) (c + 1)) := by
      show _ = k + (tot (fun i => wkN (N i)) c + wkN (N c))
      have h1 := KO.out.1
      have h2 : wkN (N c) = 2 + wk := by unfold wkN; rw [HWK.out]
      rw [h2]
      have := Ho1.out; have := Ho2.out; have := Ho3.out
      omega
    have UB : Hid (o3 ≤ 40000000) := by
      have h2 : tot (fun i => wkN (N i)) c + wkN (N c) ≤ tot (fun i => wkN (N i)) n := tot_step (g := fun i => wkN (N i)) hlt
      have h3 := HK.out
      have h4 := HNX.out
      have h5 : tot (fun i => wkN (N i)) (c + 1) = tot (fun i => wkN (N i)) c + wkN (N c) := rfl
      show o3 ≤ _
      omega
    have e1 : (o0 : Int) + 1 = (o1 : Int) := by have := Ho1.out; omega
    have e2 : (o1 : Int) + 1 = (o2 : Int) := by have := Ho2.out; omega
    have u0 : o0 ≤ 40000000 := by have := UB.out; have := Ho1.out; have := Ho2.out; have := Ho3.out; omega
    have u1 : o1 ≤ 40000000 := by have := UB.out; have := Ho2.out; have := Ho3.out; omega
    have u2 : o2 ≤ 40000000 := by have := UB.out; have := Ho3.out; omega
    obtain ⟨x0v, x0, f0, _⟩ := MkS.cell KO.out.2.1 hlt (show 0 < 3 by omega)
    obtain ⟨x1v, x1, f1, _⟩ := MkS.cell KO.out.2.1 hlt (show 1 < 3 by omega)
    simp only [Nat.add_zero] at x0 f0
    obtain ⟨W1, HW1⟩ : ∃ x, Hid (x = (wr.setCell ⟨g, c * 3, none⟩ (.int .i64 (o0 : Int))).setCell ⟨g, c * 3 + 1, none⟩ (.int .i64 (o1 : Int))) := ⟨_, rfl⟩
    have M1 := MkS.set KO.out.2.1 KS.out hlt (show 0 < 3 by omega) (.int .i64 (o0 : Int))
    rw [Nat.add_zero] at M1
    have M1 := MkS.set M1 KS.out hlt (show 1 < 3 by omega) (.int .i64 (o1 : Int))
    rw [← HW1.out] at M1
    have KK1 : Hid (MkS W1 B 52 3 g n cap G _ ∧ Trn w W1 F) := ⟨M1, by rw [HW1.out]; exact (KO.out.2.2.trans (Trn.set _ (c * 3) _ HG.out)).trans (Trn.set _ (c * 3 + 1) _ HG.out)⟩
    clear M1
    obtain ⟨v2, x2, _, h2⟩ := MkS.cell KK1.out.1 hlt (show 2 < 3 by omega)
    have HD2 : Hid (Ow W1 B (slsD (N c).n (N c).S) v2 (G c 2)) := by
      have := h2
      simp [ndD] at this
      exact this
    have KMS : Hid _ := markD_sls B v2 (N c).n (N c).S o2 (G c 2) W1 HD2.out hsc.n hsc.s (by rw [HWK.out, Ho3.out]; have := UB.out; omega)
    rw [HWK.out, Ho3.out] at KMS
    obtain ⟨a2, c2, e2'⟩ := HD2.out.rd.shape
    subst e2'
    have X2 : Hid (W1.cell? ⟨g, c * 3 + 2, none⟩ = some (.slice a2 (N c).n c2)) := x2
    have y2 : wr.cell? ⟨g, c * 3 + 2, none⟩ = some (.slice a2 (N c).n c2) := by
      have h1 := x2
      rw [HW1.out, World.cell?_setCell_other _ _ _ _ (by simp), World.cell?_setCell_other _ _ _ _ (by simp)] at h1
      exact h1
    clear h2 x2 hsc
    go_wp2_with fail
    rw [← HW1.out]
    refine Calls.mono KMS.out ?_
    rintro e w2 ⟨rfl, hR, hT⟩
    have M2 := MkS.turn KK1.out.1 KS.out hlt (show 2 < 3 by omega) X2.out hR hT
    have HN : Hid (MkS w2 B 52 3 g n cap G (fun i => ndD (if i < c + 1 then mkNL k N i else N i)) ∧ Trn w w2 F) := by
      refine ⟨MkS.congr M2 fun i q hi hq => ?_, KK1.out.2.trans (hT.mono (fun x hx => KS.out.sub c 2 x hlt (by omega) hx))⟩
      show _ = ndD (if i < c + 1 then mkNL k N i else N i) q
      by_cases ei : i = c
      · subst ei
        have hd : mkNL k N i = ⟨(o0 : Int), (o1 : Int), (N i).n, mkL o2 (N i).S⟩ := by
          have z0 : k + tot (fun i => wkN (N i)) i = o0 := KO.out.1.symm
          have z1 : o0 + 1 = o1 := Ho1.out.symm
          have z2 : o0 + 2 = o2 := by have := Ho2.out; omega
          unfold mkNL mkNd
          rw [z0, z1, z2]
        rw [if_pos (show i < i + 1 by omega), hd]
        match q, hq with
        | 0, _ | 1, _ | 2, _ => simp [ndD]
      · by_cases e3 : i < c
        · rw [if_pos (show i < c + 1 by omega)]
          simp [ei, e3]
        · rw [if_neg (show ¬ i < c + 1 by omega)]
          simp [ei, e3]
    clear M2 hR hT KMS x0 f0 x1 f1 y2
    go_wp2
    go_roundw
    case rel => exact ⟨c + 1, o3, by omega, by go_num, by go_num, HNX.out, HN.out.1, HN.out.2⟩
    case measure => simp [intOf]; omega
set_option maxHeartbeats 8000000 in
theorem heldNdsF_any (a : Option Addr) (n cap : Nat) (N : Nat → Nd) (k : Nat) (w : World) (h : Rd w (ndsD n (mkNL k N)) (.slice a n cap)) (hn : n ≤ 1048576) (hm : ∀ i, i < n → NdS (N i)) (hk : k + tot (fun i => wkN (N i)) n ≤ 40000000) :
    Calls Try.prog 38 #[.slice a n cap, .int .i64 (k : Int)] w fun e w' => e = .returned (.int .i64 ((k + tot (fun i => wkN (N i)) n : Nat) : Int)) ∧ Below w.heap.size w w' := by
  have KH : Hid (Rd w (ndsD n (mkNL k N)) (.slice a n cap)) := h
  have HM : Hid (∀ i, i < n → NdS (N i)) := hm
  have HK : Hid (k + tot (fun i => wkN (N i)) n ≤ 40000000) := hk
  clear h hm hk
  go_enter Try.func38, Try.ntmps38
  go_wp2
  go_loopw [1, 5] (fun vk vi wr => ∃ (c x : Nat), c ≤ n ∧ vk = .int .i64 (x : Int) ∧ vi = .int .i64 (c : Int) ∧ Hid (x = k + tot (fun i => wkN (N i)) c) ∧ Below w.heap.size w wr) (fun _ vi _ => n - (intOf vi).toNat)
  case atStart => exact ⟨0, k, Nat.zero_le _, rfl, rfl, rfl, Below.refl _ _⟩
  case round =>
    obtain ⟨c, o0, hcn, rfl, rfl, HO, hbel⟩ := hrel
    by_cases hlt : c < n
    case neg =>
      obtain rfl : c = n := by omega
      go_wp2
      go_ret
      exact ⟨ret_int (by have := HO.out; omega), hbel⟩
    have hki : (c : Int) < (n : Int) := by omega
    have hsc := HM.out c hlt
    obtain ⟨wk, HWK⟩ : ∃ x, Hid (tot (fun i => wkS ((N c).S i)) (N c).n = x) := ⟨_, rfl⟩
    obtain ⟨o1, Ho1⟩ : ∃ x, Hid (x = o0 + 1) := ⟨_, rfl⟩
    obtain ⟨o2, Ho2⟩ : ∃ x, Hid (x = o1 + 1) := ⟨_, rfl⟩
    obtain ⟨o3, Ho3⟩ : ∃ x, Hid (o2 + wk = x) := ⟨_, rfl⟩
    have HNX : Hid (o3 = k + tot (fun i => wkN (N i)) (c + 1)) := by
      show _ = k + (tot (fun i => wkN (N i)) c + wkN (N c))
      have h1 := HO.out
      have h2 : wkN (N c) = 2 + wk := by unfold wkN; rw [HWK.out]
      rw [h2]
      have := Ho1.out; have := Ho2.out; have := Ho3.out
      omega
    have UB : Hid (o3 ≤ 40000000) := by
      have h2 : tot (fun i => wkN (N i)) c + wkN (N c) ≤ tot (fun i => wkN (N i)) n := tot_step (g := fun i => wkN (N i)) hlt
      have h3 := HK.out
      have h4 := HNX.out
      have h5 : tot (fun i => wkN (N i)) (c + 1) = tot (fun i => wkN (N i)) c + wkN (N c) := rfl
      show o3 ≤ _
      omega
    have e1 : (o0 : Int) + 1 = (o1 : Int) := by have := Ho1.out; omega
    have e2 : (o1 : Int) + 1 = (o2 : Int) := by have := Ho2.out; omega
    have u0 : o0 ≤ 40000000 := by have := UB.out; have := Ho1.out; have := Ho2.out; have := Ho3.out; omega
    have u1 : o1 ≤ 40000000 := by have := UB.out; have := Ho2.out; have := Ho3.out; omega
    have u2 : o2 ≤ 40000000 := by have := UB.out; have := Ho3.out; omega
    have n0 : ((o0 : Int) != (o0 : Int)) = false := by simp
    have n1 : ((o1 : Int) != (o1 : Int)) = false := by simp
    have g3 : ¬ ((o3 : Int) < 0) := by omega
    have hd : mkNL k N c = ⟨(o0 : Int), (o1 : Int), (N c).n, mkL o2 (N c).S⟩ := by
      have z0 : k + tot (fun i => wkN (N i)) c = o0 := HO.out.symm
      have z1 : o0 + 1 = o1 := Ho1.out.symm
      have z2 : o0 + 2 = o2 := by have := Ho2.out; omega
      unfold mkNL mkNd
      rw [z0, z1, z2]
    obtain ⟨b1, f1, an, cn, rfl, ⟨y0, y1, y2⟩, _, hr1⟩ := node_at (KH.out.below hbel) hlt
    rw [hd] at y0 y1 y2 hr1
    simp only at y0 y1 y2 hr1
    have KHs : Hid _ := heldSlsF_any an (N c).n cn (N c).S o2 wr hr1 hsc.n hsc.s (by rw [HWK.out, Ho3.out]; exact UB.out)
    rw [HWK.out, Ho3.out] at KHs
    have KBr : Hid (Below w.heap.size w wr) := hbel
    clear hr1 hd hsc hbel KH
    go_wp2_with fail
    refine Calls.mono KHs.out ?_
    rintro e v1 ⟨rfl, b1'⟩
    have KB1 : Hid (Below w.heap.size w v1) := below2 KBr.out b1'
    clear b1' y0 y1 y2 KHs
    go_wp2
    go_roundw
    case rel => exact ⟨c + 1, o3, by omega, by go_num, by go_num, HNX.out, KB1.out⟩
    case measure => simp [intOf]; omega
end Go.Proofs.Ytpomffkpjldloaa
