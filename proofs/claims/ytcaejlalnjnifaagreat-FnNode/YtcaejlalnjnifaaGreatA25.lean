import Derived.Test.YtcaejlalnjnifaaGreatA23
import Derived.Test.YtcaejlalnjnifaaGreatA8
import Derived.Test.YtcaejlalnjnifaaGreatA4
import Derived.Deep.CutRange
set_option maxHeartbeats 8000000
set_option maxRecDepth 2000
open Go.ChangeShapes Go.WideShapes Go.ChangeAt Go.RowKit
namespace Go.Proofs.YtcaejlalnjnifaaGreat
theorem samePc_same (r : ByteArray) (k n i : Int) (b : ByteArray) (a a' : Option Addr) (m ca ca' : Nat) (S : Nat → ByteArray) (w : World) (h : TxtAt w a m S) (h' : TxtAt w a' m S) (hm : m ≤ 1048576) :
  Calls Tryz.prog 16 #[pcV r k n i b (.slice a m ca), pcV r k n i b (.slice a' m ca')] w fun e w' => e = .returned (.bool true) ∧ Below w.heap.size w w' := by
 obtain ⟨w0, HW0⟩ : ∃ x, Hid (x = (w.alloc (.cells (pcC r k n i b (.slice a m ca)) 29)).alloc (.cells (pcC r k n i b (.slice a' m ca')) 29)) := ⟨_, rfl⟩
 have hb0 : Below w.heap.size w w0 := by rw [HW0.out]; exact ((Below.refl _ _).alloc (Nat.le_refl _) _).alloc (by simp) _
 have HB0 : Hid (Below w.heap.size w w0) := hb0
 have KE : Hid _ := sameT_same a a' m ca ca' S w0 (h.below hb0) (h'.below hb0) hm
 have hf1 : (r.toList == r.toList) = true := by simp
 have hf2 := ba_beq r
 have hf3 : (b.toList == b.toList) = true := by simp
 have hf4 := ba_beq b
 have hf5 : (k == k) = true := by simp
 have hf6 : (n == n) = true := by simp
 have hf7 : (i == i) = true := by simp
 clear h h' hb0
 go_enter Tryz.func16, Tryz.ntmps16
 go_wp2_with fail
 rw [← HW0.out]
 refine Calls.mono KE.out ?_
 rintro e w1 ⟨rfl, b1⟩
 go_wp2
 go_ret
 exact ⟨rfl, below2 HB0.out b1⟩
theorem sameSy_same (s : Sy) (a9 b9 : Option Addr) (c9 d9 : Nat) (w : World) (h9 : TxtAt w a9 s.p.m s.p.S) (k9 : TxtAt w b9 s.p.m s.p.S) (hs : s.p.m ≤ 1048576) :
  Calls Tryz.prog 56 #[syV s (.slice a9 s.p.m c9), syV s (.slice b9 s.p.m d9)] w fun e w' => e = .returned (.bool true) ∧ Below w.heap.size w w' := by
 obtain ⟨sk, sf, st, sr, p⟩ := s
 obtain ⟨rr, kk, nn, ii, bb, m, S⟩ := p
 simp only at h9 k9 hs
 obtain ⟨w0, HW0⟩ : ∃ x, Hid (x = (w.alloc (.cells (syC ⟨sk, sf, st, sr, ⟨rr, kk, nn, ii, bb, m, S⟩⟩ (.slice a9 m c9)) 31)).alloc (.cells (syC ⟨sk, sf, st, sr, ⟨rr, kk, nn, ii, bb, m, S⟩⟩ (.slice b9 m d9)) 31)) := ⟨_, rfl⟩
 have hb0 : Below w.heap.size w w0 := by rw [HW0.out]; exact ((Below.refl _ _).alloc (Nat.le_refl _) _).alloc (by simp) _
 have HB0 : Hid (Below w.heap.size w w0) := hb0
 have KE : Hid _ := samePc_same rr kk nn ii bb a9 b9 m c9 d9 S w0 (h9.below hb0) (k9.below hb0) hs
 have f0 : (sr.toList == sr.toList) = true := by simp
 have f0' := ba_beq sr
 have f1 : (sk == sk) = true := by simp
 have f2 : (sf == sf) = true := by simp
 have f3 : (st == st) = true := by simp
 clear h9 k9 hs hb0
 go_enter Tryz.func56, Tryz.ntmps56
 go_wp2_with fail
 rw [← HW0.out]
 refine Calls.mono KE.out ?_
 rintro e w1 ⟨rfl, b1⟩
 go_wp2
 go_ret
 exact ⟨rfl, below2 HB0.out b1⟩
theorem sameSys_same (a b : Option Addr) (n ca cb : Nat) (S : Nat → Sy) (w : World) (ha : Rd w (sysD n S) (.slice a n ca)) (hb : Rd w (sysD n S) (.slice b n cb)) (hn : n ≤ 1048576) (hs : ∀ i, i < n → (S i).p.m ≤ 1048576) :
  Calls Tryz.prog 12 #[.slice a n ca, .slice b n cb] w fun e w' => e = .returned (.bool true) ∧ Below w.heap.size w w' := by
 have KH : Hid (Rd w (sysD n S) (.slice a n ca) ∧ Rd w (sysD n S) (.slice b n cb)) := ⟨ha, hb⟩
 have HS : Hid (∀ i, i < n → (S i).p.m ≤ 1048576) := hs
 have hnn : ((n : Int) != (n : Int)) = false := by simp
 clear ha hb hs
 go_enter Tryz.func12, Tryz.ntmps12
 go_wp2
 go_loopw [5] (fun vi wr => ∃ c : Nat, c ≤ n ∧ vi = .int .i64 (c : Int) ∧ Below w.heap.size w wr) (fun vi _ => n - (intOf vi).toNat)
 case atStart => exact ⟨0, Nat.zero_le _, rfl, Below.refl _ _⟩
 case round =>
  obtain ⟨c, hcn, rfl, hbel⟩ := hrel
  by_cases hlt : c < n
  ·have hki : (c : Int) < (n : Int) := by omega
   obtain ⟨b1, f1, y1, p9, q9, rfl, hc1, e1, ht1⟩ := say_row (KH.out.1.below hbel) hlt
   obtain ⟨b2, f2, y2, s9, t9, rfl, hc2, e2, ht2⟩ := say_row (KH.out.2.below hbel) hlt
   have hsc := HS.out c hlt
   have KT : Hid (∀ W, Below wr.heap.size wr W → Calls Tryz.prog 56 #[ag10 y1, ag10 y2] W fun e w' => e = .returned (.bool true) ∧ Below W.heap.size W w') := fun W hW => by
    rw [e1, e2]
    exact sameSy_same (S c) p9 s9 q9 t9 W (ht1.below hW) (ht2.below hW) hsc
   have KS : Hid (∀ W, Below wr.heap.size wr W → W.cell? ⟨b1, f1 + c * 10, none⟩ = some (y1 0) ∧ (∀ q, q < 10 → W.cell? ⟨b1, f1 + c * 10 + q, none⟩ = some (y1 q)) ∧ W.cell? ⟨b2, f2 + c * 10, none⟩ = some (y2 0) ∧ (∀ q, q < 10 → W.cell? ⟨b2, f2 + c * 10 + q, none⟩ = some (y2 q))) := fun W hW => two_rows W hW hc1 hc2
   have KB : Hid (Below w.heap.size w wr) := hbel
   have hdr := below_drew wr
   clear hc1 hc2 ht1 ht2 hbel e1 e2 hsc
   go_wp2_with fail
   go_region_held3 (fun w' => w'.cell? ⟨b1, f1 + c * 10, none⟩ = some (y1 0) ∧ (∀ q, q < 10 → w'.cell? ⟨b1, f1 + c * 10 + q, none⟩ = some (y1 q)) ∧ w'.cell? ⟨b2, f2 + c * 10, none⟩ = some (y2 0) ∧ (∀ q, q < 10 → w'.cell? ⟨b2, f2 + c * 10 + q, none⟩ = some (y2 q))) (exact KS.out _ (by assumption)) ((go_at_call 56; refine Calls.mono (KT.out _ hdr) ?_; rintro e w7 ⟨rfl, b7'⟩; have b7 := below_of_drew b7'; clear b7'))
   all_goals
    have HB7 : Hid (Below w.heap.size w w7) := below2 KB.out b7
    clear b7
    go_wp2
    go_roundw
    case rel => exact ⟨c + 1, by omega, by go_num, HB7.out⟩
    case measure => simp [intOf]; omega
  ·go_wp2
   go_ret
   exact ⟨rfl, hbel⟩
theorem txt_news {w : World} {ad : Addr} {m : Nat} {S : Nat → ByteArray} (h : TxtAt w (some ad) m S) : ∀ (j : Nat) (u : Value), (sL S m)[j]? = some u → w.cell? (ad.add j) = some u := fun j u hu => by
 have hj : j < m := by
  have := (List.getElem?_eq_some_iff.1 hu).1
  rw [sL_len] at this
  exact this
 obtain ⟨b, off, e, hc⟩ := h j hj
 cases e
 have ea : (⟨b, off, none⟩ : Addr).add j = ⟨b, off + j, none⟩ := by unfold Addr.add; split <;> simp_all
 rw [ea, hc, ← hu, sL_get _ _ _ hj]
theorem sCopyP_any (r : ByteArray) (k n i : Int) (b : ByteArray) (a : Option Addr) (m c : Nat) (S : Nat → ByteArray) (w : World) (h : TxtAt w a m S) (hm : m ≤ 1048576) :
  Calls Tryz.prog 52 #[pcV r k n i b (.slice a m c)] w fun e w' => ∃ g c', e = .returned (pcV r k n i b (.slice (some ⟨g, 0, none⟩) m c')) ∧ OwnT w' w.heap.size (some ⟨g, 0, none⟩) m c' S ∧ Below w.heap.size w w' := by
 obtain ⟨i0, hi, hz0, hz1, hz2⟩ := info_parts Tryz.infoStr
 obtain ⟨A, HA⟩ : ∃ x, Hid (x = w.heap.size) := ⟨_, rfl⟩
 obtain ⟨D, HD⟩ : ∃ x, Hid (x = w.heap.size + 1) := ⟨_, rfl⟩
 obtain ⟨G, HG⟩ : ∃ x, Hid (x = w.heap.size + 1 + 1) := ⟨_, rfl⟩
 obtain ⟨w0, HW0⟩ : ∃ x, Hid (x = ((w.alloc (.cells (pcC r k n i b (.slice a m c)) 29)).alloc (.cells #[.string ⟨#[]⟩, .int .i64 0, .int .i64 0, .int .i64 0, .string ⟨#[]⟩, .slice none 0 0] 29)).alloc (.cells #[] 9)) := ⟨_, rfl⟩
 have RA : Hid (Row w0 A 29 (pcC r k n i b (.slice a m c))) := by show Row _ _ _ _; rw [HW0.out, HA.out]; exact Row.alloc (Row.alloc (Row.new w _ _) _) _
 have RD : Hid (Row w0 D 29 #[.string ⟨#[]⟩, .int .i64 0, .int .i64 0, .int .i64 0, .string ⟨#[]⟩, .slice none 0 0]) := by
  show Row _ _ _ _
  rw [HW0.out, HD.out]
  have := Row.new (w.alloc (.cells (pcC r k n i b (.slice a m c)) 29)) #[.string ⟨#[]⟩, .int .i64 0, .int .i64 0, .int .i64 0, .string ⟨#[]⟩, .slice none 0 0] 29
  exact Row.alloc (by simpa using this) _
 have hb0 : Below w.heap.size w w0 := by rw [HW0.out]; exact (((Below.refl _ _).alloc (Nat.le_refl _) _).alloc (by simp) _).alloc (by simp; omega) _
 have KB0 : Hid (Below w.heap.size w w0) := hb0
 have HO : Hid (w0.ownsRow G 9 1 (.slice (some ⟨G, 0, none⟩) 0 0) 0 []) := by
  show World.ownsRow _ _ _ _ _ _ _
  rw [HW0.out, HG.out]
  have := World.ownsRow_lit (e := 9) (size := 1) (base := ((w.alloc (.cells (pcC r k n i b (.slice a m c)) 29)).alloc (.cells #[.string ⟨#[]⟩, .int .i64 0, .int .i64 0, .int .i64 0, .string ⟨#[]⟩, .slice none 0 0] 29)).heap.size) ((w.alloc (.cells (pcC r k n i b (.slice a m c)) 29)).alloc (.cells #[.string ⟨#[]⟩, .int .i64 0, .int .i64 0, .int .i64 0, .string ⟨#[]⟩, .slice none 0 0] 29)) #[] 0 (by simp) (by unfold maxLen; omega) (by simp)
  simpa using this
 have HL : Hid (A ≠ D ∧ w.heap.size ≤ A ∧ w.heap.size ≤ D ∧ A < G ∧ D < G ∧ w.heap.size ≤ G ∧ G ≤ w0.heap.size) := by
  have h1 := HA.out; have h2 := HD.out; have h3 := HG.out
  have h4 := (World.ownsRow.lt HO.out G rfl).2
  exact ⟨by omega, by omega, by omega, by omega, by omega, by omega, by omega⟩
 have FIN : Hid (∀ (W : World) (g c' : Nat), Row W A 29 (pcC r k n i b (.slice a m c)) → Row W D 29 #[.string ⟨#[]⟩, .int .i64 0, .int .i64 0, .int .i64 0, .string ⟨#[]⟩, .slice none 0 0] → OwnT W G (some ⟨g, 0, none⟩) m c' S → Below w.heap.size w W → Row (W.setCell ⟨A, 5, none⟩ (.slice (some ⟨g, 0, none⟩) m c')) A 29 (pcC r k n i b (.slice (some ⟨g, 0, none⟩) m c')) ∧ Row (W.setCell ⟨A, 5, none⟩ (.slice (some ⟨g, 0, none⟩) m c')) D 29 #[.string ⟨#[]⟩, .int .i64 0, .int .i64 0, .int .i64 0, .string ⟨#[]⟩, .slice none 0 0] ∧ Row ((W.setCell ⟨A, 5, none⟩ (.slice (some ⟨g, 0, none⟩) m c')).setRow D (pcC r k n i b (.slice (some ⟨g, 0, none⟩) m c'))) D 29 (pcC r k n i b (.slice (some ⟨g, 0, none⟩) m c')) ∧ OwnT ((W.setCell ⟨A, 5, none⟩ (.slice (some ⟨g, 0, none⟩) m c')).setRow D (pcC r k n i b (.slice (some ⟨g, 0, none⟩) m c'))) w.heap.size (some ⟨g, 0, none⟩) m c' S ∧ Below w.heap.size w ((W.setCell ⟨A, 5, none⟩ (.slice (some ⟨g, 0, none⟩) m c')).setRow D (pcC r k n i b (.slice (some ⟨g, 0, none⟩) m c')))) := fun W g c' h1 h2 h3 h4 => by
  have l := World.ownsRow.lt h3 g rfl
  refine ⟨h1.set 5 _, h2.other 5 _ (Ne.symm HL.out.1), (h2.other 5 _ (Ne.symm HL.out.1)).row, ?_, belowSetRow (h4.setCell HL.out.2.1 _) HL.out.2.2.1 _⟩
  refine own_kept (OwnT.base (h3.setFar HL.out.2.2.2.1) HL.out.2.2.2.2.2.1) (grown_row _ _ _) (fun x e => ?_)
  cases e
  show g ≠ D
  have := HL.out.2.2.2.2.1
  omega
 have x5 := RA.out.cell 5
 have f5 := RA.out.free 5
 have lA := RA.out.lt
 simp at x5
 match a, h with
 | none, h =>
  have e0 : m = 0 := by
   by_cases h0 : m = 0
   ·exact h0
   ·obtain ⟨b', off, e, _⟩ := h 0 (by omega)
    cases e
  subst e0
  clear h hb0
  go_enter Tryz.func52, Tryz.ntmps52
  go_wp2_with fail
  refine bodyPost_ret (v := pcV r k n i b (.slice (some ⟨w.heap.size + 1 + 1, 0, none⟩) 0 0)) (by simp [results, Tryz.results52, go_sem]) rfl ⟨w.heap.size + 1 + 1, 0, rfl, ?_, (((Below.refl _ _).alloc (Nat.le_refl _) _).alloc (by simp) _).alloc (by simp; omega) _⟩
  have := World.ownsRow_lit (e := 9) (size := 1) (base := w.heap.size) ((w.alloc (.cells (pcC r k n i b (.slice (some ⟨w.heap.size + 1 + 1, 0, none⟩) 0 0)) 29)).alloc (.cells (pcC r k n i b (.slice (some ⟨w.heap.size + 1 + 1, 0, none⟩) 0 0)) 29)) #[] 0 (by simp; omega) (by unfold maxLen; omega) (by simp)
  unfold OwnT
  simpa [sL] using this
 | some ad, h =>
  have HNW : Hid (∀ (j : Nat) (u : Value), (sL S m)[j]? = some u → w0.cell? (ad.add j) = some u) := fun j u hu => by
   have := txt_news h j u hu
   rw [hb0.cell (block_lt_of_cell this)]
   exact this
  have HLL : Hid ((sL S m).length = m * 1) := by show _ = _; rw [sL_len]; omega
  have HONE : Hid (∀ u ∈ sL S m, u.oneCell' = true) := by
   show ∀ u ∈ sL S m, _
   intro u hu
   obtain ⟨j, hj⟩ := List.getElem?_of_mem hu
   have hjm : j < m := by have := (List.getElem?_eq_some_iff.1 hj).1; rw [sL_len] at this; exact this
   rw [sL_get _ _ _ hjm] at hj
   cases hj
   rfl
  clear h hb0
  go_enter Tryz.func52, Tryz.ntmps52
  go_wp2_with (first | (at_builtin; rw [← HW0.out, ← HG.out, ← HD.out, ← HA.out]; refine wpList_append_all _ (by rfl) _ _ 27 (by rfl) G 9 i0 (.string ByteArray.empty) 1 16 Tryz.underlying27 hi hz0 hz1 hz2 rfl (by decide) G 0 0 [] (by rfl) ?_ ad m c (sL S m) (by rfl) ?_ ?_ ?_ (by unfold maxLen; omega) (by omega) ?_ ?_; exact HO.out; exact HLL.out; exact HNW.out; exact HONE.out; exact HL.out.2.2.2.2.2.2; intro g3 cap3 w3 hown3 hgrow3; have bG : Below G w0 w3 := (Below.refl _ _).grown hgrow3 HL.out.2.2.2.2.2.2 (fun x hx => by cases hx; exact Nat.le_refl _); have KK3 : Row w3 A 29 (pcC r k n i b (.slice (some ad) m c)) ∧ Row w3 D 29 #[.string ⟨#[]⟩, .int .i64 0, .int .i64 0, .int .i64 0, .string ⟨#[]⟩, .slice none 0 0] ∧ OwnT w3 G (some ⟨g3, 0, none⟩) m cap3 S ∧ Below w.heap.size w w3 := ⟨RA.out.below bG HL.out.2.2.2.1, RD.out.below bG HL.out.2.2.2.2.1, (by have := hown3; unfold OwnT; simpa using this), KB0.out.grown hgrow3 KB0.out.size (fun x hx => by cases hx; exact HL.out.2.2.2.2.2.1)⟩; have y5 := KK3.1.cell 5; have g5 := KK3.1.free 5; simp at y5; have KD3 : Hid _ := KK3; clear hown3 hgrow3 bG KK3 x5 f5) | (refine wpList_load_row (by rfl) 29 _ (by rfl) A (by rfl) 29 (pcC r k n i b (.slice (some ⟨g3, 0, none⟩) m cap3)) (0, 0) _ ?_ Tryz.underlying29 (by rfl) Tryz.infoPc ?_; exact (FIN.out w3 g3 cap3 KD3.out.1 KD3.out.2.1 KD3.out.2.2.1 KD3.out.2.2.2).1) | (refine wpList_store_row (by rfl) 29 _ _ (by rfl) D (pcC r k n i b (.slice (some ⟨g3, 0, none⟩) m cap3)) (by rfl) (by rfl) 29 #[.string ⟨#[]⟩, .int .i64 0, .int .i64 0, .int .i64 0, .string ⟨#[]⟩, .slice none 0 0] ?_ Tryz.infoPc rfl (by simp [Value.oneCell']) ?_; exact (FIN.out w3 g3 cap3 KD3.out.1 KD3.out.2.1 KD3.out.2.2.1 KD3.out.2.2.2).2.1))
  have KF := FIN.out w3 g3 cap3 KD3.out.1 KD3.out.2.1 KD3.out.2.2.1 KD3.out.2.2.2
  exact bodyPost_ret (v := pcV r k n i b (.slice (some ⟨g3, 0, none⟩) m cap3)) (results_cell_row Tryz.results52 _ _ D 29 _ (0, 0) _ (by rfl) KF.2.2.1 Tryz.underlying29 (by rfl) Tryz.infoPc) rfl ⟨g3, cap3, rfl, KF.2.2.2.1, KF.2.2.2.2⟩
end Go.Proofs.YtcaejlalnjnifaaGreat
