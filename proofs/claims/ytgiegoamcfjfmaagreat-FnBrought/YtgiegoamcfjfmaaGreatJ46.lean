/- What a slot comes to by a ready that was heard, in the program. Conditions: lists and texts of at most 2^20. Written by mkse.py. -/
import Derived.Test.YtgiegoamcfjfmaaGreatJ44
import Derived.Test.YtgiegoamcfjfmaaGreatJ45
import Derived.Test.YtgiegoamcfjfmaaGreatJ42
namespace Go.Proofs.YtgiegoamcfjfmaaGreat
set_option maxRecDepth 2000
open Go.ChangeShapes Go.WideShapes Go.ChangeAt Go.RowKit

set_option maxHeartbeats 8000000 in
theorem settle2n_any (id f : Int) (B Hb g n cap p : Nat) (S : Nat → Sl) (sa : Option Addr) (m sc : Nat) (Y : Nat → Sy) (F1 F2 : Nat → Prop) (st : Int) (w : World) (h : Hr w B Hb id f g n cap p S sa m sc Y F1 F2) (hf : 1 ≤ f ∧ f ≤ 3) (hp : p < n) (hst : stI f (S p).ze.length (S p).zr.length = st) (hn : st < 1 ∨ (S p).d = true) :
    Calls Tryz.prog 138 #[.pointer (some ⟨Hb, 0, none⟩), .int .i64 2] w fun e w' => e = .returned (.tuple #[]) ∧ ∃ F1', Hr w' B Hb id f g n cap p (slDn S p ((S p).o || decide (2 ≤ st))) sa m sc Y F1' F2 ∧ Trn w w' (fun x => x = Hb ∨ F1 x ∨ F2 x) ∧ ∀ x, F1' x → F1 x ∨ w.heap.size ≤ x := by
  obtain ⟨b1, o1, y, a6, a11, a12, c6, c11, c12, e1, hc, ey, _, _, _⟩ := slot_row h.o.rd hp
  cases e1
  have KH : Hid (Hr w B Hb id f g n cap p S sa m sc Y F1 F2) := h
  have HP : Hid (p < n) := hp
  have KS : Hid (∀ W, Below w.heap.size w W → (W.cell? ⟨Hb, 0, none⟩ = some (.int .i64 id) ∧ W.cell? ⟨Hb, 1, none⟩ = some (.int .i64 f) ∧ W.cell? ⟨Hb, 2, none⟩ = some (.slice (some ⟨g, 0, none⟩) n cap) ∧ W.cell? ⟨Hb, 3, none⟩ = some (.pointer (some ⟨g, p * 13, none⟩))) ∧ W.cell? ⟨g, p * 13, none⟩ = some (y 0) ∧ ∀ q, q < 13 → W.cell? ⟨g, p * 13 + q, none⟩ = some (y q)) := fun W hW => by
    have r := (KH.out.below hW).r
    have z0 := r.cell 0
    have z1 := r.cell 1
    have z2 := r.cell 2
    have z3 := r.cell 3
    simp at z0 z1 z2 z3
    have hq : ∀ q, q < 13 → W.cell? ⟨g, p * 13 + q, none⟩ = some (y q) := fun q hq => by
      have h1 := hc q hq
      rw [Nat.zero_add] at h1
      exact (hW.cell (block_lt_of_cell h1)).trans h1
    exact ⟨⟨z0, z1, z2, z3⟩, hq 0 (by omega), hq⟩
  have KT : Hid (∀ W, Calls Tryz.prog 158 #[ndV id f (.slice (some ⟨g, 0, none⟩) n cap), ag13 y] W fun e w' => e = .returned (.int .i64 st) ∧ Below W.heap.size W w') := fun W => by
    rw [ey, ← hst]
    exact stateOf_any id f _ (S p) _ a11 a12 _ _ c11 c12 W hf
  have hdr := below_drew w
  have yd : Hid (y 9 = .bool (S p).d) := by
    show y 9 = .bool (S p).d
    have := ag13_list ey
    simp at this
    exact this.2.2.2.2.2.2.2.2.2.1
  have yo : Hid (y 10 = .bool (S p).o) := by
    show y 10 = .bool (S p).o
    have := ag13_list ey
    simp at this
    exact this.2.2.2.2.2.2.2.2.2.2.1
  obtain ⟨bo, HBO⟩ : ∃ x, Hid ((S p).o = x) := ⟨_, rfl⟩
  obtain ⟨bn, HBN⟩ : ∃ x, Hid (((S p).o || decide (2 ≤ st)) = x) := ⟨_, rfl⟩
  rw [HBN.out]
  clear h hc ey hst hf hp
  go_enter Tryz.func138, Tryz.ntmps138
  go_wp2_with fail
  go_region_held3 (fun w' => (w'.cell? ⟨Hb, 0, none⟩ = some (.int .i64 id) ∧ w'.cell? ⟨Hb, 1, none⟩ = some (.int .i64 f) ∧ w'.cell? ⟨Hb, 2, none⟩ = some (.slice (some ⟨g, 0, none⟩) n cap) ∧ w'.cell? ⟨Hb, 3, none⟩ = some (.pointer (some ⟨g, p * 13, none⟩))) ∧ w'.cell? ⟨g, p * 13, none⟩ = some (y 0) ∧ ∀ q, q < 13 → w'.cell? ⟨g, p * 13 + q, none⟩ = some (y q)) (exact KS.out _ (by assumption)) ((go_at_call 158; refine Calls.mono (KT.out _) ?_; rintro e w7 ⟨rfl, b7'⟩; have b7 := below_of_drew b7'; clear b7'))
  obtain ⟨⟨_, _, _, z3⟩, _, hz⟩ := KS.out _ b7
  have z10 := hz 10 (by omega)
  have ydo := yd.out
  have yoo := yo.out
  rw [HBO.out] at yoo
  rw [yoo] at z10
  obtain ⟨_, _, f10, _⟩ := (KH.out.below b7).slotc HP.out 10 (by omega)
  obtain ⟨w8, HW8⟩ : ∃ x, Hid (x = (w7.setCell ⟨g, p * 13 + 10, none⟩ (.bool bn)).drew) := ⟨_, rfl⟩
  obtain ⟨F1', q8', q9, q10'⟩ := (KH.out.below b7).flag HP.out 10 (by omega) bn (slDn_D S p bn)
  have q8 : Hr w8 B Hb id f g n cap p (slDn S p bn) sa m sc Y F1' F2 := by rw [HW8.out]; exact q8'.below (below_drew _)
  have q10 : Trn w7 w8 F1 := by rw [HW8.out]; exact q10'.trans (Trn.drew _ _)
  have K8 : Hid (Below w.heap.size w w7 ∧ (∀ x, F1' x → F1 x ∨ w7.heap.size ≤ x) ∧ Trn w7 w8 F1 ∧ Hr w8 B Hb id f g n cap p (slDn S p bn) sa m sc Y F1' F2) := ⟨b7, q9, q10, q8⟩
  have x3 := q8.r.cell 3
  simp at x3
  obtain ⟨v9, x9, g9, r9⟩ := q8.slotc HP.out 9 (by omega)
  have e9 : v9 = .bool (S p).d := by
    have e : (slDn S p bn p).d = (S p).d := by unfold slDn; rw [if_pos rfl]
    have := r9
    simp only [slD, Rd, e] at this
    exact this
  rw [e9] at x9
  clear hz b7 q8 q9 q10 q8' q10' r9 e9
  have KZ : Hid (∃ F1', Hr w8 B Hb id f g n cap p (slDn S p bn) sa m sc Y F1' F2 ∧ Trn w w8 (fun x => x = Hb ∨ F1 x ∨ F2 x) ∧ ∀ x, F1' x → F1 x ∨ w.heap.size ≤ x) := by
    have s7 := K8.out.1.size
    refine ⟨F1', K8.out.2.2.2, (Trn.ofBelow _ K8.out.1).trans (K8.out.2.2.1.mono (fun x k => .inr (.inl k))), fun x k => ?_⟩
    rcases K8.out.2.1 x k with k | k
    · exact .inl k
    · exact .inr (by omega)
  have hbn : Hid ((bo || decide (2 ≤ st)) = bn) := by rw [← HBO.out]; exact HBN
  cases bo with
  | true =>
    obtain rfl : bn = true := by rw [← hbn.out]; rfl
    go_upto_region 4 with fail
    go_region
    all_goals
      go_upto_region 5 with fail
      rw [← HW8.out]
      clear z3 z10 f10
      by_cases hs : 1 ≤ st
      · have hd : (S p).d = true := by rcases hn with h | h; omega; exact h
        rw [hd] at x9
        clear hn
        go_wp2
        go_end0
        exact ⟨rfl, KZ.out⟩
      · clear hn x9
        go_wp2
        go_end0
        exact ⟨rfl, KZ.out⟩
  | false =>
    have hbe : decide (2 ≤ st) = bn := by rw [← hbn.out]; simp
    by_cases h2 : 2 ≤ st
    · obtain rfl : bn = true := by rw [← hbe]; exact decide_eq_true h2
      clear hbe
      go_upto_region 4 with fail
      go_region
      all_goals
        go_upto_region 5 with fail
        rw [← HW8.out]
        clear z3 z10 f10
        by_cases hs : 1 ≤ st
        · have hd : (S p).d = true := by rcases hn with h | h; omega; exact h
          rw [hd] at x9
          clear hn
          go_wp2
          go_end0
          exact ⟨rfl, KZ.out⟩
        · clear hn x9
          go_wp2
          go_end0
          exact ⟨rfl, KZ.out⟩
    · obtain rfl : bn = false := by rw [← hbe]; exact decide_eq_false h2
      clear hbe
      go_upto_region 4 with fail
      go_region
      all_goals
        go_upto_region 5 with fail
        rw [← HW8.out]
        clear z3 z10 f10
        by_cases hs : 1 ≤ st
        · have hd : (S p).d = true := by rcases hn with h | h; omega; exact h
          rw [hd] at x9
          clear hn
          go_wp2
          go_end0
          exact ⟨rfl, KZ.out⟩
        · clear hn x9
          go_wp2
          go_end0
          exact ⟨rfl, KZ.out⟩
set_option maxHeartbeats 8000000 in
theorem settle2y_any (id f : Int) (B Hb g n cap p : Nat) (S : Nat → Sl) (sa : Option Addr) (m sc : Nat) (Y : Nat → Sy) (F1 F2 : Nat → Prop) (n3 : Nat) (st : Int) (w : World) (h : Hr w B Hb id f g n cap p S sa m sc Y F1 F2) (hf : 1 ≤ f ∧ f ≤ 3) (hp : p < n) (hst : stI f (S p).ze.length (S p).zr.length = st) (hs : 1 ≤ st) (hd0 : (S p).d = false) (hm : m ≤ 1048576) (hr : (S p).r.size ≤ 1048576) (hn3 : (n3 : Int) = 3 * f + 1) :
    Calls Tryz.prog 138 #[.pointer (some ⟨Hb, 0, none⟩), .int .i64 2] w fun e w' => e = .returned (.tuple #[]) ∧ ∃ sa' sc' F1' F2', Hr w' B Hb id f g n cap p (slRy (slDn S p ((S p).o || decide (2 ≤ st))) p) sa' (m + n3) sc' (syM Y m 2 id (S p).r) F1' F2' ∧ Trn w w' (fun x => x = Hb ∨ F1 x ∨ F2 x) ∧ (∀ x, F1' x → F1 x ∨ w.heap.size ≤ x) ∧ ∀ x, F2' x → F2 x ∨ w.heap.size ≤ x := by
  obtain ⟨b1, o1, y, a6, a11, a12, c6, c11, c12, e1, hc, ey, _, _, _⟩ := slot_row h.o.rd hp
  cases e1
  have KH : Hid (Hr w B Hb id f g n cap p S sa m sc Y F1 F2) := h
  have HP : Hid (p < n) := hp
  have KS : Hid (∀ W, Below w.heap.size w W → (W.cell? ⟨Hb, 0, none⟩ = some (.int .i64 id) ∧ W.cell? ⟨Hb, 1, none⟩ = some (.int .i64 f) ∧ W.cell? ⟨Hb, 2, none⟩ = some (.slice (some ⟨g, 0, none⟩) n cap) ∧ W.cell? ⟨Hb, 3, none⟩ = some (.pointer (some ⟨g, p * 13, none⟩))) ∧ W.cell? ⟨g, p * 13, none⟩ = some (y 0) ∧ ∀ q, q < 13 → W.cell? ⟨g, p * 13 + q, none⟩ = some (y q)) := fun W hW => by
    have r := (KH.out.below hW).r
    have z0 := r.cell 0
    have z1 := r.cell 1
    have z2 := r.cell 2
    have z3 := r.cell 3
    simp at z0 z1 z2 z3
    have hq : ∀ q, q < 13 → W.cell? ⟨g, p * 13 + q, none⟩ = some (y q) := fun q hq => by
      have h1 := hc q hq
      rw [Nat.zero_add] at h1
      exact (hW.cell (block_lt_of_cell h1)).trans h1
    exact ⟨⟨z0, z1, z2, z3⟩, hq 0 (by omega), hq⟩
  have KT : Hid (∀ W, Calls Tryz.prog 158 #[ndV id f (.slice (some ⟨g, 0, none⟩) n cap), ag13 y] W fun e w' => e = .returned (.int .i64 st) ∧ Below W.heap.size W w') := fun W => by
    rw [ey, ← hst]
    exact stateOf_any id f _ (S p) _ a11 a12 _ _ c11 c12 W hf
  have hdr := below_drew w
  have yd : Hid (y 9 = .bool (S p).d) := by
    show y 9 = .bool (S p).d
    have := ag13_list ey
    simp at this
    exact this.2.2.2.2.2.2.2.2.2.1
  have yo : Hid (y 10 = .bool (S p).o) := by
    show y 10 = .bool (S p).o
    have := ag13_list ey
    simp at this
    exact this.2.2.2.2.2.2.2.2.2.2.1
  obtain ⟨bo, HBO⟩ : ∃ x, Hid ((S p).o = x) := ⟨_, rfl⟩
  obtain ⟨bn, HBN⟩ : ∃ x, Hid (((S p).o || decide (2 ≤ st)) = x) := ⟨_, rfl⟩
  rw [HBN.out]
  have hd : Hid ((S p).d = false) := hd0
  clear hd0
  have KSA : Hid (∀ W F1', Hr W B Hb id f g n cap p (slRy (slDn S p bn) p) sa m sc Y F1' F2 → Calls Tryz.prog 178 #[.pointer (some ⟨Hb, 0, none⟩), .int .i64 2] W fun e w' => e = .returned (.tuple #[]) ∧ ∃ sa' sc' F2', Hr w' B Hb id f g n cap p (slRy (slDn S p bn) p) sa' (m + n3) sc' (syM Y m 2 id (S p).r) F1' F2' ∧ Trn W w' (fun x => x = Hb ∨ F2 x) ∧ ∀ x, F2' x → F2 x ∨ W.heap.size ≤ x) := fun W F1' hW => by
    have er : (slRy (slDn S p bn) p p).r = (S p).r := by unfold slRy slDn; simp
    have := sayToAll_any 2 id f B Hb g n cap p (slRy (slDn S p bn) p) sa m sc Y F1' F2 n3 W hW hf hp hm (by rw [er]; exact hr) hn3
    rw [er] at this
    exact this
  clear h hc ey hst hf hp hr hn3
  go_enter Tryz.func138, Tryz.ntmps138
  go_wp2_with fail
  go_region_held3 (fun w' => (w'.cell? ⟨Hb, 0, none⟩ = some (.int .i64 id) ∧ w'.cell? ⟨Hb, 1, none⟩ = some (.int .i64 f) ∧ w'.cell? ⟨Hb, 2, none⟩ = some (.slice (some ⟨g, 0, none⟩) n cap) ∧ w'.cell? ⟨Hb, 3, none⟩ = some (.pointer (some ⟨g, p * 13, none⟩))) ∧ w'.cell? ⟨g, p * 13, none⟩ = some (y 0) ∧ ∀ q, q < 13 → w'.cell? ⟨g, p * 13 + q, none⟩ = some (y q)) (exact KS.out _ (by assumption)) ((go_at_call 158; refine Calls.mono (KT.out _) ?_; rintro e w7 ⟨rfl, b7'⟩; have b7 := below_of_drew b7'; clear b7'))
  obtain ⟨⟨_, _, _, z3⟩, _, hz⟩ := KS.out _ b7
  have z10 := hz 10 (by omega)
  have ydo := yd.out
  have yoo := yo.out
  rw [HBO.out] at yoo
  rw [yoo] at z10
  obtain ⟨_, _, f10, _⟩ := (KH.out.below b7).slotc HP.out 10 (by omega)
  obtain ⟨w8, HW8⟩ : ∃ x, Hid (x = (w7.setCell ⟨g, p * 13 + 10, none⟩ (.bool bn)).drew) := ⟨_, rfl⟩
  obtain ⟨F1', q8', q9, q10'⟩ := (KH.out.below b7).flag HP.out 10 (by omega) bn (slDn_D S p bn)
  have q8 : Hr w8 B Hb id f g n cap p (slDn S p bn) sa m sc Y F1' F2 := by rw [HW8.out]; exact q8'.below (below_drew _)
  have q10 : Trn w7 w8 F1 := by rw [HW8.out]; exact q10'.trans (Trn.drew _ _)
  have K8 : Hid (Below w.heap.size w w7 ∧ (∀ x, F1' x → F1 x ∨ w7.heap.size ≤ x) ∧ Trn w7 w8 F1 ∧ Hr w8 B Hb id f g n cap p (slDn S p bn) sa m sc Y F1' F2) := ⟨b7, q9, q10, q8⟩
  have x3 := q8.r.cell 3
  simp at x3
  obtain ⟨v9, x9, g9, r9⟩ := q8.slotc HP.out 9 (by omega)
  have e9 : v9 = .bool (S p).d := by
    have e : (slDn S p bn p).d = (S p).d := by unfold slDn; rw [if_pos rfl]
    have := r9
    simp only [slD, Rd, e] at this
    exact this
  rw [e9, hd.out] at x9
  clear hz b7 q8 q9 q10 q8' q10' r9 e9
  obtain ⟨w9, HW9⟩ : ∃ x, Hid (x = w8.setCell ⟨g, p * 13 + 9, none⟩ (.bool true)) := ⟨_, rfl⟩
  obtain ⟨F1x, q8, q9, q10⟩ := K8.out.2.2.2.flag HP.out 9 (by omega) true (slRy_D (slDn S p bn) p)
  rw [← HW9.out] at q8 q10
  have K9 : Hid ((∀ x, F1x x → F1' x ∨ w8.heap.size ≤ x) ∧ Trn w8 w9 F1') := ⟨q9, q10⟩
  have KC9 : Hid _ := KSA.out w9 F1x q8
  have KFIN : Hid (∀ wz sa' sc' F2', Hr wz B Hb id f g n cap p (slRy (slDn S p bn) p) sa' (m + n3) sc' (syM Y m 2 id (S p).r) F1x F2' → Trn w9 wz (fun x => x = Hb ∨ F2 x) → (∀ x, F2' x → F2 x ∨ w9.heap.size ≤ x) → ∃ sa' sc' F1' F2', Hr wz B Hb id f g n cap p (slRy (slDn S p bn) p) sa' (m + n3) sc' (syM Y m 2 id (S p).r) F1' F2' ∧ Trn w wz (fun x => x = Hb ∨ F1 x ∨ F2 x) ∧ (∀ x, F1' x → F1 x ∨ w.heap.size ≤ x) ∧ ∀ x, F2' x → F2 x ∨ w.heap.size ≤ x) := fun wz sa' sc' F2' hz tz hFz => by
    have s7 := K8.out.1.size
    have s8 := K8.out.2.2.1.size
    have s9 := K9.out.2.size
    have t89 : Trn w w9 (fun x => x = Hb ∨ F1 x ∨ F2 x) := by
      have t8 : Trn w w8 (fun x => x = Hb ∨ F1 x ∨ F2 x) := (Trn.ofBelow _ K8.out.1).trans (K8.out.2.2.1.mono (fun x k => .inr (.inl k)))
      refine ⟨K9.out.2.os.trans t8.os, K9.out.2.tape.trans t8.tape, K9.out.2.output.trans t8.output, Nat.le_trans t8.size K9.out.2.size, fun j hj hn => ?_⟩
      refine (K9.out.2.block j (Nat.lt_of_lt_of_le hj t8.size) (fun k => ?_)).trans (t8.block j hj hn)
      rcases K8.out.2.1 j k with k | k
      · exact hn (.inr (.inl k))
      · omega
    refine ⟨sa', sc', F1x, F2', hz, t89.trans (tz.mono (fun x k => by rcases k with k | k; exact .inl k; exact .inr (.inr k))), fun x k => ?_, fun x k => ?_⟩
    · rcases K9.out.1 x k with k | k
      · rcases K8.out.2.1 x k with k | k
        · exact .inl k
        · exact .inr (by omega)
      · exact .inr (by omega)
    · rcases hFz x k with k | k
      · exact .inl k
      · exact .inr (by omega)
  clear q8 q9 q10
  have hbn : Hid ((bo || decide (2 ≤ st)) = bn) := by rw [← HBO.out]; exact HBN
  cases bo with
  | true =>
    obtain rfl : bn = true := by rw [← hbn.out]; rfl
    go_upto_region 4 with fail
    go_region
    all_goals
      go_upto_region 5 with fail
      rw [← HW8.out]
      clear z3 z10 f10
      go_wp2_with fail
      rw [← HW9.out]
      refine Calls.mono KC9.out ?_
      rintro e wz ⟨rfl, sa', sc', F2', hz, tz, hFz⟩
      have KZ : Hid _ := KFIN.out wz sa' sc' F2' hz tz hFz
      clear hz tz hFz
      go_wp2
      go_end0
      exact ⟨rfl, KZ.out⟩
  | false =>
    have hbe : decide (2 ≤ st) = bn := by rw [← hbn.out]; simp
    by_cases h2 : 2 ≤ st
    · obtain rfl : bn = true := by rw [← hbe]; exact decide_eq_true h2
      clear hbe
      go_upto_region 4 with fail
      go_region
      all_goals
        go_upto_region 5 with fail
        rw [← HW8.out]
        clear z3 z10 f10
        go_wp2_with fail
        rw [← HW9.out]
        refine Calls.mono KC9.out ?_
        rintro e wz ⟨rfl, sa', sc', F2', hz, tz, hFz⟩
        have KZ : Hid _ := KFIN.out wz sa' sc' F2' hz tz hFz
        clear hz tz hFz
        go_wp2
        go_end0
        exact ⟨rfl, KZ.out⟩
    · obtain rfl : bn = false := by rw [← hbe]; exact decide_eq_false h2
      clear hbe
      go_upto_region 4 with fail
      go_region
      all_goals
        go_upto_region 5 with fail
        rw [← HW8.out]
        clear z3 z10 f10
        go_wp2_with fail
        rw [← HW9.out]
        refine Calls.mono KC9.out ?_
        rintro e wz ⟨rfl, sa', sc', F2', hz, tz, hFz⟩
        have KZ : Hid _ := KFIN.out wz sa' sc' F2' hz tz hFz
        clear hz tz hFz
        go_wp2
        go_end0
        exact ⟨rfl, KZ.out⟩
end Go.Proofs.YtgiegoamcfjfmaaGreat
/- What is heard of a root, in the program: the slot, the hearer and the thresholds. Conditions: lists and texts of at most 2^20. Written by mkhear.py. -/
namespace Go.Proofs.YtgiegoamcfjfmaaGreat
set_option maxRecDepth 2000
open Go.ChangeShapes Go.WideShapes Go.ChangeAt Go.RowKit

theorem Tryz.infoF3 : (Tryz.prog.info? 175).map (·.size) = some 3 := by kernel_rfl
/-- A hearing behind something: its slots and what was said are as told; only its own blocks have turned. -/
def HrX (w W : World) (B Hb : Nat) (id f : Int) (g n cap p : Nat) (S : Nat → Sl) (m : Nat) (Y : Nat → Sy) (F1 F2 : Nat → Prop) : Prop :=
  ∃ sa sc F1' F2', Hr W B Hb id f g n cap p S sa m sc Y F1' F2' ∧ Trn w W (fun x => x = Hb ∨ F1 x ∨ F2 x) ∧ (∀ x, F1' x → F1 x ∨ w.heap.size ≤ x) ∧ ∀ x, F2' x → F2 x ∨ w.heap.size ≤ x
/-- What a step of hearing does: from slots and sayings to others, whatever their memory. -/
def Step (n : Nat) (fn : Nat) (arg : Value) (B Hb : Nat) (id f : Int) (p : Nat) (S S' : Nat → Sl) (m m' : Nat) (Y Y' : Nat → Sy) (wE : World) : Prop :=
  ∀ W g cap sa sc F1 F2, Below B wE W → Hr W B Hb id f g n cap p S sa m sc Y F1 F2 → Calls Tryz.prog fn #[.pointer (some ⟨Hb, 0, none⟩), arg] W fun e w' => e = .returned (.tuple #[]) ∧ HrX W w' B Hb id f g n cap p S' m' Y' F1 F2
theorem Nw.turned {W W' : World} {B Nb : Nat} {id f : Int} {g n cap : Nat} {S S' : Nat → Sl} {F1 F1' : Nat → Prop} (h : Nw W B Nb id f g n cap S F1) {F : Nat → Prop} (t : Trn W W' F) (hN : ¬ F Nb) (o : Ow W' B (slsD n S') (.slice (some ⟨g, 0, none⟩) n cap) F1') (hF : ∀ x, F1' x → (F1 x ∨ W.heap.size ≤ x) ∧ x < W'.heap.size) : Nw W' B Nb id f g n cap S' F1' :=
  ⟨(t.block Nb h.r.lt hN).trans h.r, o, fun k => by rcases (hF Nb k).1 with k | k; exact h.h1 k; have := h.r.lt; omega, ⟨h.b.1, Nat.le_trans h.b.2 t.size⟩, fun x k => ⟨by rcases (hF x k).1 with k | k; exact (h.l1 x k).1; have := h.b.2; omega, (hF x k).2⟩⟩
/-- A turn of blocks that are old ones or new ones is one of the old ones. -/
theorem Trn.join {w w2 w3 : World} {F G : Nat → Prop} (t1 : Trn w w2 F) (t2 : Trn w2 w3 G) (hG : ∀ x, G x → F x ∨ w.heap.size ≤ x) : Trn w w3 F := by
  refine ⟨t2.os.trans t1.os, t2.tape.trans t1.tape, t2.output.trans t1.output, Nat.le_trans t1.size t2.size, fun j hj hn => ?_⟩
  refine (t2.block j (Nat.lt_of_lt_of_le hj t1.size) (fun k => ?_)).trans (t1.block j hj hn)
  rcases hG j k with k | k
  · exact hn k
  · omega
/-- The end of hearing: the node and what was said. -/
def Heard (w W : World) (B Nb : Nat) (id f : Int) (n : Nat) (S : Nat → Sl) (m : Nat) (Y : Nat → Sy) (F1 : Nat → Prop) (v : Value) : Prop :=
  ∃ g cap sa sc F1' F2', v = .slice sa m sc ∧ Nw W B Nb id f g n cap S F1' ∧ Ow W B (sysD m Y) (.slice sa m sc) F2' ∧ (∀ x, F1' x → ¬ F2' x) ∧ ¬ F2' Nb ∧ Trn w W (fun x => x = Nb ∨ F1 x) ∧ (∀ x, F1' x → F1 x ∨ w.heap.size ≤ x) ∧ ∀ x, F2' x → w.heap.size ≤ x ∧ x < W.heap.size
end Go.Proofs.YtgiegoamcfjfmaaGreat
/- What is heard of a root, of kind 0, in the program. Conditions: lists and texts of at most 2^20. Written by mkhear.py. -/
namespace Go.Proofs.YtgiegoamcfjfmaaGreat
set_option maxRecDepth 2000
open Go.ChangeShapes Go.WideShapes Go.ChangeAt Go.RowKit

set_option maxHeartbeats 8000000 in
theorem hear0_any (id f : Int) (B Nb g n cap : Nat) (S S1 S2 : Nat → Sl) (y : Sy) (a9 : Option Addr) (c9 m1 m2 : Nat) (Y0 Y1 Y2 : Nat → Sy) (F1 : Nat → Prop) (w : World) (h : Nw w B Nb id f g n cap S F1) (hn : n ≤ 1048576) (hr : y.r.size ≤ 1048576) (hk : y.k = 0)
    (wE : World) (hE : Below B wE w)
    (s1 : ∀ Hb, Step (hrN S y.r n) 134 (syV y (.slice a9 y.p.m c9)) B Hb id f (plN S y.r n) (slF S y.r n) S1 0 m1 Y0 Y1 wE)
    (s2 : ∀ Hb, Step (hrN S y.r n) 138 (.int .i64 0) B Hb id f (plN S y.r n) S1 S2 m1 m2 Y1 Y2 wE) :
    Calls Tryz.prog 75 #[.pointer (some ⟨Nb, 0, none⟩), syV y (.slice a9 y.p.m c9)] w fun e w' => ∃ v, e = .returned v ∧ Heard w w' B Nb id f (hrN S y.r n) S2 m2 Y2 F1 v := by
  obtain ⟨A, HA⟩ : ∃ x, Hid (x = w.heap.size) := ⟨_, rfl⟩
  obtain ⟨R, HR⟩ : ∃ x, Hid (x = w.heap.size + 1) := ⟨_, rfl⟩
  obtain ⟨p, HPp⟩ : ∃ x, Hid (plN S y.r n = x) := ⟨_, rfl⟩
  obtain ⟨n', HNn⟩ : ∃ x, Hid (hrN S y.r n = x) := ⟨_, rfl⟩
  obtain ⟨wn, HWN⟩ : ∃ x, Hid (x = (w.alloc (.cells (syC y (.slice a9 y.p.m c9)) 41)).alloc (.cells #[.nilFunc, .nilFunc, .nilFunc] 175)) := ⟨_, rfl⟩
  have RAn : Row wn A 41 (syC y (.slice a9 y.p.m c9)) := by rw [HWN.out, HA.out]; exact Row.alloc (Row.new w _ _) _
  have RRn : Hid (Row wn R 175 #[.nilFunc, .nilFunc, .nilFunc]) := by
    show Row _ _ _ _
    rw [HWN.out, HR.out]
    have := Row.new (w.alloc (.cells (syC y (.slice a9 y.p.m c9)) 41)) #[.nilFunc, .nilFunc, .nilFunc] 175
    simpa using this
  have hbn : Below w.heap.size w wn := by rw [HWN.out]; exact ((Below.refl _ _).alloc (Nat.le_refl _) _).alloc (by simp) _
  obtain ⟨w0, HW0⟩ : ∃ x, Hid (x = wn.setRow R #[.func (.func 134) #[] #[], .func (.func 135) #[] #[], .func (.func 136) #[] #[]]) := ⟨_, rfl⟩
  have RA : Hid (Row w0 A 41 (syC y (.slice a9 y.p.m c9))) := by show Row _ _ _ _; rw [HW0.out]; exact RAn.otherRow (by have := HA.out; have := HR.out; omega)
  have RR : Hid (Row w0 R 175 #[.func (.func 134) #[] #[], .func (.func 135) #[] #[], .func (.func 136) #[] #[]]) := by show Row _ _ _ _; rw [HW0.out]; exact RRn.out.row
  have hb0 : Below w.heap.size w w0 := by rw [HW0.out]; exact belowSetRow hbn (by have := HR.out; omega) _
  have KB0 : Hid (Below w.heap.size w w0) := hb0
  have HL : Hid (w.heap.size ≤ A ∧ A < w0.heap.size ∧ R < w0.heap.size ∧ w.heap.size ≤ R ∧ Nb < w.heap.size ∧ ∀ x, F1 x → x < w.heap.size) := ⟨by have := HA.out; omega, RA.out.lt, RR.out.lt, by have := HR.out; omega, h.r.lt, fun x k => (h.l1 x k).2⟩
  have KE : Hid (Below B wE w ∧ B ≤ Nb ∧ (∀ x, F1 x → B ≤ x) ∧ B ≤ w.heap.size) := ⟨hE, h.b.1, fun x k => (h.l1 x k).1, h.b.2⟩
  have HKk : Hid (y.k = 0) := hk
  have KNF : Hid (¬ F1 Nb) := h.h1
  have KSF : Hid _ := slotFor_any id f B Nb g n cap S y.r F1 w0 (h.below hb0) hn hr
  rw [HPp.out, HNn.out] at s2
  rw [HNn.out]
  have KS1 : Hid (∀ Hb, Step n' 134 (syV y (.slice a9 y.p.m c9)) B Hb id f p (slF S y.r n) S1 0 m1 Y0 Y1 wE) := by rw [← HPp.out, ← HNn.out]; exact s1
  have KS2 : Hid (∀ Hb, Step n' 138 (.int .i64 0) B Hb id f p S1 S2 m1 m2 Y1 Y2 wE) := s2
  rw [HPp.out, HNn.out] at KSF
  have c3 := RA.out.cell 3
  simp at c3
  clear h hb0 hn hr s1 s2 RAn hbn hE hk
  go_enter Tryz.func75, Tryz.ntmps75
  go_wp2_with (rw [← HWN.out, ← HR.out, ← HA.out]; refine wpList_store_row (by rfl) 175 _ _ (by rfl) R #[.func (.func 134) #[] #[], .func (.func 135) #[] #[], .func (.func 136) #[] #[]] (by rfl) (by rfl) 175 #[.nilFunc, .nilFunc, .nilFunc] ?_ Tryz.infoF3 rfl (by simp [Value.oneCell']) ?_; exact RRn.out; rw [← HW0.out])
  refine Calls.mono KSF.out ?_
  rintro e w1 ⟨g1, cap1, F1a, rfl, hN1, t1, hF1⟩
  have K1 : Hid (Nw w1 B Nb id f g1 n' cap1 (slF S y.r n) F1a ∧ Trn w0 w1 (fun x => x = Nb ∨ F1 x) ∧ ∀ x, F1a x → F1 x ∨ w0.heap.size ≤ x) := ⟨hN1, t1, hF1⟩
  have RN1 : Hid _ := hN1.r
  -- the hearing's own block and the empty list of what is said
  obtain ⟨gs, HGS⟩ : ∃ x, Hid (x = w1.heap.size) := ⟨_, rfl⟩
  obtain ⟨Hb, HHB⟩ : ∃ x, Hid (x = gs + 1) := ⟨_, rfl⟩
  have eHB : Hb = w1.heap.size + 1 := by rw [HHB.out, HGS.out]
  obtain ⟨w2, HW2⟩ : ∃ x, Hid (x = (w1.alloc (.cells #[] 41)).alloc (.cells (hrC id f g1 n' cap1 p (.slice (some ⟨gs, 0, none⟩) 0 0)) 179)) := ⟨_, rfl⟩
  have b12 : Below w1.heap.size w1 w2 := by rw [HW2.out]; exact ((Below.refl _ _).alloc (Nat.le_refl _) _).alloc (by simp) _
  have RH : Row w2 Hb 179 (hrC id f g1 n' cap1 p (.slice (some ⟨gs, 0, none⟩) 0 0)) := by
    rw [HW2.out, eHB]
    have := Row.new (w1.alloc (.cells #[] 41)) (hrC id f g1 n' cap1 p (.slice (some ⟨gs, 0, none⟩) 0 0)) 179
    simpa using this
  have O2 : Ow w2 B (sysD 0 Y0) (.slice (some ⟨gs, 0, none⟩) 0 0) (fun x => x = gs) := by
    have o1 : Ow (w1.alloc (.cells #[] 41)) B (sysD 0 Y0) (.slice (some ⟨gs, 0, none⟩) 0 0) (fun x => x = gs) := by
      refine ⟨_, 0, fun _ _ => undef, fun _ _ _ => False, rfl, ?_, ⟨fun x e => by cases e; rfl, fun _ _ _ hi => absurd hi (Nat.not_lt_zero _), fun _ _ _ hi => absurd hi (Nat.not_lt_zero _), fun _ _ _ _ _ hi => absurd hi (Nat.not_lt_zero _)⟩, fun _ _ hi => absurd hi (Nat.not_lt_zero _)⟩
      have := World.ownsRow_lit (e := 41) (size := 10) (base := B) w1 #[] 0 hN1.b.2 (by unfold maxLen; omega) (by simp)
      rw [HGS.out]
      simpa [cL] using this
    rw [HW2.out]
    exact o1.below ((Below.refl _ _).alloc (Nat.le_refl _) _)
  have hsz2 : w2.heap.size = w1.heap.size + 2 := by rw [HW2.out]; simp
  have hw01 := t1.size
  have H2 : Hid (Hr w2 B Hb id f g1 n' cap1 p (slF S y.r n) (some ⟨gs, 0, none⟩) 0 0 Y0 F1a (fun x => x = gs)) := by
    have e1 := HGS.out
    have e2 := eHB
    have hlb := hN1.b.2
    exact ⟨RH, hN1.o.below b12, O2, fun x k1 k2 => by have := hN1.l1 x k1; omega, fun k => by have := hN1.l1 Hb k; omega, fun k => by omega, ⟨by omega, by omega⟩, fun x k => by have := hN1.l1 x k; omega, fun x k => by omega⟩
  have KN2 : Hid (Nw w2 B Nb id f g1 n' cap1 (slF S y.r n) F1a) := hN1.below b12
  have KL : Hid (gs = w1.heap.size ∧ Hb = w1.heap.size + 1 ∧ w2.heap.size = w1.heap.size + 2 ∧ w0.heap.size ≤ w1.heap.size) := ⟨HGS.out, eHB, hsz2, hw01⟩
  have KT2 : Hid (Trn w w2 (fun x => x = Nb ∨ F1 x)) := ((Trn.ofBelow _ KB0.out).trans t1).trans (Trn.ofBelow _ b12)
  have keepA : ∀ W, Trn w2 W (fun x => x = Hb ∨ F1a x ∨ x = gs) → ∀ k t cs, Row w0 k t cs → w.heap.size ≤ k → Row W k t cs := fun W hW k t cs hr hk => by
    have hk0 := hr.lt
    have r1 : Row w1 k t cs := (t1.block k hk0 (fun q => by
      rcases q with q | q
      · have := HL.out.2.2.2.2.1; omega
      · have := HL.out.2.2.2.2.2 k q; omega)).trans hr
    have r2 := r1.below b12 r1.lt
    refine (hW.block k r2.lt (fun q => ?_)).trans r2
    have e1 := HGS.out
    have e2 := eHB
    have l1 := r1.lt
    rcases q with q | q | q
    · omega
    · rcases hF1 k q with q | q
      · have := HL.out.2.2.2.2.2 k q; omega
      · omega
    · omega
  have KAR : Hid (∀ W, Trn w2 W (fun x => x = Hb ∨ F1a x ∨ x = gs) → Row W A 41 (syC y (.slice a9 y.p.m c9)) ∧ Row W R 175 #[.func (.func 134) #[] #[], .func (.func 135) #[] #[], .func (.func 136) #[] #[]]) := fun W hW => ⟨keepA W hW A _ _ RA.out HL.out.1, keepA W hW R _ _ RR.out HL.out.2.2.2.1⟩
  have KBE : Hid (Below B wE w2.drew) := by
    have t2d : Trn w w2.drew (fun x => x = Nb ∨ F1 x) := KT2.out.trans (Trn.drew w2 _)
    exact KE.out.1.trans (t2d.below (fun x k => by rcases k with k | k; rw [k]; exact KE.out.2.1; exact KE.out.2.2.1 x k) KE.out.2.2.2)
  have e9 : syV y (.slice a9 y.p.m c9) = .agg #[.int .i64 0, .int .i64 y.f, .int .i64 y.t, .string y.r, .string y.p.r, .int .i64 y.p.k, .int .i64 y.p.n, .int .i64 y.p.i, .string y.p.b, .slice a9 y.p.m c9] := by
    show Value.agg #[.int .i64 y.k, .int .i64 y.f, .int .i64 y.t, .string y.r, .string y.p.r, .int .i64 y.p.k, .int .i64 y.p.n, .int .i64 y.p.i, .string y.p.b, .slice a9 y.p.m c9] = _
    rw [HKk.out]
  have h4' := KS1.out Hb w2.drew g1 cap1 (some ⟨gs, 0, none⟩) 0 F1a (fun x => x = gs) KBE.out (H2.out.below (below_drew w2))
  rw [e9] at h4'
  have KC4 : Hid _ := h4'
  clear h4' e9
  obtain ⟨rA2, rR2⟩ := KAR.out w2 (Trn.refl _ _)
  have u0 := rA2.cell 0
  have u1 := rA2.cell 1
  have u2 := rA2.cell 2
  have u3 := rA2.cell 3
  have u4 := rA2.cell 4
  have u5 := rA2.cell 5
  have u6 := rA2.cell 6
  have u7 := rA2.cell 7
  have u8 := rA2.cell 8
  have u9 := rA2.cell 9
  have uR := rR2.cell 0
  simp at u0 u1 u2 u3 u4 u5 u6 u7 u8 u9 uR
  rw [HKk.out] at u0
  clear hN1 t1 hF1 b12 RH O2 hsz2 hw01 keepA c3 eHB rA2 rR2
  go_upto_region 4 with (refine wpList_load_row (by rfl) 34 _ (by rfl) Nb (by rfl) 34 #[.int .i64 id, .int .i64 f, .slice (some ⟨g1, 0, none⟩) n' cap1] (0, 0) _ ?_ Tryz.underlying34 (by rfl) Tryz.infoNd ?_; exact RN1.out)
  rw [← HGS.out, ← HHB.out, ← HW2.out]
  go_region_with ((go_at_call 134; refine Calls.mono KC4.out ?_; rintro e w3 ⟨rfl, sa3, sc3, F13, F23, h3, t3, hF13, hF23⟩; have K3 : Hid (Hr w3 B Hb id f g1 n' cap1 p S1 sa3 m1 sc3 Y1 F13 F23 ∧ Trn w2 w3 (fun x => x = Hb ∨ F1a x ∨ x = gs) ∧ (∀ x, F13 x → F1a x ∨ w2.heap.size ≤ x) ∧ ∀ x, F23 x → x = gs ∨ w2.heap.size ≤ x) := ⟨h3, (Trn.drew w2 _).trans t3, hF13, hF23⟩; clear h3 t3 hF13 hF23))
  all_goals
    have v0 := (KAR.out w3 K3.out.2.1).1.cell 0
    simp at v0
    rw [HKk.out] at v0
    have KBE3 : Hid (Below B wE w3) := by
      have e1 := KL.out
      have hw2 : B ≤ w2.heap.size := H2.out.b.2
      have b2 : Below B wE w2 := ⟨KBE.out.os, KBE.out.tape, KBE.out.output, KBE.out.size, KBE.out.block⟩
      exact b2.trans (K3.out.2.1.below (fun x k => by
        rcases k with k | k | k
        · rw [k]; exact H2.out.b.1
        · exact (K1.out.1.l1 x k).1
        · have := K1.out.1.b.2; omega) hw2)
    have KC5 : Hid _ := KS2.out Hb w3 g1 cap1 sa3 sc3 F13 F23 KBE3.out K3.out.1
    clear u0 u1 u2 u3 u4 u5 u6 u7 u8 u9 uR
    go_wp2_with fail
    refine Calls.mono KC5.out ?_
    rintro e w4 ⟨rfl, sa4, sc4, F14, F24, h4, t4, hF14, hF24⟩
    have z4 := h4.r.cell 4
    simp at z4
    have KF : Hid (Heard w w4 B Nb id f n' S2 m2 Y2 F1 (.slice sa4 m2 sc4)) := by
      obtain ⟨e1, e2, e3, e4⟩ := KL.out
      have s02 := KB0.out.size
      have s23 := K3.out.2.1.size
      have s34 := t4.size
      have hnb := HL.out.2.2.2.2.1
      have hFa : ∀ x, F13 x → F1 x ∨ w0.heap.size ≤ x := fun x k => by
        rcases K3.out.2.2.1 x k with k | k
        · exact K1.out.2.2 x k
        · exact .inr (by omega)
      have hFb : ∀ x, F23 x → w0.heap.size ≤ x := fun x k => by
        rcases K3.out.2.2.2 x k with k | k <;> omega
      have t24 : Trn w2 w4 (fun x => x = Hb ∨ F1a x ∨ x = gs) := K3.out.2.1.join t4 (fun x k => by
        rcases k with k | k | k
        · exact .inl (.inl k)
        · rcases K3.out.2.2.1 x k with k | k
          · exact .inl (.inr (.inl k))
          · exact .inr k
        · rcases K3.out.2.2.2 x k with k | k
          · exact .inl (.inr (.inr k))
          · exact .inr k)
      have h14 : ∀ x, F14 x → F1 x ∨ w0.heap.size ≤ x := fun x k => by
        rcases hF14 x k with k | k
        · exact hFa x k
        · exact .inr (by omega)
      have h24 : ∀ x, F24 x → w0.heap.size ≤ x := fun x k => by
        rcases hF24 x k with k | k
        · exact hFb x k
        · omega
      have nF : ¬ F1 Nb := KNF.out
      have hN2 : Nw w2 B Nb id f g1 n' cap1 (slF S y.r n) F1a := KN2.out
      have nN : ¬ (Nb = Hb ∨ F1a Nb ∨ Nb = gs) := fun k => by
        rcases k with k | k | k
        · omega
        · exact hN2.h1 k
        · omega
      refine ⟨g1, cap1, sa4, sc4, F14, F24, rfl, ⟨(t24.block Nb hN2.r.lt nN).trans hN2.r, h4.o, fun k => ?_, ⟨hN2.b.1, h4.b.2⟩, fun x k => ⟨?_, h4.l1 x k⟩⟩, h4.y, h4.d, fun k => ?_, KT2.out.join t24 (fun x k => ?_), fun x k => ?_, fun x k => ⟨?_, h4.l2 x k⟩⟩
      · rcases h14 Nb k with k | k
        · exact nF k
        · omega
      · rcases h14 x k with k | k
        · exact KE.out.2.2.1 x k
        · have := KE.out.2.2.2; omega
      · have := h24 Nb k; omega
      · rcases k with k | k | k
        · exact .inr (by omega)
        · rcases K1.out.2.2 x k with k | k
          · exact .inl (.inr k)
          · exact .inr (by omega)
        · exact .inr (by omega)
      · rcases h14 x k with k | k
        · exact .inl k
        · exact .inr (by omega)
      · have := h24 x k; omega
    clear h4 t4 hF14 hF24
    go_wp2
    go_ret
    exact ⟨_, rfl, KF.out⟩
end Go.Proofs.YtgiegoamcfjfmaaGreat
