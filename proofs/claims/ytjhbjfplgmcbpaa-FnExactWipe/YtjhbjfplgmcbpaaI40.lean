/- A net, copied, in the model. Conditions: lists of at most 2^20. -/
import Derived.Test.YtjhbjfplgmcbpaaI38
import Derived.Test.YtjhbjfplgmcbpaaI36
import Derived.Test.YtjhbjfplgmcbpaaI30
namespace Go.Proofs.Ytjhbjfplgmcbpaa
set_option maxRecDepth 2000
open Go.ChangeShapes Go.WideShapes Go.ChangeAt Go.RowKit Go.Sort

/-- The two lists that grow. -/
structure CsI (w0 : World) (g1 c1 k1 g3 c3 k3 : Nat) (N : Nat → Nd) (Y : Nat → Sy) (W : World) : Prop where
  o : ∃ F1 F3 : Nat → Prop, Ow W w0.heap.size (ndsD k1 N) (.slice (some ⟨g1, 0, none⟩) k1 c1) F1 ∧ Ow W w0.heap.size (sysD k3 Y) (.slice (some ⟨g3, 0, none⟩) k3 c3) F3 ∧ (∀ x, F1 x → ¬ F3 x) ∧ ∀ x, F1 x ∨ F3 x → w0.heap.size ≤ x ∧ x < W.heap.size
  b : Below w0.heap.size w0 W
theorem nil_ow {t sz : Nat} (fd : Nat → Nat → Dt) (W : World) : Ow (W.alloc (.cells #[] t)) W.heap.size (.lst t sz 0 fd) (.slice (some ⟨W.heap.size, 0, none⟩) 0 0) (fun x => x = W.heap.size) := by
  refine ⟨_, 0, fun _ _ => undef, fun _ _ _ => False, rfl, ?_, ⟨fun x e => ?_, fun _ _ _ hi => absurd hi (Nat.not_lt_zero _), fun _ _ _ hi => absurd hi (Nat.not_lt_zero _), fun _ _ _ _ _ hi => absurd hi (Nat.not_lt_zero _)⟩, fun _ _ hi => absurd hi (Nat.not_lt_zero _)⟩
  · have := World.ownsRow_lit (e := t) (size := sz) (base := W.heap.size) W #[] 0 (by simp) (by unfold maxLen; omega) (by simp)
    simpa [cL] using this
  · cases e
    rfl
theorem cs_start (N : Nat → Nd) (Y : Nat → Sy) (W : World) : CsI W W.heap.size 0 0 (W.heap.size + 1) 0 0 N Y ((W.alloc (.cells #[] 46)).alloc (.cells #[] 80)) := by
  have s1 : (W.alloc (.cells #[] 46)).heap.size = W.heap.size + 1 := by simp
  have b1 : Below W.heap.size W (W.alloc (.cells #[] 46)) := (Below.refl _ _).alloc (Nat.le_refl _) _
  have b2 : Below (W.alloc (.cells #[] 46)).heap.size (W.alloc (.cells #[] 46)) ((W.alloc (.cells #[] 46)).alloc (.cells #[] 80)) := (Below.refl _ _).alloc (Nat.le_refl _) _
  have o3 := nil_ow (t := 80) (sz := 10) (fun i => syD (Y i)) (W.alloc (.cells #[] 46))
  rw [s1] at o3
  refine ⟨⟨_, _, (nil_ow (t := 46) (sz := 3) (fun i => ndD (N i)) W).below b2, o3.base (by omega), fun x h1 h2 => ?_, fun x h => ?_⟩, below2 b1 b2⟩
  · have e1 : x = W.heap.size := h1
    have e2 : x = W.heap.size + 1 := h2
    omega
  · have s2 : ((W.alloc (.cells #[] 46)).alloc (.cells #[] 80)).heap.size = W.heap.size + 1 + 1 := by simp
    rw [s2]
    rcases h with h | h
    · have e1 : x = W.heap.size := h
      omega
    · have e1 : x = W.heap.size + 1 := h
      omega
/-- Behind an append to the nodes; to the sayings. -/
theorem cs_node {w0 wr w5 w6 : World} {k g3 c3 k3 g' c' : Nat} {N : Nat → Nd} {Y : Nat → Sy} {F1 F3 : Nat → Prop} {H : Nat → Nat → Prop} (hb : Below w0.heap.size w0 wr) (o3 : Ow wr w0.heap.size (sysD k3 Y) (.slice (some ⟨g3, 0, none⟩) k3 c3) F3) (hd : ∀ x, F1 x → ¬ F3 x) (hl : ∀ x, F1 x ∨ F3 x → w0.heap.size ≤ x ∧ x < wr.heap.size) (b5 : Below wr.heap.size wr w5) (hH : ∀ q x, H q x → wr.heap.size ≤ x)
    (O6 : Ow w6 w0.heap.size (.lst 46 3 (k + 1) (fun i => if i = k then ndD (N k) else ndD (N i))) (.slice (some ⟨g', 0, none⟩) (k + 1) c') (fun x => x < w6.heap.size ∧ ((F1 x ∨ ∃ q, q < 3 ∧ H q x) ∨ w5.heap.size ≤ x))) (b6 : Below w0.heap.size w5 w6) (T6 : ∀ x, x < w5.heap.size → ¬ F1 x → w6.heap[x]? = w5.heap[x]?) : CsI w0 g' c' (k + 1) g3 c3 k3 N Y w6 := by
  have s5 := b5.size
  have s6 := b6.size
  have s0 := hb.size
  refine ⟨⟨_, F3, O6.congr (fun i q _ _ => ?_), (o3.below b5).frame (fun x hx hl' => T6 x hl' (fun h => hd x h hx)), fun x h1 h2 => ?_, fun x h => ?_⟩, (below2 hb b5).trans b6⟩
  · by_cases e : i = k
    · subst e; simp
    · simp [e]
  · have l3 := (hl x (.inr h2)).2
    rcases h1.2 with (h | ⟨q, _, h⟩) | h
    · exact hd x h h2
    · have := hH q x h; omega
    · omega
  · rcases h with h | h
    · refine ⟨?_, h.1⟩
      rcases h.2 with (h | ⟨q, _, h⟩) | h
      · exact (hl x (.inl h)).1
      · have := hH q x h; omega
      · omega
    · have := hl x (.inr h)
      omega
theorem cs_say {w0 wr w5 w6 : World} {g1 c1 k1 k g' c' : Nat} {N : Nat → Nd} {Y : Nat → Sy} {F1 F3 : Nat → Prop} {H : Nat → Nat → Prop} (hb : Below w0.heap.size w0 wr) (o1 : Ow wr w0.heap.size (ndsD k1 N) (.slice (some ⟨g1, 0, none⟩) k1 c1) F1) (hd : ∀ x, F1 x → ¬ F3 x) (hl : ∀ x, F1 x ∨ F3 x → w0.heap.size ≤ x ∧ x < wr.heap.size) (b5 : Below wr.heap.size wr w5) (hH : ∀ q x, H q x → wr.heap.size ≤ x)
    (O6 : Ow w6 w0.heap.size (.lst 80 10 (k + 1) (fun i => if i = k then syD (Y k) else syD (Y i))) (.slice (some ⟨g', 0, none⟩) (k + 1) c') (fun x => x < w6.heap.size ∧ ((F3 x ∨ ∃ q, q < 10 ∧ H q x) ∨ w5.heap.size ≤ x))) (b6 : Below w0.heap.size w5 w6) (T6 : ∀ x, x < w5.heap.size → ¬ F3 x → w6.heap[x]? = w5.heap[x]?) : CsI w0 g1 c1 k1 g' c' (k + 1) N Y w6 := by
  have s5 := b5.size
  have s6 := b6.size
  have s0 := hb.size
  refine ⟨⟨F1, _, (o1.below b5).frame (fun x hx hl' => T6 x hl' (fun h => hd x hx h)), O6.congr (fun i q _ _ => ?_), fun x h2 h1 => ?_, fun x h => ?_⟩, (below2 hb b5).trans b6⟩
  · by_cases e : i = k
    · subst e; simp
    · simp [e]
  · have l3 := (hl x (.inl h2)).2
    rcases h1.2 with (h | ⟨q, _, h⟩) | h
    · exact hd x h2 h
    · have := hH q x h; omega
    · omega
  · rcases h with h | h
    · have := hl x (.inl h)
      omega
    · refine ⟨?_, h.1⟩
      rcases h.2 with (h | ⟨q, _, h⟩) | h
      · exact (hl x (.inr h)).1
      · have := hH q x h; omega
      · omega
/-- Behind the last store. -/
structure CsF (w w0 : World) (A D : Nat) (f : Int) (n m zl g1 c1 g2 c2 g3 c3 : Nat) (N : Nat → Nd) (Y : Nat → Sy) (zs : List Int) (l : Option Addr) (d : Nat) (W : World) : Prop where
  r : Row W D 31 #[.int .i64 f, .slice (some ⟨g1, 0, none⟩) n c1, .slice (some ⟨g2, 0, none⟩) zl c2, .slice (some ⟨g3, 0, none⟩) m c3]
  s : W.cell? ⟨A, 0, none⟩ = some (.int .i64 f) ∧ W.cell? ⟨A, 2, none⟩ = some (.slice l zl d)
  o : ∃ F1 F2 F3, NtO W w.heap.size n N zs m Y (.slice (some ⟨g1, 0, none⟩) n c1) (.slice (some ⟨g2, 0, none⟩) zl c2) (.slice (some ⟨g3, 0, none⟩) m c3) F1 F2 F3 ∧ (∀ x, F1 x ∨ F2 x ∨ F3 x → w.heap.size ≤ x ∧ x < W.heap.size) ∧ Below w.heap.size w W
  l0 : w.heap.size ≤ w0.heap.size
theorem CsI.fin {w w0 wr w2 : World} {A D : Nat} {f : Int} {n m zl g1 c1 g2 c2 g3 c3 c d g : Nat} {a l e : Option Addr} {N : Nat → Nd} {Y : Nat → Sy} {zs : List Int} (h : CsI w0 g1 c1 n g3 c3 m N Y wr) (hL : A ≠ D ∧ w.heap.size ≤ A ∧ w.heap.size ≤ D ∧ A < w0.heap.size ∧ D < w0.heap.size) (hb0 : Below w.heap.size w w0) (RA : Row wr A 31 #[.int .i64 f, .slice a n c, .slice l zl d, .slice e m g]) (RD : Row wr D 31 #[.int .i64 0, .slice none 0 0, .slice none 0 0, .slice none 0 0]) (hz : zs.length = zl)
    (ho : w2.ownsRow wr.heap.size 3 1 (.slice (some ⟨g2, 0, none⟩) zl c2) zl (zs.map (Value.int .i64))) (hb : Below wr.heap.size wr w2) : CsF w w0 A D f n m zl g1 c1 g2 c2 g3 c3 N Y zs l d ((((w2.setCell ⟨D, 0, none⟩ (.int .i64 f)).setCell ⟨D, 1, none⟩ (.slice (some ⟨g1, 0, none⟩) n c1)).setCell ⟨D, 2, none⟩ (.slice (some ⟨g2, 0, none⟩) zl c2)).setCell ⟨D, 3, none⟩ (.slice (some ⟨g3, 0, none⟩) m c3)) := by
  subst hz
  obtain ⟨F1, F3, o1, o3, hd, hl⟩ := h.o
  have RA2 := RA.below hb RA.lt
  have RD2 := RD.below hb RD.lt
  have r0 : Row (w2.setCell ⟨D, 0, none⟩ (.int .i64 f)) D 31 #[.int .i64 f, .slice none 0 0, .slice none 0 0, .slice none 0 0] := RD2.set 0 _
  have r1 : Row ((w2.setCell ⟨D, 0, none⟩ (.int .i64 f)).setCell ⟨D, 1, none⟩ (.slice (some ⟨g1, 0, none⟩) n c1)) D 31 #[.int .i64 f, .slice (some ⟨g1, 0, none⟩) n c1, .slice none 0 0, .slice none 0 0] := r0.set 1 _
  have r2 : Row (((w2.setCell ⟨D, 0, none⟩ (.int .i64 f)).setCell ⟨D, 1, none⟩ (.slice (some ⟨g1, 0, none⟩) n c1)).setCell ⟨D, 2, none⟩ (.slice (some ⟨g2, 0, none⟩) zs.length c2)) D 31 #[.int .i64 f, .slice (some ⟨g1, 0, none⟩) n c1, .slice (some ⟨g2, 0, none⟩) zs.length c2, .slice none 0 0] := r1.set 2 _
  have ra := (((RA2.other 0 (.int .i64 f) hL.1).other 1 (.slice (some ⟨g1, 0, none⟩) n c1) hL.1).other 2 (.slice (some ⟨g2, 0, none⟩) zs.length c2) hL.1).other 3 (.slice (some ⟨g3, 0, none⟩) m c3) hL.1
  have p0 := ra.cell 0
  have p2 := ra.cell 2
  simp at p0 p2
  have s0 := hb0.size
  have s1 := h.b.size
  have s2 := hb.size
  have l2 := World.ownsRow.lt ho g2 rfl
  have tr : ∀ x, x ≠ D → ((((w2.setCell ⟨D, 0, none⟩ (.int .i64 f)).setCell ⟨D, 1, none⟩ (.slice (some ⟨g1, 0, none⟩) n c1)).setCell ⟨D, 2, none⟩ (.slice (some ⟨g2, 0, none⟩) zs.length c2)).setCell ⟨D, 3, none⟩ (.slice (some ⟨g3, 0, none⟩) m c3)).heap[x]? = w2.heap[x]? := fun x hx => by
    rw [Below.heap_setCell _ _ _ _ hx, Below.heap_setCell _ _ _ _ hx, Below.heap_setCell _ _ _ _ hx, Below.heap_setCell _ _ _ _ hx]
  have o2 : Ow w2 w.heap.size (inD zs) (.slice (some ⟨g2, 0, none⟩) zs.length c2) (fun x => x = g2) := (ow_ints ho (fun x e => by cases e; rfl)).base (by omega)
  refine ⟨r2.set 3 _, ⟨p0, p2⟩, ⟨F1, fun x => x = g2, F3, ⟨((o1.below hb).base s0).frame (fun x hx _ => tr x (fun e => ?_)), o2.frame (fun x hx _ => tr x (fun e => ?_)), ((o3.below hb).base s0).frame (fun x hx _ => tr x (fun e => ?_)), fun x k1 k2 => ?_, hd, fun x k1 k2 => ?_⟩, fun x k => ?_, ?_⟩, s0⟩
  · have := (hl x (.inl hx)).1; omega
  · have e1 : x = g2 := hx
    omega
  · have := (hl x (.inr hx)).1; omega
  · have e1 : x = g2 := k2
    have := (hl x (.inl k1)).2
    omega
  · have e1 : x = g2 := k1
    have := (hl x (.inr k2)).2
    omega
  · simp
    rcases k with k | k | k
    · have := hl x (.inl k); omega
    · have e1 : x = g2 := k
      omega
    · have := hl x (.inr k); omega
  · exact ((((below2 hb0 (below2 h.b hb)).setCell hL.2.2.1 _).setCell hL.2.2.1 _).setCell hL.2.2.1 _).setCell hL.2.2.1 _
set_option maxHeartbeats 8000000 in
theorem sCopyT_any (f : Int) (a : Option Addr) (n c : Nat) (l : Option Addr) (zs : List Int) (d : Nat) (e : Option Addr) (m g : Nat) (N : Nat → Nd) (Y : Nat → Sy) (w : World) (h1 : Rd w (ndsD n N) (.slice a n c)) (h2 : IntsAt w l zs.length zs) (h3 : Rd w (sysD m Y) (.slice e m g)) (hn : n ≤ 1048576) (hz : zs.length ≤ 1048576) (hm : m ≤ 1048576) (hN : ∀ i, i < n → (N i).n ≤ 1048576 ∧ ∀ j, j < (N i).n → SlS ((N i).S j)) (hY : ∀ i, i < m → (Y i).p.m ≤ 1048576) :
    Calls Try.prog 17 #[ntV f (.slice a n c) (.slice l zs.length d) (.slice e m g)] w fun r w' => ∃ g1 c1 g2 c2 g3 c3 F1 F2 F3, r = .returned (ntV f (.slice (some ⟨g1, 0, none⟩) n c1) (.slice (some ⟨g2, 0, none⟩) zs.length c2) (.slice (some ⟨g3, 0, none⟩) m c3)) ∧ NtO w' w.heap.size n N zs m Y (.slice (some ⟨g1, 0, none⟩) n c1) (.slice (some ⟨g2, 0, none⟩) zs.length c2) (.slice (some ⟨g3, 0, none⟩) m c3) F1 F2 F3 ∧ (∀ x, F1 x ∨ F2 x ∨ F3 x → w.heap.size ≤ x ∧ x < w'.heap.size) ∧ Below w.heap.size w w' := by
  obtain ⟨iN, hiN, hzN0, hzN1, hzN2⟩ := info_parts Try.infoNdZ2
  obtain ⟨iY, hiY, hzY0, hzY1, hzY2⟩ := info_parts Try.infoSyZ
  obtain ⟨zl, HZL⟩ : ∃ x, Hid (zs.length = x) := ⟨_, rfl⟩
  rw [HZL.out]
  obtain ⟨A, HA⟩ : ∃ x, Hid (x = w.heap.size) := ⟨_, rfl⟩
  obtain ⟨D, HD⟩ : ∃ x, Hid (x = w.heap.size + 1) := ⟨_, rfl⟩
  obtain ⟨w0, HW0⟩ : ∃ x, Hid (x = (w.alloc (.cells #[.int .i64 f, .slice a n c, .slice l zl d, .slice e m g] 31)).alloc (.cells #[.int .i64 0, .slice none 0 0, .slice none 0 0, .slice none 0 0] 31)) := ⟨_, rfl⟩
  have RA : Hid (Row w0 A 31 #[.int .i64 f, .slice a n c, .slice l zl d, .slice e m g]) := by show Row _ _ _ _; rw [HW0.out, HA.out]; exact Row.alloc (Row.new w _ _) _
  have RD : Hid (Row w0 D 31 #[.int .i64 0, .slice none 0 0, .slice none 0 0, .slice none 0 0]) := by
    show Row _ _ _ _
    rw [HW0.out, HD.out]
    have := Row.new (w.alloc (.cells #[.int .i64 f, .slice a n c, .slice l zl d, .slice e m g] 31)) #[.int .i64 0, .slice none 0 0, .slice none 0 0, .slice none 0 0] 31
    simpa using this
  have hb0 : Below w.heap.size w w0 := by rw [HW0.out]; exact ((Below.refl _ _).alloc (Nat.le_refl _) _).alloc (by simp) _
  have KB0 : Hid (Below w.heap.size w w0) := hb0
  have HL : Hid (A ≠ D ∧ w.heap.size ≤ A ∧ w.heap.size ≤ D ∧ A < w0.heap.size ∧ D < w0.heap.size) := ⟨by have := HA.out; have := HD.out; omega, by have := HA.out; omega, by have := HD.out; omega, RA.out.lt, RD.out.lt⟩
  have K1 : Hid (∀ W, Below w0.heap.size w0 W → Rd W (ndsD n N) (.slice a n c)) := fun W hW => (h1.below hb0).below hW
  have K2 : Hid (∀ W, Below w0.heap.size w0 W → IntsAt W l zl zs) := fun W hW => by rw [← HZL.out]; exact (h2.below hb0).below hW
  have K3 : Hid (∀ W, Below w0.heap.size w0 W → Rd W (sysD m Y) (.slice e m g)) := fun W hW => (h3.below hb0).below hW
  have HN : Hid (∀ i, i < n → (N i).n ≤ 1048576 ∧ ∀ j, j < (N i).n → SlS ((N i).S j)) := hN
  have HY : Hid (∀ i, i < m → (Y i).p.m ≤ 1048576) := hY
  have HZ1 : Hid (zl ≤ 1048576) := by show zl ≤ 1048576; rw [← HZL.out]; exact hz
  obtain ⟨g1, HG1⟩ : ∃ x, Hid (x = D + 1) := ⟨_, rfl⟩
  obtain ⟨g3, HG3⟩ : ∃ x, Hid (x = D + 1 + 1) := ⟨_, rfl⟩
  obtain ⟨w1, HW1⟩ : ∃ x, Hid (x = (w0.alloc (.cells #[] 46)).alloc (.cells #[] 80)) := ⟨_, rfl⟩
  have hD1 : D + 1 = w0.heap.size := by rw [HW0.out, HD.out]; simp
  have KI1 : Hid (CsI w0 g1 0 0 g3 0 0 N Y w1) := by
    show CsI _ _ _ _ _ _ _ _ _ _
    rw [HG1.out, HG3.out, hD1, HW1.out]
    exact cs_start N Y w0
  clear h1 h2 h3 hb0 hN hY hz hD1
  go_enter Try.func17, Try.ntmps17
  go_wp2_with fail
  rw [← HW0.out, ← HD.out, ← HA.out, ← HW1.out, ← HG3.out, ← HG1.out]
  go_loopw [3, 5] (fun v vi wr => ∃ k g1 c1 : Nat, k ≤ n ∧ v = .slice (some ⟨g1, 0, none⟩) k c1 ∧ vi = .int .i64 (k : Int) ∧ Hid (CsI w0 g1 c1 k g3 0 0 N Y wr)) (fun _ vi _ => n - (intOf vi).toNat)
  case atStart => exact ⟨0, g1, 0, Nat.zero_le _, rfl, rfl, KI1⟩
  case round =>
    obtain ⟨k, g1, c1, hk, rfl, rfl, HI⟩ := hrel
    clear KI1 HW1 HG1
    have x1 := (RA.out.below HI.out.b RA.out.lt).cell 1
    simp at x1
    by_cases hlt : k < n
    · have hki : (k : Int) < (n : Int) := by omega
      have HLT : Hid (k < n) := hlt
      obtain ⟨b1, f1, an, cn, rfl, _, R1', hr1⟩ := node_at (K1.out wr HI.out.b) hlt
      have R1 : Hid (wr.rangeAt b1 (f1 + k * 3) [.int .i64 (N k).i, .int .i64 (N k).f, .slice an (N k).n cn]) := R1'
      have KP : Hid _ := sCopyN_any (N k).i (N k).f an (N k).n cn (N k).S wr hr1 (HN.out k hlt).1 (HN.out k hlt).2
      clear R1' hr1
      go_wp2_with (refine wpList_load_mid (by rfl) 46 _ (by rfl) b1 (f1 + k * 3) (by rfl) [.int .i64 (N k).i, .int .i64 (N k).f, .slice an (N k).n cn] _ ?_ Try.underlying46 (by rfl) Try.infoNd ?_; exact R1.out)
      refine Calls.mono KP.out ?_
      rintro r w3 ⟨gs, cs, rfl, o3, b3⟩
      obtain ⟨w5, HW5⟩ : ∃ x, Hid (x = w3.alloc (.cells #[.int .i64 (N k).i, .int .i64 (N k).f, .slice (some ⟨gs, 0, none⟩) (N k).n cs] 46)) := ⟨_, rfl⟩
      have b5 : Below w3.heap.size w3 w5 := by rw [HW5.out]; exact (Below.refl _ _).alloc (Nat.le_refl _) _
      have b35 : Below wr.heap.size wr w5 := below2 b3 b5
      have hsz := HI.out.b.size
      obtain ⟨F1, F3, o1', o3', hd, hl⟩ := HI.out.o
      have hs5 := b35.size
      clear R1 KP
      go_wp2_with (at_builtin; rw [← HW5.out]; refine (show True → _ from ?_) trivial)
      intro _
      refine wpList_snoc w5 (by rfl) _ _ 28 (by rfl) w0.heap.size 46 iN (.agg zcN.toArray) 3 _ Try.underlying28 hiN hzN0 hzN1 hzN2 rfl (by decide) (.slice (some ⟨g1, 0, none⟩) k c1) k _ F1 (by rfl) (o1'.below b35) ⟨w3.heap.size, 0, none⟩ 1 [.int .i64 (N k).i, .int .i64 (N k).f, .slice (some ⟨gs, 0, none⟩) (N k).n cs] (by rfl) rfl ?_ (by simp [Value.oneCell']) (ndD (N k)) (fun q x => q = 2 ∧ rng wr.heap.size w3.heap.size x) ?_ ?_ (fun q q' x _ _ hx hx' => hx.1.trans hx'.1.symm) (by have := HLT.out; unfold maxLen; omega) (by have := HLT.out; omega) (by omega) ?_
      · rw [HW5.out]
        exact World.news_of_block (cs := #[.int .i64 (N k).i, .int .i64 (N k).f, .slice (some ⟨gs, 0, none⟩) (N k).n cs]) (t := 46) (fr := (0, 0)) (Row.new w3 _ _)
      · intro q hq
        exact ow_node ((o3.base hsz).below b5) q hq
      · intro q x _ hx hf
        have h1 : wr.heap.size ≤ x := hx.2.1
        have h2 := (hl x (.inl hf)).2
        omega
      intro g' c' w6 O6 b6 T6
      have K6 : Hid (CsI w0 g' c' (k + 1) g3 0 0 N Y w6) := cs_node HI.out.b o3' hd hl b35 (fun q x hx => hx.2.1) O6 b6 T6
      clear O6 b6 T6 b5 b35 b3 o3 o1' o3' hd hl x1 HI HW5
      have h1 := HLT.out
      go_wp2
      go_roundw
      case rel => exact ⟨k + 1, g', c', by omega, by go_num, by go_num, K6⟩
      case measure => simp [intOf]; omega
    · obtain rfl : n = k := by omega
      go_wp2
      go_loopw [4, 6] (fun v vi wr => ∃ k g3 c3 : Nat, k ≤ m ∧ v = .slice (some ⟨g3, 0, none⟩) k c3 ∧ vi = .int .i64 (k : Int) ∧ Hid (CsI w0 g1 c1 n g3 c3 k N Y wr)) (fun _ vi _ => m - (intOf vi).toNat)
      case atStart => exact ⟨0, g3, 0, Nat.zero_le _, rfl, rfl, HI⟩
      case round =>
        obtain ⟨k, g3, c3, hk', rfl, rfl, HJ⟩ := hrel
        clear HI x1 HG3
        have x3 := (RA.out.below HJ.out.b RA.out.lt).cell 3
        simp at x3
        by_cases hlt' : k < m
        · have hki : (k : Int) < (m : Int) := by omega
          have HLT : Hid (k < m) := hlt'
          obtain ⟨b1, f1, an, cn, rfl, R1', hr1⟩ := say_at (K3.out wr HJ.out.b) hlt'
          have R1 : Hid (wr.rangeAt b1 (f1 + k * 10) [.int .i64 (Y k).k, .int .i64 (Y k).f, .int .i64 (Y k).t, .string (Y k).r, .string (Y k).p.r, .int .i64 (Y k).p.k, .int .i64 (Y k).p.n, .int .i64 (Y k).p.i, .string (Y k).p.b, .slice an (Y k).p.m cn]) := R1'
          have KP : Hid _ := sCopyY_any (Y k) an cn wr hr1 (HY.out k hlt')
          clear R1' hr1
          go_wp2_with (refine wpList_load_mid (by rfl) 80 _ (by rfl) b1 (f1 + k * 10) (by rfl) [.int .i64 (Y k).k, .int .i64 (Y k).f, .int .i64 (Y k).t, .string (Y k).r, .string (Y k).p.r, .int .i64 (Y k).p.k, .int .i64 (Y k).p.n, .int .i64 (Y k).p.i, .string (Y k).p.b, .slice an (Y k).p.m cn] _ ?_ Try.underlying80 (by rfl) Try.infoSy2 ?_; exact R1.out)
          refine Calls.mono KP.out ?_
          rintro r w3 ⟨gs, cs, rfl, o3, b3⟩
          obtain ⟨w5, HW5⟩ : ∃ x, Hid (x = w3.alloc (.cells (syC (Y k) (.slice (some ⟨gs, 0, none⟩) (Y k).p.m cs)) 80)) := ⟨_, rfl⟩
          have b5 : Below w3.heap.size w3 w5 := by rw [HW5.out]; exact (Below.refl _ _).alloc (Nat.le_refl _) _
          have b35 : Below wr.heap.size wr w5 := below2 b3 b5
          have hsz := HJ.out.b.size
          have l2 := World.ownsRow.lt o3 gs rfl
          obtain ⟨F1, F3, o1', o3', hd, hl⟩ := HJ.out.o
          have hs5 := b35.size
          have o3'' : Ow w3 w0.heap.size (txD (Y k).p.m (Y k).p.S) (.slice (some ⟨gs, 0, none⟩) (Y k).p.m cs) (fun x => x = gs) := ow_txt (OwnT.base o3 (by omega)) (fun x e => by cases e; rfl)
          clear R1 KP
          go_wp2_with (at_builtin; rw [← HW5.out]; refine (show True → _ from ?_) trivial)
          intro _
          refine wpList_snoc w5 (by rfl) _ _ 29 (by rfl) w0.heap.size 80 iY (.agg zcY.toArray) 10 _ Try.underlying29 hiY hzY0 hzY1 hzY2 rfl (by decide) (.slice (some ⟨g3, 0, none⟩) k c3) k _ F3 (by rfl) (o3'.below b35) ⟨w3.heap.size, 0, none⟩ 1 (syC (Y k) (.slice (some ⟨gs, 0, none⟩) (Y k).p.m cs)).toList (by rfl) rfl ?_ (by simp [Value.oneCell']) (syD (Y k)) (fun q x => q = 9 ∧ x = gs) ?_ ?_ (fun q q' x _ _ hx hx' => hx.1.trans hx'.1.symm) (by have := HLT.out; unfold maxLen; omega) (by have := HLT.out; omega) (by omega) ?_
          · rw [HW5.out]
            exact World.news_of_block (cs := syC (Y k) (.slice (some ⟨gs, 0, none⟩) (Y k).p.m cs)) (t := 80) (fr := (0, 0)) (Row.new w3 _ _)
          · intro q hq
            exact ow_say (o3''.below b5) q hq
          · intro q x _ hx hf
            have h1 : x = gs := hx.2
            have h2 := (hl x (.inr hf)).2
            omega
          intro g' c' w6 O6 b6 T6
          have K6 : Hid (CsI w0 g1 c1 n g' c' (k + 1) N Y w6) := cs_say HJ.out.b o1' hd hl b35 (fun q x hx => by have h1 : x = gs := hx.2; omega) O6 b6 T6
          clear O6 b6 T6 b5 b35 b3 o3 o3'' o1' o3' hd hl x3 HJ HW5 l2
          have h1 := HLT.out
          go_wp2
          go_roundw
          case rel => exact ⟨k + 1, g', c', by omega, by go_num, by go_num, K6⟩
          case measure => simp [intOf]; omega
        · obtain rfl : m = k := by omega
          have RAr : Hid (Row wr A 31 #[.int .i64 f, .slice a n c, .slice l zl d, .slice e m g]) := RA.out.below HJ.out.b RA.out.lt
          have RDr : Hid (Row wr D 31 #[.int .i64 0, .slice none 0 0, .slice none 0 0, .slice none 0 0]) := RD.out.below HJ.out.b RD.out.lt
          have x0 := RAr.out.cell 0
          have x2 := RAr.out.cell 2
          simp at x0 x2
          have lA := RAr.out.lt
          have KS : Hid (∀ W, Below wr.heap.size wr W → W.cell? ⟨A, 0, none⟩ = some (.int .i64 f) ∧ W.cell? ⟨A, 2, none⟩ = some (.slice l zl d)) := fun W hW => ⟨(hW.cell (p := ⟨A, 0, none⟩) lA).trans x0, (hW.cell (p := ⟨A, 2, none⟩) lA).trans x2⟩
          have hdr : Below wr.heap.size wr wr.drew := below_drew wr
          have hal : Below wr.heap.size wr (wr.alloc (.cells #[] 3)) := (Below.refl _ _).alloc (Nat.le_refl _) _
          have hdA : Below wr.heap.size wr (wr.alloc (.cells #[] 3)).drew := below2 hal (below_drew _)
          have KA : Hid ((wr.alloc (.cells #[] 3)).drew.ownsRow wr.heap.size 3 1 (.slice (some ⟨wr.heap.size, 0, none⟩) 0 0) 0 (([] : List Int).map (Value.int .i64)) ∧ IntsAt (wr.alloc (.cells #[] 3)).drew l zl zs ∧ wr.heap.size ≤ (wr.alloc (.cells #[] 3)).drew.heap.size) := by
            refine ⟨?_, K2.out _ (below2 HJ.out.b hdA), hdA.size⟩
            have := World.ownsRow_lit (e := 3) (size := 1) (base := wr.heap.size) wr #[] 0 (by simp) (by unfold maxLen; omega) (by simp)
            exact ownsRow_below (by simpa using this) (below_drew _)
          have KDD : Hid (∀ W, Below wr.heap.size wr W → (W.cell? ⟨D, 0, none⟩ = some (.int .i64 0) ∧ W.cell? ⟨D, 1, none⟩ = some (.slice none 0 0) ∧ W.cell? ⟨D, 2, none⟩ = some (.slice none 0 0) ∧ W.cell? ⟨D, 3, none⟩ = some (.slice none 0 0)) ∧ W.frozen? ⟨D, 0, none⟩ = false ∧ W.frozen? ⟨D, 1, none⟩ = false ∧ W.frozen? ⟨D, 2, none⟩ = false ∧ W.frozen? ⟨D, 3, none⟩ = false) := fun W hW => by
            have R := RDr.out.below hW RDr.out.lt
            have z0 := R.cell 0
            have z1 := R.cell 1
            have z2 := R.cell 2
            have z3 := R.cell 3
            simp at z0 z1 z2 z3
            exact ⟨⟨z0, z1, z2, z3⟩, R.free 0, R.free 1, R.free 2, R.free 3⟩
          have KFI : Hid (∀ g2 c2 w2, w2.ownsRow wr.heap.size 3 1 (.slice (some ⟨g2, 0, none⟩) zl c2) zl (zs.map (Value.int .i64)) → Below wr.heap.size wr w2 → CsF w w0 A D f n m zl g1 c1 g2 c2 g3 c3 N Y zs l d ((((w2.setCell ⟨D, 0, none⟩ (.int .i64 f)).setCell ⟨D, 1, none⟩ (.slice (some ⟨g1, 0, none⟩) n c1)).setCell ⟨D, 2, none⟩ (.slice (some ⟨g2, 0, none⟩) zl c2)).setCell ⟨D, 3, none⟩ (.slice (some ⟨g3, 0, none⟩) m c3))) := fun g2 c2 w2 ho hb => HJ.out.fin HL.out KB0.out RAr.out RDr.out HZL.out ho hb
          go_upto_region 10 with fail
          clear x0 x2 x3
          obtain ⟨x0, x2⟩ := KS.out wr (Below.refl _ _)
          go_region_held3 (fun w' => w'.cell? ⟨A, 0, none⟩ = some (.int .i64 f) ∧ w'.cell? ⟨A, 2, none⟩ = some (.slice l zl d)) (first | exact KS.out _ (by with_reducible assumption) | exact KF2.out.s) ((refine step_app_ints _ (by rfl) _ _ (by rfl) wr.heap.size _ _ 0 zl zl [] zs rfl HZL.out (Nat.zero_add _) (by rfl) ?_ _ _ (by rfl) ?_ ?_ ?_ ?_; exact KA.out.1; exact KA.out.2.1; (have := HZ1.out; omega); exact KA.out.2.2; intro g2 c2 w2 hown2 hgrow2; have b2 : Below wr.heap.size wr w2 := hdA.trans (grown_b hgrow2 (Nat.le_refl _) hdA.size); have KF2 : Hid (CsF w w0 A D f n m zl g1 c1 g2 c2 g3 c3 N Y zs l d _) := KFI.out g2 c2 w2 hown2 b2; obtain ⟨⟨d0, d1, d2, d3⟩, e0, e1, e2, e3⟩ := KDD.out w2 b2; clear hown2 hgrow2))
          all_goals
            go_wp2_with fail
            obtain ⟨F1, F2, F3, kf⟩ := KF2.out.o
            exact bodyPost_ret (v := ntV f (.slice (some ⟨g1, 0, none⟩) n c1) (.slice (some ⟨g2, 0, none⟩) zl c2) (.slice (some ⟨g3, 0, none⟩) m c3)) (results_cell_row Try.results17 _ _ D 31 _ (0, 0) _ (by rfl) KF2.out.r Try.underlying31 (by rfl) Try.infoNt) rfl ⟨g1, c1, g2, c2, g3, c3, F1, F2, F3, rfl, kf⟩
end Go.Proofs.Ytjhbjfplgmcbpaa
