/- A net, copied, in the program. Conditions: lists and texts of at most 2^20. -/
import Derived.Test.YtjhbjfplgmcbpaaI34
import Derived.Test.YtjhbjfplgmcbpaaI36
import Derived.Test.YtjhbjfplgmcbpaaI37
import Derived.Deep.CutRange
namespace Go.Proofs.Ytjhbjfplgmcbpaa
set_option maxRecDepth 2000
open Go.ChangeShapes Go.WideShapes Go.ChangeAt Go.RowKit

/-- One struct more of a list that is being filled. -/
theorem ow_fill {W : World} {B t sz g n k : Nat} {P : Nat → Nat → Dt} {Z : Nat → Dt} {vs : List Value} {H : Nat → Nat → Prop} {F : Nat → Prop} (h : Ow W B (.lst t sz n (fun i => if i < k then P i else Z)) (.slice (some ⟨g, 0, none⟩) n n) F) (hk : k < n) (hl : vs.length = sz)
    (hv : ∀ q, q < sz → Ow W B (P k q) (vs.getD q undef) (H q)) (h1 : ∀ q x, q < sz → H q x → ¬ F x) (h2 : ∀ q q' x, q < sz → q' < sz → H q x → H q' x → q = q') :
    Ow (W.setCells g (k * sz) vs) B (.lst t sz n (fun i => if i < k + 1 then P i else Z)) (.slice (some ⟨g, 0, none⟩) n n) (fun x => F x ∨ ∃ q, q < sz ∧ H q x) := by
  refine Ow.congr (Ow.store (d := P k) h hk hl hv h1 h2 (fun x hx => .inl hx) (fun q x hq hx => .inr ⟨q, hq, hx⟩)) ?_
  intro i q _ _
  by_cases e : i = k
  · subst e; simp
  · by_cases e2 : i < k
    · simp [e, e2, show i < k + 1 by omega]
    · simp [e, e2, show ¬ i < k + 1 by omega]
theorem ow_there {W : World} {B t sz g n k : Nat} {fd : Nat → Nat → Dt} {F : Nat → Prop} (h : Ow W B (.lst t sz n fd) (.slice (some ⟨g, 0, none⟩) n n) F) (hk : k < n) : W.there g (k * sz) sz := by
  obtain ⟨a', cap', c', G', e', ho', _⟩ := h
  cases e'
  intro j hj
  refine ⟨?_, World.ownsRow.frozenAt ho' _⟩
  rw [World.ownsRow.cellAt ho' _ (mid_lt hk hj), cL_get _ _ _ _ _ hk hj]
  rfl
/-- The two lists that are being filled. -/
structure CtI (w0 : World) (g1 g3 n m k1 k3 : Nat) (N : Nat → Nd) (Y : Nat → Sy) (W : World) : Prop where
  o : ∃ F1 F3 : Nat → Prop, Ow W w0.heap.size (.lst 46 3 n (fun i => if i < k1 then ndD (N i) else ndD ndN)) (.slice (some ⟨g1, 0, none⟩) n n) F1 ∧ Ow W w0.heap.size (.lst 80 10 m (fun i => if i < k3 then syD (Y i) else syD syN)) (.slice (some ⟨g3, 0, none⟩) m m) F3 ∧ (∀ x, F1 x → ¬ F3 x) ∧ ∀ x, F1 x ∨ F3 x → w0.heap.size ≤ x ∧ x < W.heap.size
  b : Below w0.heap.size w0 W
theorem CtI.below {w0 W W' : World} {g1 g3 n m k1 k3 : Nat} {N : Nat → Nd} {Y : Nat → Sy} (h : CtI w0 g1 g3 n m k1 k3 N Y W) (hb : Below W.heap.size W W') : CtI w0 g1 g3 n m k1 k3 N Y W' := by
  obtain ⟨F1, F3, o1, o3, hd, hl⟩ := h.o
  exact ⟨⟨F1, F3, o1.below hb, o3.below hb, hd, fun x hx => ⟨(hl x hx).1, Nat.lt_of_lt_of_le (hl x hx).2 hb.size⟩⟩, below2 h.b hb⟩
theorem head_of {W : World} {B t sz g n : Nat} {fd : Nat → Nat → Dt} {F : Nat → Prop} (h : Ow W B (.lst t sz n fd) (.slice (some ⟨g, 0, none⟩) n n) F) : F g := by
  obtain ⟨_, _, _, _, e, _, hs, _⟩ := h
  cases e
  exact hs.head _ rfl
theorem CtI.node {w0 W W2 : World} {g1 g3 n m k k3 gs wB : Nat} {N : Nat → Nd} {Y : Nat → Sy} (h : CtI w0 g1 g3 n m k k3 N Y W) (hk : k < n) (b2 : Below W.heap.size W W2) (hB : W.heap.size ≤ wB) (o2 : Ow W2 wB (slsD (N k).n (N k).S) (.slice (some ⟨gs, 0, none⟩) (N k).n (N k).n) (rng wB W2.heap.size)) :
    CtI w0 g1 g3 n m (k + 1) k3 N Y (W2.setCells g1 (k * 3) [.int .i64 (N k).i, .int .i64 (N k).f, .slice (some ⟨gs, 0, none⟩) (N k).n (N k).n]) ∧ W2.there g1 (k * 3) 3 := by
  obtain ⟨F1, F3, o1, o3, hd, hl⟩ := h.o
  have O1 := o1.below b2
  have hg := head_of o1
  have lg := hl g1 (.inl hg)
  have s0 := h.b.size
  have s2 := b2.size
  refine ⟨⟨⟨_, F3, ow_fill O1 hk rfl (fun q hq => ow_node (o2.base (by omega)) q hq) ?_ (fun q q' x _ _ hx hx' => hx.1.trans hx'.1.symm), (o3.below b2).frame (fun x hx _ => heap_setCells_other g1 _ _ W2 x (fun e => hd g1 hg (e ▸ hx))), ?_, ?_⟩, below_setCells (below2 h.b b2) lg.1 _ _⟩, ow_there O1 hk⟩
  · intro q x _ hx hf
    have h2 := (hl x (.inl hf)).2
    have h3 : wB ≤ x := hx.2.1
    omega
  · intro x hx hf
    rcases hx with hx | ⟨q, _, hx⟩
    · exact hd x hx hf
    · have h2 := (hl x (.inr hf)).2
      have h3 : wB ≤ x := hx.2.1
      omega
  · intro x hx
    rw [size_setCells]
    rcases hx with (hx | ⟨q, _, hx⟩) | hx
    · have := hl x (.inl hx); omega
    · have h3 : wB ≤ x := hx.2.1
      have h4 : x < W2.heap.size := hx.2.2
      omega
    · have := hl x (.inr hx); omega
theorem CtI.say {w0 W W2 : World} {g1 g3 n m k1 k gs wB : Nat} {N : Nat → Nd} {Y : Nat → Sy} (h : CtI w0 g1 g3 n m k1 k N Y W) (hk : k < m) (b2 : Below W.heap.size W W2) (hB : W.heap.size ≤ wB) (o2 : OwnT W2 wB (some ⟨gs, 0, none⟩) (Y k).p.m (Y k).p.m (Y k).p.S) :
    CtI w0 g1 g3 n m k1 (k + 1) N Y (W2.setCells g3 (k * 10) (syC (Y k) (.slice (some ⟨gs, 0, none⟩) (Y k).p.m (Y k).p.m)).toList) ∧ W2.there g3 (k * 10) 10 := by
  obtain ⟨F1, F3, o1, o3, hd, hl⟩ := h.o
  have O3 := o3.below b2
  have hg := head_of o3
  have lg := hl g3 (.inr hg)
  have s0 := h.b.size
  have s2 := b2.size
  have l2 := World.ownsRow.lt o2 gs rfl
  have o2' : Ow W2 w0.heap.size (txD (Y k).p.m (Y k).p.S) (.slice (some ⟨gs, 0, none⟩) (Y k).p.m (Y k).p.m) (fun x => x = gs) := ow_txt (OwnT.base o2 (by omega)) (fun x e => by cases e; rfl)
  refine ⟨⟨⟨F1, _, (o1.below b2).frame (fun x hx _ => heap_setCells_other g3 _ _ W2 x (fun e => hd x hx (e ▸ hg))), ow_fill O3 hk rfl (fun q hq => ow_say o2' q hq) ?_ (fun q q' x _ _ hx hx' => hx.1.trans hx'.1.symm), ?_, ?_⟩, below_setCells (below2 h.b b2) lg.1 _ _⟩, ow_there O3 hk⟩
  · intro q x _ hx hf
    have h2 := (hl x (.inr hf)).2
    have h3 : x = gs := hx.2
    omega
  · intro x hf hx
    rcases hx with hx | ⟨q, _, hx⟩
    · exact hd x hf hx
    · have h2 := (hl x (.inl hf)).2
      have h3 : x = gs := hx.2
      omega
  · intro x hx
    rw [size_setCells]
    rcases hx with hx | (hx | ⟨q, _, hx⟩)
    · have := hl x (.inl hx); omega
    · have := hl x (.inr hx); omega
    · have h3 : x = gs := hx.2
      omega
theorem make_nds (c : Nat) (hc : c ≤ 1048576) (W : World) : (Instr.makeSlice 28 (.int .i64 (c : Int)) (.int .i64 (c : Int))).run Try.prog W = .ok (.slice (some ⟨W.heap.size, 0, none⟩) c c) (W.alloc (.cells (madeCells zcN.toArray (c * 3)) 46)) := by
  obtain ⟨i0, hi, hz0, hz1, hz2⟩ := info_parts Try.infoNdZ2
  have hr := run_make (P := Try.prog) W 28 46 i0 (.agg zcN.toArray) Try.underlying28 hi hz0 .i64 .i64 c c (by omega) (Int.le_refl _) (by rw [hz2]; omega) (by omega)
  simp only [Int.toNat_natCast, hz1] at hr
  exact hr
theorem make_sys (c : Nat) (hc : c ≤ 1048576) (W : World) : (Instr.makeSlice 29 (.int .i64 (c : Int)) (.int .i64 (c : Int))).run Try.prog W = .ok (.slice (some ⟨W.heap.size, 0, none⟩) c c) (W.alloc (.cells (madeCells zcY.toArray (c * 10)) 80)) := by
  obtain ⟨i0, hi, hz0, hz1, hz2⟩ := info_parts Try.infoSyZ
  have hr := run_make (P := Try.prog) W 29 80 i0 (.agg zcY.toArray) Try.underlying29 hi hz0 .i64 .i64 c c (by omega) (Int.le_refl _) (by rw [hz2]; omega) (by omega)
  simp only [Int.toNat_natCast, hz1] at hr
  exact hr
abbrev mkN (n : Nat) (W : World) : World := W.alloc (.cells (madeCells zcN.toArray (n * 3)) 46)
abbrev mkY (m : Nat) (W : World) : World := W.alloc (.cells (madeCells zcY.toArray (m * 10)) 80)
theorem ow_nds0 (c : Nat) (hc : c ≤ 1048576) (N : Nat → Nd) (W : World) : Ow (mkN c W) W.heap.size (.lst 46 3 c (fun i => if i < 0 then ndD (N i) else ndD ndN)) (.slice (some ⟨W.heap.size, 0, none⟩) c c) (fun x => x = W.heap.size) := by
  have e : (madeCells zcN.toArray (c * 3)).toList = cL 3 (fun _ q => zcN.getD q undef) c := made_cL (zs := zcN) (by simp [zcN])
  have hown := World.ownsRow_lit (e := 46) (size := 3) (base := W.heap.size) W (madeCells zcN.toArray (c * 3)) c (Nat.le_refl _) (by unfold maxLen; omega) (by rw [← Array.length_toList, e, cL_len])
  rw [e] at hown
  have := ow_made (F := fun x => x = W.heap.size) hown (fun q hq => ow_ndZ _ W.heap.size q hq) rfl
  exact this.congr (fun i q _ _ => by simp)
theorem ow_sys0 (c : Nat) (hc : c ≤ 1048576) (Y : Nat → Sy) (W : World) : Ow (mkY c W) W.heap.size (.lst 80 10 c (fun i => if i < 0 then syD (Y i) else syD syN)) (.slice (some ⟨W.heap.size, 0, none⟩) c c) (fun x => x = W.heap.size) := by
  have e : (madeCells zcY.toArray (c * 10)).toList = cL 10 (fun _ q => zcY.getD q undef) c := made_cL (zs := zcY) (by simp [zcY])
  have hown := World.ownsRow_lit (e := 80) (size := 10) (base := W.heap.size) W (madeCells zcY.toArray (c * 10)) c (Nat.le_refl _) (by unfold maxLen; omega) (by rw [← Array.length_toList, e, cL_len])
  rw [e] at hown
  have := ow_made (F := fun x => x = W.heap.size) hown (fun q hq => ow_syZ _ W.heap.size q hq) rfl
  exact this.congr (fun i q _ _ => by simp)
theorem mkN_below (n : Nat) (W : World) : Below W.heap.size W (mkN n W) := (Below.refl _ _).alloc (Nat.le_refl _) _
theorem mkY_below (n : Nat) (W : World) : Below W.heap.size W (mkY n W) := (Below.refl _ _).alloc (Nat.le_refl _) _
theorem ct_a (n m : Nat) (hn : n ≤ 1048576) (hm : m ≤ 1048576) (N : Nat → Nd) (Y : Nat → Sy) (W : World) : CtI W W.heap.size (W.heap.size + 1) n m 0 0 N Y (mkY m (mkN n W)) := by
  have s1 : (mkN n W).heap.size = W.heap.size + 1 := by simp [mkN]
  have s2 : (mkY m (mkN n W)).heap.size = W.heap.size + 1 + 1 := by simp [mkY, mkN]
  have o3 := ow_sys0 m hm Y (mkN n W)
  rw [s1] at o3
  refine ⟨⟨_, _, (ow_nds0 n hn N W).below (mkY_below m _), o3.base (by omega), fun x h1 h2 => ?_, fun x h => ?_⟩, below2 (mkN_below n W) (mkY_below m _)⟩
  · have e1 : x = W.heap.size := h1
    have e2 : x = W.heap.size + 1 := h2
    omega
  · rw [s2]
    rcases h with h | h
    · have e1 : x = W.heap.size := h
      omega
    · have e1 : x = W.heap.size + 1 := h
      omega
theorem ct_b (n m : Nat) (hn : n ≤ 1048576) (hm : m ≤ 1048576) (N : Nat → Nd) (Y : Nat → Sy) (W : World) : CtI W (W.heap.size + 1) W.heap.size n m 0 0 N Y (mkN n (mkY m W)) := by
  have s1 : (mkY m W).heap.size = W.heap.size + 1 := by simp [mkY]
  have s2 : (mkN n (mkY m W)).heap.size = W.heap.size + 1 + 1 := by simp [mkY, mkN]
  have o3 := ow_nds0 n hn N (mkY m W)
  rw [s1] at o3
  refine ⟨⟨_, _, o3.base (by omega), (ow_sys0 m hm Y W).below (mkN_below n _), fun x h1 h2 => ?_, fun x h => ?_⟩, below2 (mkY_below m W) (mkN_below n _)⟩
  · have e1 : x = W.heap.size + 1 := h1
    have e2 : x = W.heap.size := h2
    omega
  · rw [s2]
    rcases h with h | h
    · have e1 : x = W.heap.size + 1 := h
      omega
    · have e1 : x = W.heap.size := h
      omega
set_option maxHeartbeats 8000000 in
theorem copiedT_any (f : Int) (a : Option Addr) (n c : Nat) (l : Option Addr) (zs : List Int) (d : Nat) (e : Option Addr) (m g : Nat) (N : Nat → Nd) (Y : Nat → Sy) (w : World) (h1 : Rd w (ndsD n N) (.slice a n c)) (h2 : IntsAt w l zs.length zs) (h3 : Rd w (sysD m Y) (.slice e m g)) (hn : n ≤ 1048576) (hz : zs.length ≤ 1048576) (hm : m ≤ 1048576) (hN : ∀ i, i < n → (N i).n ≤ 1048576 ∧ ∀ j, j < (N i).n → SlK ((N i).S j)) (hY : ∀ i, i < m → SyK (Y i)) :
    Calls Try.prog 22 #[ntV f (.slice a n c) (.slice l zs.length d) (.slice e m g)] w fun r w' => ∃ g1 a2 c2 g3 F1 F2 F3, r = .returned (ntV f (.slice (some ⟨g1, 0, none⟩) n n) (.slice a2 zs.length c2) (.slice (some ⟨g3, 0, none⟩) m m)) ∧ NtO w' w.heap.size n N zs m Y (.slice (some ⟨g1, 0, none⟩) n n) (.slice a2 zs.length c2) (.slice (some ⟨g3, 0, none⟩) m m) F1 F2 F3 ∧ (∀ x, F1 x ∨ F2 x ∨ F3 x → w.heap.size ≤ x ∧ x < w'.heap.size) ∧ Below w.heap.size w w' := by
  obtain ⟨zl, HZL⟩ : ∃ x, Hid (zs.length = x) := ⟨_, rfl⟩
  rw [HZL.out]
  obtain ⟨A, HA⟩ : ∃ x, Hid (x = w.heap.size) := ⟨_, rfl⟩
  obtain ⟨D, HD⟩ : ∃ x, Hid (x = w.heap.size + 1) := ⟨_, rfl⟩
  obtain ⟨w0, HW0⟩ : ∃ x, Hid (x = (w.alloc (.cells #[.int .i64 f, .slice a n c, .slice l zl d, .slice e m g] 31)).alloc (.cells #[.int .i64 0, .slice none 0 0, .slice none 0 0, .slice none 0 0] 31)) := ⟨_, rfl⟩
  have RA : Hid (Row w0 A 31 #[.int .i64 f, .slice a n c, .slice l zl d, .slice e m g]) := by show Row _ _ _ _; rw [HW0.out, HA.out]; exact Row.alloc (Row.new w _ _) _
  have RD : Hid (Row w0 D 31 #[.int .i64 0, .slice none 0 0, .slice none 0 0, .slice none 0 0]) := by
    show Row _ _ _ _
    rw [HW0.out, HD.out]
    have := Row.new (w.alloc (.cells #[.int .i64 f, .slice a n c, .slice l zl d, .slice e m g] 31)) #[.int .i64 0, .slice none 0 0, .slice none 0 0, .slice none 0 0] 31
    simpa using this
  have hb0 : Below w.heap.size w w0 := by rw [HW0.out]; exact ((Below.refl _ _).alloc (Nat.le_refl _) _).alloc (by simp) _
  have KB0 : Hid (Below w.heap.size w w0) := hb0
  have HL : Hid (A ≠ D ∧ w.heap.size ≤ A ∧ w.heap.size ≤ D ∧ A < w0.heap.size ∧ D < w0.heap.size) := ⟨by have := HA.out; have := HD.out; omega, by have := HA.out; omega, by have := HD.out; omega, RA.out.lt, RD.out.lt⟩
  have K1 : Hid (∀ W, Below w0.heap.size w0 W → Rd W (ndsD n N) (.slice a n c)) := fun W hW => (h1.below hb0).below hW
  have K3 : Hid (∀ W, Below w0.heap.size w0 W → Rd W (sysD m Y) (.slice e m g)) := fun W hW => (h3.below hb0).below hW
  have KC : Hid (∀ W, Below w0.heap.size w0 W → Calls Try.prog 44 #[.slice l zl d] W fun e w' => ∃ a' c', e = .returned (.slice a' zl c') ∧ Ow w' W.heap.size (inD zs) (.slice a' zl c') (rng W.heap.size w'.heap.size) ∧ Below W.heap.size W w') := fun W hW => by
    have := cloneI_any l d zs W ((h2.below hb0).below hW) hz
    rw [HZL.out] at this
    exact this
  have HN : Hid (∀ i, i < n → (N i).n ≤ 1048576 ∧ ∀ j, j < (N i).n → SlK ((N i).S j)) := hN
  have HY : Hid (∀ i, i < m → SyK (Y i)) := hY
  have KCA : Hid (CtI w0 w0.heap.size (w0.heap.size + 1) n m 0 0 N Y (mkY m (mkN n w0))) := ct_a n m hn hm N Y w0
  have KCB : Hid (CtI w0 (w0.heap.size + 1) w0.heap.size n m 0 0 N Y (mkN n (mkY m w0))) := ct_b n m hn hm N Y w0
  have mk1 := make_nds n hn
  have mk3 := make_sys m hm
  have y1 := RA.out.cell 1
  have y3 := RA.out.cell 3
  simp at y1 y3
  clear h1 h2 h3 hb0 hN hY
  go_enter Try.func22, Try.ntmps22
  go_wp2_with fail
  rw [← HW0.out, ← HD.out, ← HA.out]
  go_cut [3, 4] from 9 to 16 (fun v3 v4 wx => Hid (∃ g1 g3, v3 = .slice (some ⟨g1, 0, none⟩) n n ∧ v4 = .slice (some ⟨g3, 0, none⟩) m m ∧ CtI w0 g1 g3 n m 0 0 N Y wx))
  case first =>
    have z1 := (RA.out.below (mkY_below m w0) RA.out.lt).cell 1
    have z3 := (RA.out.below (mkN_below n w0) RA.out.lt).cell 3
    simp only [mkY, mkN] at z1 z3
    simp at z1 z3
    go_region
    all_goals
      go_wp2_with fail
      go_meet
      first
        | exact ⟨_, _, rfl, rfl, KCA.out.below (below_drew _)⟩
        | exact ⟨_, _, rfl, rfl, KCB.out.below (below_drew _)⟩
        | exact ⟨_, _, rfl, rfl, KCA.out⟩
        | exact ⟨_, _, rfl, rfl, KCB.out⟩
  obtain ⟨g1, g3, rfl, rfl, hc⟩ := hcut.out
  obtain ⟨w1, hw1⟩ : ∃ x, x = wc := ⟨_, rfl⟩
  subst hw1
  have KI1 : Hid (CtI w0 g1 g3 n m 0 0 N Y w1) := hc
  have RA1 : Hid (Row w1 A 31 #[.int .i64 f, .slice a n c, .slice l zl d, .slice e m g]) := RA.out.below KI1.out.b RA.out.lt
  have x1 := RA1.out.cell 1
  simp at x1
  clear hcut hc KCA KCB mk1 mk3 y1 y3
  go_wp2
  go_loopw [20] (fun vi wr => ∃ k : Nat, k ≤ n ∧ vi = .int .i64 (k : Int) ∧ Hid (CtI w0 g1 g3 n m k 0 N Y wr)) (fun vi _ => n - (intOf vi).toNat)
  case atStart => exact ⟨0, Nat.zero_le _, rfl, KI1⟩
  case round =>
    obtain ⟨k, hk, rfl, HI⟩ := hrel
    clear KI1 x1 RA1
    by_cases hlt : k < n
    · have hki : (k : Int) < (n : Int) := by omega
      obtain ⟨b1, f1, an, cn, rfl, _, R1', hr1⟩ := node_at (K1.out wr HI.out.b) hlt
      have R1 : Hid (wr.rangeAt b1 (f1 + k * 3) [.int .i64 (N k).i, .int .i64 (N k).f, .slice an (N k).n cn]) := R1'
      obtain ⟨B2, HB2⟩ : ∃ x, Hid (x = wr.heap.size) := ⟨_, rfl⟩
      obtain ⟨w2, HW2⟩ : ∃ x, Hid (x = wr.alloc (.cells #[.int .i64 (N k).i, .int .i64 (N k).f, .slice an (N k).n cn] 46)) := ⟨_, rfl⟩
      have b2 : Below wr.heap.size wr w2 := by rw [HW2.out]; exact (Below.refl _ _).alloc (Nat.le_refl _) _
      have R2 : Hid (Row w2 B2 46 #[.int .i64 (N k).i, .int .i64 (N k).f, .slice an (N k).n cn]) := by show Row _ _ _ _; rw [HW2.out, HB2.out]; exact Row.new wr _ _
      have KP : Hid _ := copiedN_any (N k).i (N k).f an (N k).n cn (N k).S w2 (hr1.below b2) (HN.out k hlt).1 (HN.out k hlt).2
      have KB2 : Hid (Below wr.heap.size wr w2) := b2
      clear R1' hr1 b2
      go_wp2_with (first | (refine wpList_load_mid (by rfl) 46 _ (by rfl) b1 (f1 + k * 3) (by rfl) [.int .i64 (N k).i, .int .i64 (N k).f, .slice an (N k).n cn] _ ?_ Try.underlying46 (by rfl) Try.infoNd ?_; exact R1.out) | (rw [← HW2.out, ← HB2.out]; refine wpList_load_row (by rfl) 46 _ (by rfl) B2 (by rfl) 46 #[.int .i64 (N k).i, .int .i64 (N k).f, .slice an (N k).n cn] (0, 0) _ ?_ Try.underlying46 (by rfl) Try.infoNd ?_; exact R2.out))
      refine Calls.mono KP.out ?_
      rintro r w3 ⟨gs, rfl, o3, b3⟩
      have hnx := HI.out.node hlt (below2 KB2.out b3) KB2.out.size o3
      obtain ⟨w4, HW4⟩ : ∃ x, Hid (x = w3.setCells g1 (k * 3) [.int .i64 (N k).i, .int .i64 (N k).f, .slice (some ⟨gs, 0, none⟩) (N k).n (N k).n]) := ⟨_, rfl⟩
      have KI4 : Hid (CtI w0 g1 g3 n m (k + 1) 0 N Y w4) := by show CtI _ _ _ _ _ _ _ _ _ _; rw [HW4.out]; exact hnx.1
      have TH : Hid (w3.there g1 (k * 3) 3) := hnx.2
      clear hnx o3 b3 KP R1 R2 HI KB2
      go_wp2_with (refine wpList_store_mid (by rfl) 46 _ _ (by rfl) g1 (k * 3) #[.int .i64 (N k).i, .int .i64 (N k).f, .slice (some ⟨gs, 0, none⟩) (N k).n (N k).n] (by rfl) (by rfl) ?_ Try.infoNd (by simp [Value.oneCell']) ?_; exact TH.out; rw [← HW4.out])
      go_roundw
      case rel => exact ⟨k + 1, by omega, by go_num, KI4⟩
      case measure => simp [intOf]; omega
    · obtain rfl : n = k := by omega
      have RAr : Hid (Row wr A 31 #[.int .i64 f, .slice a n c, .slice l zl d, .slice e m g]) := RA.out.below HI.out.b RA.out.lt
      have x3 := RAr.out.cell 3
      simp at x3
      go_wp2
      go_loopw [34] (fun vi wr => ∃ k : Nat, k ≤ m ∧ vi = .int .i64 (k : Int) ∧ Hid (CtI w0 g1 g3 n m n k N Y wr)) (fun vi _ => m - (intOf vi).toNat)
      case atStart => exact ⟨0, Nat.zero_le _, rfl, HI⟩
      case round =>
        obtain ⟨k, hk', rfl, HJ⟩ := hrel
        clear HI x3 RAr
        by_cases hlt' : k < m
        · have hki : (k : Int) < (m : Int) := by omega
          obtain ⟨b1, f1, an, cn, rfl, R1', hr1⟩ := say_at (K3.out wr HJ.out.b) hlt'
          have R1 : Hid (wr.rangeAt b1 (f1 + k * 10) [.int .i64 (Y k).k, .int .i64 (Y k).f, .int .i64 (Y k).t, .string (Y k).r, .string (Y k).p.r, .int .i64 (Y k).p.k, .int .i64 (Y k).p.n, .int .i64 (Y k).p.i, .string (Y k).p.b, .slice an (Y k).p.m cn]) := R1'
          obtain ⟨B2, HB2⟩ : ∃ x, Hid (x = wr.heap.size) := ⟨_, rfl⟩
          obtain ⟨w2, HW2⟩ : ∃ x, Hid (x = wr.alloc (.cells (syC (Y k) (.slice an (Y k).p.m cn)) 80)) := ⟨_, rfl⟩
          have b2 : Below wr.heap.size wr w2 := by rw [HW2.out]; exact (Below.refl _ _).alloc (Nat.le_refl _) _
          have R2 : Hid (Row w2 B2 80 (syC (Y k) (.slice an (Y k).p.m cn))) := by show Row _ _ _ _; rw [HW2.out, HB2.out]; exact Row.new wr _ _
          have KP : Hid _ := copiedY_any (Y k) an cn w2 (hr1.below b2) (HY.out k hlt')
          have KB2 : Hid (Below wr.heap.size wr w2) := b2
          clear R1' hr1 b2
          go_wp2_with (first | (refine wpList_load_mid (by rfl) 80 _ (by rfl) b1 (f1 + k * 10) (by rfl) [.int .i64 (Y k).k, .int .i64 (Y k).f, .int .i64 (Y k).t, .string (Y k).r, .string (Y k).p.r, .int .i64 (Y k).p.k, .int .i64 (Y k).p.n, .int .i64 (Y k).p.i, .string (Y k).p.b, .slice an (Y k).p.m cn] _ ?_ Try.underlying80 (by rfl) Try.infoSy2 ?_; exact R1.out) | (rw [← HW2.out, ← HB2.out]; refine wpList_load_row (by rfl) 80 _ (by rfl) B2 (by rfl) 80 (syC (Y k) (.slice an (Y k).p.m cn)) (0, 0) _ ?_ Try.underlying80 (by rfl) Try.infoSy2 ?_; exact R2.out))
          refine Calls.mono KP.out ?_
          rintro r w3 ⟨gs, rfl, o3, b3⟩
          have hnx := HJ.out.say hlt' (below2 KB2.out b3) KB2.out.size o3
          obtain ⟨w4, HW4⟩ : ∃ x, Hid (x = w3.setCells g3 (k * 10) (syC (Y k) (.slice (some ⟨gs, 0, none⟩) (Y k).p.m (Y k).p.m)).toList) := ⟨_, rfl⟩
          have KI4 : Hid (CtI w0 g1 g3 n m n (k + 1) N Y w4) := by show CtI _ _ _ _ _ _ _ _ _ _; rw [HW4.out]; exact hnx.1
          have TH : Hid (w3.there g3 (k * 10) 10) := hnx.2
          clear hnx o3 b3 KP R1 R2 HJ KB2
          go_wp2_with (refine wpList_store_mid (by rfl) 80 _ _ (by rfl) g3 (k * 10) (syC (Y k) (.slice (some ⟨gs, 0, none⟩) (Y k).p.m (Y k).p.m)) (by rfl) (by rfl) ?_ Try.infoSy2 (by simp [Value.oneCell']) ?_; exact TH.out; rw [← HW4.out])
          go_roundw
          case rel => exact ⟨k + 1, by omega, by go_num, KI4⟩
          case measure => simp [intOf]; omega
        · obtain rfl : m = k := by omega
          have RAr : Hid (Row wr A 31 #[.int .i64 f, .slice a n c, .slice l zl d, .slice e m g]) := RA.out.below HJ.out.b RA.out.lt
          have KCr : Hid _ := KC.out wr HJ.out.b
          have x2 := RAr.out.cell 2
          simp at x2
          go_wp2_with fail
          refine Calls.mono KCr.out ?_
          rintro r w2 ⟨a2, c2, rfl, o2, b2⟩
          have RA2 : Row w2 A 31 #[.int .i64 f, .slice a n c, .slice l zl d, .slice e m g] := RAr.out.below b2 RAr.out.lt
          have RD2 : Row w2 D 31 #[.int .i64 0, .slice none 0 0, .slice none 0 0, .slice none 0 0] := (RD.out.below HJ.out.b RD.out.lt).below b2 (Nat.lt_of_lt_of_le RD.out.lt HJ.out.b.size)
          obtain ⟨F1, F3, o1', o3', hd, hl⟩ := HJ.out.o
          have o1 := o1'.below b2
          have o3 := o3'.below b2
          obtain ⟨w3, HW3⟩ : ∃ x, Hid (x = ((w2.setCell ⟨A, 1, none⟩ (.slice (some ⟨g1, 0, none⟩) n n)).setCell ⟨A, 2, none⟩ (.slice a2 zl c2)).setCell ⟨A, 3, none⟩ (.slice (some ⟨g3, 0, none⟩) m m)) := ⟨_, rfl⟩
          obtain ⟨w4, HW4⟩ : ∃ x, Hid (x = w3.setRow D #[.int .i64 f, .slice (some ⟨g1, 0, none⟩) n n, .slice a2 zl c2, .slice (some ⟨g3, 0, none⟩) m m]) := ⟨_, rfl⟩
          have hL := HL.out
          have s1 := HJ.out.b.size
          have s2 := b2.size
          have RA3 : Hid (Row w3 A 31 #[.int .i64 f, .slice (some ⟨g1, 0, none⟩) n n, .slice a2 zl c2, .slice (some ⟨g3, 0, none⟩) m m]) := by show Row _ _ _ _; rw [HW3.out]; exact ((RA2.set 1 _).set 2 _).set 3 _
          have RD3 : Hid (Row w3 D 31 #[.int .i64 0, .slice none 0 0, .slice none 0 0, .slice none 0 0]) := by show Row _ _ _ _; rw [HW3.out]; exact ((RD2.other 1 _ (Ne.symm hL.1)).other 2 _ (Ne.symm hL.1)).other 3 _ (Ne.symm hL.1)
          have RD4 : Hid (Row w4 D 31 #[.int .i64 f, .slice (some ⟨g1, 0, none⟩) n n, .slice a2 zl c2, .slice (some ⟨g3, 0, none⟩) m m]) := by show Row _ _ _ _; rw [HW4.out]; exact RD3.out.row
          have tr : ∀ x, w0.heap.size ≤ x → w4.heap[x]? = w2.heap[x]? := fun x hx => by
            rw [HW4.out, setRow_other _ _ _ _ (show x ≠ D by omega), HW3.out]
            rw [Below.heap_setCell _ _ _ _ (show x ≠ A by omega), Below.heap_setCell _ _ _ _ (show x ≠ A by omega), Below.heap_setCell _ _ _ _ (show x ≠ A by omega)]
          have s4 : w4.heap.size = w2.heap.size := by rw [HW4.out]; simp [HW3.out]
          have sK := KB0.out.size
          have KF : Hid (∃ F1 F2 F3, NtO w4 w.heap.size n N zs m Y (.slice (some ⟨g1, 0, none⟩) n n) (.slice a2 zl c2) (.slice (some ⟨g3, 0, none⟩) m m) F1 F2 F3 ∧ (∀ x, F1 x ∨ F2 x ∨ F3 x → w.heap.size ≤ x ∧ x < w4.heap.size) ∧ Below w.heap.size w w4) := by
            refine ⟨F1, rng wr.heap.size w2.heap.size, F3, ⟨((o1.base sK).frame (fun x hx _ => tr x (hl x (.inl hx)).1)).congr (fun i q hi _ => by simp [hi]), (o2.base (by omega)).frame (fun x hx _ => tr x (by have h1 : wr.heap.size ≤ x := hx.1; omega)), ((o3.base sK).frame (fun x hx _ => tr x (hl x (.inr hx)).1)).congr (fun i q hi _ => by simp [hi]), fun x k1 k2 => ?_, hd, fun x k1 k2 => ?_⟩, fun x k => ?_, ?_⟩
            · have h1 := (hl x (.inl k1)).2
              have h2 : wr.heap.size ≤ x := k2.1
              omega
            · have h1 := (hl x (.inr k2)).2
              have h2 : wr.heap.size ≤ x := k1.1
              omega
            · rw [s4]
              rcases k with k | k | k
              · have := hl x (.inl k); omega
              · have h1 : wr.heap.size ≤ x := k.1
                have h2 : x < w2.heap.size := k.2
                omega
              · have := hl x (.inr k); omega
            · rw [HW4.out, HW3.out]
              exact belowSetRow ((((below2 KB0.out (below2 HJ.out.b b2)).setCell hL.2.1 _).setCell hL.2.1 _).setCell hL.2.1 _) hL.2.2.1 _
          have q1 := RA2.cell 1
          have q2 := RA2.cell 2
          have q3 := RA2.cell 3
          have qf1 := RA2.free 1
          have qf2 := RA2.free 2
          have qf3 := RA2.free 3
          simp at q1 q2 q3
          clear RA2 RD2 o1 o2 o3 o1' o3' hd hl tr s4 sK hL s1 s2 b2 x2
          go_wp2_with (first | (rw [← HW3.out]; refine wpList_load_row (by rfl) 31 _ (by rfl) A (by rfl) 31 #[.int .i64 f, .slice (some ⟨g1, 0, none⟩) n n, .slice a2 zl c2, .slice (some ⟨g3, 0, none⟩) m m] (0, 0) _ ?_ Try.underlying31 (by rfl) Try.infoNt ?_; exact RA3.out) | (refine wpList_store_row (by rfl) 31 _ _ (by rfl) D #[.int .i64 f, .slice (some ⟨g1, 0, none⟩) n n, .slice a2 zl c2, .slice (some ⟨g3, 0, none⟩) m m] (by rfl) (by rfl) 31 #[.int .i64 0, .slice none 0 0, .slice none 0 0, .slice none 0 0] ?_ Try.infoNt rfl (by simp [Value.oneCell']) ?_; exact RD3.out; rw [← HW4.out]))
          obtain ⟨F1, F2, F3, kf⟩ := KF.out
          exact bodyPost_ret (v := ntV f (.slice (some ⟨g1, 0, none⟩) n n) (.slice a2 zl c2) (.slice (some ⟨g3, 0, none⟩) m m)) (results_cell_row Try.results22 _ _ D 31 _ (0, 0) _ (by rfl) RD4.out Try.underlying31 (by rfl) Try.infoNt) rfl ⟨g1, a2, c2, g3, F1, F2, F3, rfl, kf⟩
end Go.Proofs.Ytjhbjfplgmcbpaa
