/- For every input: the function Wipe of the program answers as its model does, whatever its net and its number are; it leaves the net as it was, and its answer owns its memory. No condition. -/
import Derived.Test.YtjhbjfplgmcbpaaI42
import Derived.Test.YtjhbjfplgmcbpaaI41
import Derived.Test.YtjhbjfplgmcbpaaI33
import Derived.Deep.CutRange
namespace Go.Proofs.Ytjhbjfplgmcbpaa
set_option maxRecDepth 2000
open Go.ChangeShapes Go.WideShapes Go.ChangeAt Go.RowKit

theorem wtT_syk {n : Nat} {N : Nat → Nd} {zs : List Int} {m : Nat} {Y : Nat → Sy} (h : wtT n N zs m Y ≤ 1048576) (i : Nat) (hi : i < m) : SyK (Y i) := by
  unfold wtT wtYs at h
  have h1 : wtY (Y i) ≤ tot (fun i => wtY (Y i)) m := tot_ge2 (g := fun i => wtY (Y i)) hi
  have h2 : wtY (Y i) ≤ 1048576 := by omega
  unfold wtY wtP at h2
  refine ⟨by omega, by omega, by omega, by omega, fun j hj => ?_⟩
  have : ((Y i).p.S j).size ≤ tot (fun j => ((Y i).p.S j).size) (Y i).p.m := tot_ge2 (g := fun j => ((Y i).p.S j).size) hj
  omega
theorem ofy_mono {k k' : Nat} (Y : Nat → Sy) (h : k ≤ k') (m : Nat) : ofy k Y m ≤ ofy k' Y m := by
  induction m with
  | zero => exact h
  | succ m ih => show ofy k Y m + 9 + (Y m).p.m ≤ ofy k' Y m + 9 + (Y m).p.m; omega
theorem tot_mono3 {g h : Nat → Nat} (hg : ∀ i, g i ≤ h i) (n : Nat) : tot g n ≤ tot h n := by
  induction n with
  | zero => exact Nat.le_refl _
  | succ n ih => have := hg n; show tot g n + g n ≤ tot h n + h n; omega
theorem wi_w {id : Int} {n : Nat} {N : Nat → Nd} {zs : List Int} {m : Nat} {Y : Nat → Sy} (h : NtW n N zs m Y) : NtW n (wiN id N) zs m Y := by
  refine ⟨h.kn, fun i hi => ?_, h.kz, h.km, h.kY, ?_⟩
  · unfold wiN
    split
    · exact ⟨Nat.zero_le _, fun j hj => absurd hj (Nat.not_lt_zero j)⟩
    · exact h.kN i hi
  · have h1 : tot (fun i => wkN (wiN id N i)) n ≤ tot (fun i => wkN (N i)) n := tot_mono3 (fun i => by
      unfold wiN
      split
      · unfold wkN; simp [tot]
      · exact Nat.le_refl _) n
    have h2 : mq2 n (wiN id N) zs ≤ mq2 n N zs := by unfold mq2 mq1; omega
    exact Nat.le_trans (ofy_mono Y h2 m) h.kq
theorem rd_marks {W : World} {b : Option Addr} {L d k : Nat} (h : Rd W (inD (marks k L)) (.slice b L d)) : IntsAt W b L (marks k L) := by
  have e : (marks k L).length = L := by unfold marks eI; simp
  have h' : Rd W (inD (marks k L)) (.slice b (marks k L).length d) := by rw [e]; exact h
  have := rd_ints.1 h'
  rw [e] at this
  exact this
/-- What stands in memory while the law is gone through. -/
structure WiF (w4 : World) (X bg G : Nat) (f : Int) (n m : Nat) (zs : List Int) (g1 g2 g3 : Nat) (b2 : Option Addr) (d2 h1 h3 : Nat) (NQ : Nat → Nd) (ZQ : List Int) (YQ : Nat → Sy) (W : World) : Prop where
  bw : Below w4.heap.size w4 W
  rx : Row W X 31 #[.int .i64 f, .slice (some ⟨g1, 0, none⟩) n n, .slice (some ⟨g2, 0, none⟩) zs.length zs.length, .slice (some ⟨g3, 0, none⟩) m m]
  rg : Row W G 31 #[.int .i64 f, .slice (some ⟨h1, 0, none⟩) n n, .slice b2 zs.length d2, .slice (some ⟨h3, 0, none⟩) m m]
  og : ∃ F1 F2 F3 : Nat → Prop, NtO W bg n NQ ZQ m YQ (.slice (some ⟨h1, 0, none⟩) n n) (.slice b2 zs.length d2) (.slice (some ⟨h3, 0, none⟩) m m) F1 F2 F3 ∧ ∀ x, F1 x ∨ F2 x ∨ F3 x → bg ≤ x ∧ x < G
section
variable {w4 W W' : World} {X bg G : Nat} {f : Int} {n m : Nat} {zs : List Int} {g1 g2 g3 : Nat} {b2 : Option Addr} {d2 h1 h3 : Nat} {NQ NR : Nat → Nd} {ZQ ZR : List Int} {YQ YR : Nat → Sy}
theorem WiF.below (h : WiF w4 X bg G f n m zs g1 g2 g3 b2 d2 h1 h3 NQ ZQ YQ W) (hb : Below W.heap.size W W') : WiF w4 X bg G f n m zs g1 g2 g3 b2 d2 h1 h3 NQ ZQ YQ W' := by
  obtain ⟨F1, F2, F3, o, hl⟩ := h.og
  exact ⟨below2 h.bw hb, h.rx.below hb h.rx.lt, h.rg.below hb h.rg.lt, F1, F2, F3, o.below hb, hl⟩
theorem WiF.turnX {F : Nat → Prop} (h : WiF w4 X bg G f n m zs g1 g2 g3 b2 d2 h1 h3 NQ ZQ YQ W) (ht : Trn W W' F) (hF : ∀ g, F g → w4.heap.size ≤ g ∧ g < X) (hX : X < bg) (hG : bg ≤ G) : WiF w4 X bg G f n m zs g1 g2 g3 b2 d2 h1 h3 NQ ZQ YQ W' := by
  obtain ⟨F1, F2, F3, o, hl⟩ := h.og
  refine ⟨h.bw.trans (ht.below (fun g k => (hF g k).1) h.bw.size), (ht.block X h.rx.lt (fun k => by have := hF X k; omega)).trans h.rx, (ht.block G h.rg.lt (fun k => by have := hF G k; omega)).trans h.rg, F1, F2, F3, ⟨o.n.turned ht (fun g hg k => ?_), o.z.turned ht (fun g hg k => ?_), o.y.turned ht (fun g hg k => ?_), o.d1, o.d2, o.d3⟩, hl⟩
  · have := hl g (.inl hg); have := hF g k; omega
  · have := hl g (.inr (.inl hg)); have := hF g k; omega
  · have := hl g (.inr (.inr hg)); have := hF g k; omega
theorem WiF.turnG {F1 F2 F3 : Nat → Prop} (h : WiF w4 X bg G f n m zs g1 g2 g3 b2 d2 h1 h3 NQ ZQ YQ W) (ht : Trn W W' (fun x => F1 x ∨ F2 x ∨ F3 x)) (hF : ∀ x, F1 x ∨ F2 x ∨ F3 x → bg ≤ x ∧ x < G) (o : NtO W' bg n NR ZR m YR (.slice (some ⟨h1, 0, none⟩) n n) (.slice b2 zs.length d2) (.slice (some ⟨h3, 0, none⟩) m m) F1 F2 F3) (hb : w4.heap.size ≤ bg) (hX : X < bg) : WiF w4 X bg G f n m zs g1 g2 g3 b2 d2 h1 h3 NR ZR YR W' :=
  ⟨h.bw.trans (ht.below (fun g k => by have := hF g k; omega) h.bw.size), (ht.block X h.rx.lt (fun k => by have := hF X k; omega)).trans h.rx, (ht.block G h.rg.lt (fun k => by have := hF G k; omega)).trans h.rg, F1, F2, F3, o, hF⟩
end
set_option maxHeartbeats 8000000 in
theorem walk_FnExactWipe (f : Int) (a : Option Addr) (n c : Nat) (l : Option Addr) (zs : List Int) (d : Nat) (e : Option Addr) (m g : Nat) (N : Nat → Nd) (Y : Nat → Sy) (id : Int) (w : World) (w0 : NetA w a n c l zs e m g N Y) (_w1 : (Lit.int .i64 id).wf = true) :
    Calls Try.prog 3 #[.agg #[.int .i64 f, .slice a n c, .slice l zs.length d, .slice e m g], .int .i64 id] w fun e w' => e = .returned (.bool true) ∧ Below w.heap.size w w' := by
  clear _w1
  have hT := w0
  clear w0
  have KA : Hid (∀ W, Below w.heap.size w W → NetA W a n c l zs e m g N Y) := fun W hW => ⟨hT.rn.below hW, hT.rl.below hW, hT.ry.below hW, hT.hn, hT.hl, hT.hm, hT.bn, hT.by'⟩
  obtain ⟨B, HB⟩ : ∃ x, Hid (x = w.heap.size) := ⟨_, rfl⟩
  obtain ⟨w0, HW0⟩ : ∃ x, Hid (x = w.alloc (.cells #[.int .i64 f, .slice a n c, .slice l zs.length d, .slice e m g] 26)) := ⟨_, rfl⟩
  have HR0 : Hid (Row w0 B 26 #[.int .i64 f, .slice a n c, .slice l zs.length d, .slice e m g]) := by show Row _ _ _ _; rw [HW0.out, HB.out]; exact Row.new w _ _
  have hb0 : Below w.heap.size w w0 := by rw [HW0.out]; exact (Below.refl _ _).alloc (Nat.le_refl _) _
  have KZ : Hid (Calls Try.prog 5 #[.agg #[.int .i64 f, .slice a n c, .slice l zs.length d, .slice e m g], .int .i64 ((1048576 : Nat) : Int)] w0 _) := szNt_any f a n c l zs d e m g N Y 1048576 w0 (KA.out _ hb0) (by omega)
  have KB0 : Hid (Below w.heap.size w w0) := hb0
  clear hb0 hT
  by_cases h0 : wtT n N zs m Y ≤ 1048576
  case neg =>
    rw [szN_no h0] at KZ
    clear h0
    go_enter Try.func3, Try.ntmps3
    go_wp2_with (rw [← HW0.out, ← HB.out]; refine wpList_load_row (by rfl) 26 _ (by rfl) B (by rfl) 26 #[.int .i64 f, .slice a n c, .slice l zs.length d, .slice e m g] (0, 0) _ ?_ Try.underlying26 (by rfl) Try.infoNtL2 ?_; exact  HR0.out)
    refine Calls.mono KZ.out ?_
    rintro e' w1 ⟨rfl, b1⟩
    go_wp2
    go_ret
    exact ⟨rfl, below2 KB0.out b1⟩
  obtain ⟨left, hleft⟩ : ∃ q, 1048576 - wtT n N zs m Y = q := ⟨_, rfl⟩
  rw [szN_yes h0, hleft] at KZ
  have neg0 : ¬ ((left : Int) < 0) := by omega
  obtain ⟨hQ, hW⟩ := wtT_little h0
  have hSy := wtT_syk h0
  have hW' : NtW n (wiN id N) zs m Y := wi_w hW
  obtain ⟨NW, HNW⟩ : ∃ x, Hid (wiN id N = x) := ⟨_, rfl⟩
  rw [HNW.out] at hW'
  obtain ⟨mx, HMX⟩ : ∃ x, Hid (mq3 n N zs m Y = x) := ⟨_, rfl⟩
  obtain ⟨mq, HMQ⟩ : ∃ x, Hid (mq3 n NW zs m Y = x) := ⟨_, rfl⟩
  have KTo : Hid (∀ W, NetA W a n c l zs e m g N Y → Calls Try.prog 7 #[.agg #[.int .i64 f, .slice a n c, .slice l zs.length d, .slice e m g]] W fun r w' => ∃ g1 g2 g3, r = .returned (ntV f (.slice (some ⟨g1, 0, none⟩) n n) (.slice (some ⟨g2, 0, none⟩) zs.length zs.length) (.slice (some ⟨g3, 0, none⟩) m m)) ∧ (∃ F1 F2 F3, NtO w' W.heap.size n N zs m Y (.slice (some ⟨g1, 0, none⟩) n n) (.slice (some ⟨g2, 0, none⟩) zs.length zs.length) (.slice (some ⟨g3, 0, none⟩) m m) F1 F2 F3 ∧ ∀ x, F1 x ∨ F2 x ∨ F3 x → W.heap.size ≤ x ∧ x < w'.heap.size) ∧ Below W.heap.size W w') := fun W hW' => by
    refine (toNt_any f a n c l zs d e m g N Y W hW' hW.kn hW.kN hW.kz hW.km hW.kY).mono ?_
    rintro r w' ⟨g1, g2, g3, rfl, F1, F2, F3, o1, o2, o3, d1, d2, d3, bb⟩
    obtain ⟨G1, G2, G3, o, hd⟩ := NtO.cut (⟨o1, o2, o3, d1, d2, d3⟩ : NtO w' W.heap.size n N zs m Y _ _ _ F1 F2 F3)
    exact ⟨g1, g2, g3, rfl, ⟨G1, G2, G3, o, hd⟩, bb⟩
  have KSp : Hid (∀ g1 g2 g3 W, Rd W (ndsD n N) (.slice (some ⟨g1, 0, none⟩) n n) ∧ IntsAt W (some ⟨g2, 0, none⟩) zs.length zs ∧ Rd W (sysD m Y) (.slice (some ⟨g3, 0, none⟩) m m) → Calls Try.prog 6 #[ntV f (.slice (some ⟨g1, 0, none⟩) n n) (.slice (some ⟨g2, 0, none⟩) zs.length zs.length) (.slice (some ⟨g3, 0, none⟩) m m), .int .i64 id] W fun r w' => ∃ e1 c1 e2 c2 e3 c3, r = .returned (ntV f (.slice (some ⟨e1, 0, none⟩) n c1) (.slice (some ⟨e2, 0, none⟩) zs.length c2) (.slice (some ⟨e3, 0, none⟩) m c3)) ∧ (Rd w' (ndsD n NW) (.slice (some ⟨e1, 0, none⟩) n c1) ∧ IntsAt w' (some ⟨e2, 0, none⟩) zs.length zs ∧ Rd w' (sysD m Y) (.slice (some ⟨e3, 0, none⟩) m c3)) ∧ Below W.heap.size W w') := fun g1 g2 g3 W h => by
    have := sWipe_any f (some ⟨g1, 0, none⟩) n n (some ⟨g2, 0, none⟩) zs zs.length (some ⟨g3, 0, none⟩) m m N Y id W h.1 h.2.1 h.2.2 hW.kn hW.kz hW.km (fun i hi => ⟨(hQ i hi).n, (hQ i hi).s⟩) hW.kY
    rw [HNW.out] at this
    refine this.mono ?_
    rintro r w' ⟨e1, c1, e2, c2, e3, c3, F1, F2, F3, rfl, o, _, bb⟩
    exact ⟨e1, c1, e2, c2, e3, c3, rfl, ⟨o.n.rd, rd_ints.1 o.z.rd, o.y.rd⟩, bb⟩
  have KIm : Hid (∀ g1 g2 g3 W, Rd W (ndsD n N) (.slice (some ⟨g1, 0, none⟩) n n) ∧ IntsAt W (some ⟨g2, 0, none⟩) zs.length zs ∧ Rd W (sysD m Y) (.slice (some ⟨g3, 0, none⟩) m m) → Calls Try.prog 8 #[ntV f (.slice (some ⟨g1, 0, none⟩) n n) (.slice (some ⟨g2, 0, none⟩) zs.length zs.length) (.slice (some ⟨g3, 0, none⟩) m m), .int .i64 id] W fun r w' => ∃ h1 b2 d2 h3, r = .returned (ntV f (.slice (some ⟨h1, 0, none⟩) n n) (.slice b2 zs.length d2) (.slice (some ⟨h3, 0, none⟩) m m)) ∧ (∃ F1 F2 F3, NtO w' W.heap.size n NW zs m Y (.slice (some ⟨h1, 0, none⟩) n n) (.slice b2 zs.length d2) (.slice (some ⟨h3, 0, none⟩) m m) F1 F2 F3 ∧ ∀ x, F1 x ∨ F2 x ∨ F3 x → W.heap.size ≤ x ∧ x < w'.heap.size) ∧ Below W.heap.size W w') := fun g1 g2 g3 W h => by
    have := wipe_any f (some ⟨g1, 0, none⟩) n n (some ⟨g2, 0, none⟩) zs zs.length (some ⟨g3, 0, none⟩) m m N Y id W h.1 h.2.1 h.2.2 hW.kn hW.kz hW.km (fun i hi => ⟨(hQ i hi).n, (hQ i hi).k⟩) hSy
    rw [HNW.out] at this
    refine this.mono ?_
    rintro r w' ⟨h1, b2, d2, h3, F1, F2, F3, rfl, o, hl, bb⟩
    exact ⟨h1, b2, d2, h3, rfl, ⟨F1, F2, F3, o, hl⟩, bb⟩
  have KEq : Hid (∀ a1 c1 a2 c2 a3 c3 b1 k1 b2 k2 b3 k3 W, (Rd W (ndsD n N) (.slice a1 n c1) ∧ IntsAt W a2 zs.length zs ∧ Rd W (sysD m Y) (.slice a3 m c3)) → (Rd W (ndsD n N) (.slice b1 n k1) ∧ IntsAt W b2 zs.length zs ∧ Rd W (sysD m Y) (.slice b3 m k3)) → Calls Try.prog 9 #[ntV f (.slice a1 n c1) (.slice a2 zs.length c2) (.slice a3 m c3), ntV f (.slice b1 n k1) (.slice b2 zs.length k2) (.slice b3 m k3)] W fun r w' => r = .returned (.bool true) ∧ Below W.heap.size W w') := fun a1 c1 a2 c2 a3 c3 b1 k1 b2 k2 b3 k3 W h1 h2 => eqNt_same f a1 b1 n c1 k1 a2 b2 zs c2 k2 a3 b3 m c3 k3 N Y W h1.1 h2.1 h1.2.1 h2.2.1 h1.2.2 h2.2.2 hW.kn hW.kN hW.kz hW.km hW.kY
  have KEw : Hid (∀ a1 c1 a2 c2 a3 c3 b1 k1 b2 k2 b3 k3 W, (Rd W (ndsD n NW) (.slice a1 n c1) ∧ IntsAt W a2 zs.length zs ∧ Rd W (sysD m Y) (.slice a3 m c3)) → (Rd W (ndsD n NW) (.slice b1 n k1) ∧ IntsAt W b2 zs.length zs ∧ Rd W (sysD m Y) (.slice b3 m k3)) → Calls Try.prog 9 #[ntV f (.slice a1 n c1) (.slice a2 zs.length c2) (.slice a3 m c3), ntV f (.slice b1 n k1) (.slice b2 zs.length k2) (.slice b3 m k3)] W fun r w' => r = .returned (.bool true) ∧ Below W.heap.size W w') := fun a1 c1 a2 c2 a3 c3 b1 k1 b2 k2 b3 k3 W h1 h2 => eqNt_same f a1 b1 n c1 k1 a2 b2 zs c2 k2 a3 b3 m c3 k3 NW Y W h1.1 h2.1 h1.2.1 h2.2.1 h1.2.2 h2.2.2 hW'.kn hW'.kN hW'.kz hW'.km hW'.kY
  have KMx : Hid (∀ B a1 c1 a2 c2 a3 c3 F1 F2 F3 W, NtO W B n N zs m Y (.slice a1 n c1) (.slice a2 zs.length c2) (.slice a3 m c3) F1 F2 F3 → Calls Try.prog 10 #[ntV f (.slice a1 n c1) (.slice a2 zs.length c2) (.slice a3 m c3), .int .i64 1] W fun r w' => r = .returned (.int .i64 (mx : Int)) ∧ Trn W w' (fun x => F1 x ∨ F2 x ∨ F3 x)) := fun B a1 c1 a2 c2 a3 c3 F1 F2 F3 W h => by
    have := markNt_any f B n N zs m Y a1 a2 a3 c1 c2 c3 F1 F2 F3 W h hW
    rw [HMX.out] at this
    exact this.mono fun r w' k => ⟨k.1, k.2.2⟩
  have KMk : Hid (∀ B a1 c1 a2 c2 a3 c3 F1 F2 F3 W, NtO W B n NW zs m Y (.slice a1 n c1) (.slice a2 zs.length c2) (.slice a3 m c3) F1 F2 F3 → Calls Try.prog 10 #[ntV f (.slice a1 n c1) (.slice a2 zs.length c2) (.slice a3 m c3), .int .i64 1] W fun r w' => r = .returned (.int .i64 (mq : Int)) ∧ NtO w' B n (mkNL 1 NW) (marks (mq1 n NW) zs.length) m (mkdY (mq2 n NW zs) Y) (.slice a1 n c1) (.slice a2 zs.length c2) (.slice a3 m c3) F1 F2 F3 ∧ Trn W w' (fun x => F1 x ∨ F2 x ∨ F3 x)) := fun B a1 c1 a2 c2 a3 c3 F1 F2 F3 W h => by
    have := markNt_any f B n NW zs m Y a1 a2 a3 c1 c2 c3 F1 F2 F3 W h hW'
    rw [HMQ.out] at this
    exact this
  have KHe : Hid (∀ a1 c1 a2 c2 a3 c3 W, Rd W (ndsD n (mkNL 1 NW)) (.slice a1 n c1) → IntsAt W a2 zs.length (marks (mq1 n NW) zs.length) → Rd W (sysD m (mkdY (mq2 n NW zs) Y)) (.slice a3 m c3) → Calls Try.prog 11 #[ntV f (.slice a1 n c1) (.slice a2 zs.length c2) (.slice a3 m c3), .int .i64 1] W fun r w' => r = .returned (.int .i64 (mq : Int)) ∧ Below W.heap.size W w') := fun a1 c1 a2 c2 a3 c3 W k1 k2 k3 => by
    have := heldNt_any f n NW zs m Y a1 a2 a3 c1 c2 c3 W k1 k2 k3 ⟨hW'.kn, hW'.kN, hW'.kz, hW'.km, hW'.kY, hW'.kq⟩
    rw [HMQ.out] at this
    exact this
  have nx : ¬ ((mx : Int) < 0) := by omega
  have nq : ¬ ((mq : Int) < 0) := by omega
  have nqq : ((mq : Int) != (mq : Int)) = false := by simp
  clear h0 hleft hQ hW hSy hW' HMX HMQ
  go_enter Try.func3, Try.ntmps3
  go_wp2_with (rw [← HW0.out, ← HB.out]; refine wpList_load_row (by rfl) 26 _ (by rfl) B (by rfl) 26 #[.int .i64 f, .slice a n c, .slice l zs.length d, .slice e m g] (0, 0) _ ?_ Try.underlying26 (by rfl) Try.infoNtL2 ?_; exact  HR0.out)
  refine Calls.mono KZ.out ?_
  rintro e' w1 ⟨rfl, b1⟩
  have HR1 : Hid (Row w1 B 26 #[.int .i64 f, .slice a n c, .slice l zs.length d, .slice e m g]) := HR0.out.below b1 HR0.out.lt
  have KB1 : Hid (Below w.heap.size w w1) := below2 KB0.out b1
  clear b1 KZ HR0 HW0 KB0
  go_wp2_with (refine wpList_load_row (by rfl) 26 _ (by rfl) B (by rfl) 26 #[.int .i64 f, .slice a n c, .slice l zs.length d, .slice e m g] (0, 0) _ ?_ Try.underlying26 (by rfl) Try.infoNtL2 ?_; exact  HR1.out)
  refine Calls.mono (KTo.out _ (KA.out _ KB1.out)) ?_
  rintro e' w2 ⟨g21, g22, g23, rfl, ⟨_, _, _, O2, _⟩, b2⟩
  have HR2 : Hid (Row w2 B 26 #[.int .i64 f, .slice a n c, .slice l zs.length d, .slice e m g]) := HR1.out.below b2 HR1.out.lt
  have KB2 : Hid (Below w.heap.size w w2) := below2 KB1.out b2
  have KS2 : Hid _ := KSp.out g21 g22 g23 w2 ⟨O2.n.rd, rd_ints.1 O2.z.rd, O2.y.rd⟩
  clear b2 O2 HR1 KB1
  go_wp2_with fail
  refine Calls.mono KS2.out ?_
  rintro e' w3 ⟨e1, c1, e2, c2, e3, c3, rfl, O3, b3⟩
  obtain ⟨E, HE⟩ : ∃ x, Hid (x = w3.heap.size) := ⟨_, rfl⟩
  obtain ⟨w4, HW4⟩ : ∃ x, Hid (x = w3.alloc (.cells #[.int .i64 f, .slice (some ⟨e1, 0, none⟩) n c1, .slice (some ⟨e2, 0, none⟩) zs.length c2, .slice (some ⟨e3, 0, none⟩) m c3] 31)) := ⟨_, rfl⟩
  have b34 : Below w3.heap.size w3 w4 := by rw [HW4.out]; exact (Below.refl _ _).alloc (Nat.le_refl _) _
  have HE4 : Row w4 E 31 #[.int .i64 f, .slice (some ⟨e1, 0, none⟩) n c1, .slice (some ⟨e2, 0, none⟩) zs.length c2, .slice (some ⟨e3, 0, none⟩) m c3] := by rw [HW4.out, HE.out]; exact Row.new w3 _ _
  have HR4 : Row w4 B 26 #[.int .i64 f, .slice a n c, .slice l zs.length d, .slice e m g] := (HR2.out.below b3 HR2.out.lt).below b34 (Nat.lt_of_lt_of_le HR2.out.lt b3.size)
  have KB4 : Hid (Below w.heap.size w w4) := below2 KB2.out (below2 b3 b34)
  have KE : Hid (∀ W, Below w4.heap.size w4 W → Row W E 31 #[.int .i64 f, .slice (some ⟨e1, 0, none⟩) n c1, .slice (some ⟨e2, 0, none⟩) zs.length c2, .slice (some ⟨e3, 0, none⟩) m c3] ∧ Row W B 26 #[.int .i64 f, .slice a n c, .slice l zs.length d, .slice e m g] ∧ (Rd W (ndsD n NW) (.slice (some ⟨e1, 0, none⟩) n c1) ∧ IntsAt W (some ⟨e2, 0, none⟩) zs.length zs ∧ Rd W (sysD m Y) (.slice (some ⟨e3, 0, none⟩) m c3)) ∧ NetA W a n c l zs e m g N Y) := fun W hW => ⟨HE4.below hW HE4.lt, HR4.below hW HR4.lt, ⟨(O3.1.below b34).below hW, (O3.2.1.below b34).below hW, (O3.2.2.below b34).below hW⟩, KA.out _ (below2 KB4.out hW)⟩
  have HR4' : Hid (Row w4 B 26 #[.int .i64 f, .slice a n c, .slice l zs.length d, .slice e m g]) := HR4
  have KT4 : Hid _ := KTo.out _ (KE.out w4 (Below.refl _ _)).2.2.2
  clear b3 b34 O3 HR2 KB2 KS2 HE4 HR4 KA
  go_wp2_with (rw [← HW4.out, ← HE.out]; refine wpList_load_row (by rfl) 26 _ (by rfl) B (by rfl) 26 #[.int .i64 f, .slice a n c, .slice l zs.length d, .slice e m g] (0, 0) _ ?_ Try.underlying26 (by rfl) Try.infoNtL2 ?_; exact  HR4'.out)
  refine Calls.mono KT4.out ?_
  rintro e' w5 ⟨g1, g2, g3, rfl, ⟨X1, X2, X3, O5, hF5⟩, b5⟩
  obtain ⟨X, HX⟩ : ∃ x, Hid (x = w5.heap.size) := ⟨_, rfl⟩
  obtain ⟨w6, HW6⟩ : ∃ x, Hid (x = w5.alloc (.cells #[.int .i64 f, .slice (some ⟨g1, 0, none⟩) n n, .slice (some ⟨g2, 0, none⟩) zs.length zs.length, .slice (some ⟨g3, 0, none⟩) m m] 31)) := ⟨_, rfl⟩
  have b56 : Below w5.heap.size w5 w6 := by rw [HW6.out]; exact (Below.refl _ _).alloc (Nat.le_refl _) _
  have b46 : Below w4.heap.size w4 w6 := below2 b5 b56
  have HX6 : Hid (Row w6 X 31 #[.int .i64 f, .slice (some ⟨g1, 0, none⟩) n n, .slice (some ⟨g2, 0, none⟩) zs.length zs.length, .slice (some ⟨g3, 0, none⟩) m m]) := by show Row _ _ _ _; rw [HW6.out, HX.out]; exact Row.new w5 _ _
  obtain ⟨bg, HBG⟩ : ∃ x, Hid (w6.heap.size = x) := ⟨_, rfl⟩
  have KO6 : Hid (NtO w6 w4.heap.size n N zs m Y (.slice (some ⟨g1, 0, none⟩) n n) (.slice (some ⟨g2, 0, none⟩) zs.length zs.length) (.slice (some ⟨g3, 0, none⟩) m m) X1 X2 X3) := O5.below b56
  have HFX : Hid (∀ x, X1 x ∨ X2 x ∨ X3 x → w4.heap.size ≤ x ∧ x < X) := fun x hx => by rw [HX.out]; exact hF5 x hx
  have HLs : Hid (X < bg ∧ w4.heap.size ≤ bg) := ⟨by rw [← HBG.out]; exact HX6.out.lt, by rw [← HBG.out]; exact b46.size⟩
  have KB6 : Hid (Below w4.heap.size w4 w6) := b46
  have KC6 : Hid _ := KIm.out g1 g2 g3 w6 ⟨KO6.out.n.rd, rd_ints.1 KO6.out.z.rd, KO6.out.y.rd⟩
  clear b5 b56 b46 O5 hF5 HW4 HE HR4' KT4
  go_wp2_with (rw [← HW6.out, ← HX.out]; refine wpList_load_row (by rfl) 31 _ (by rfl) X (by rfl) 31 #[.int .i64 f, .slice (some ⟨g1, 0, none⟩) n n, .slice (some ⟨g2, 0, none⟩) zs.length zs.length, .slice (some ⟨g3, 0, none⟩) m m] (0, 0) _ ?_ Try.underlying31 (by rfl) Try.infoNt ?_; exact HX6.out)
  refine Calls.mono KC6.out ?_
  rintro e' w7 ⟨h1, b2, d2, h3, rfl, ⟨F1, F2, F3, O7, hF7⟩, b7⟩
  obtain ⟨G, HG⟩ : ∃ x, Hid (x = w7.heap.size) := ⟨_, rfl⟩
  obtain ⟨w8, HW8⟩ : ∃ x, Hid (x = w7.alloc (.cells #[.int .i64 f, .slice (some ⟨h1, 0, none⟩) n n, .slice b2 zs.length d2, .slice (some ⟨h3, 0, none⟩) m m] 31)) := ⟨_, rfl⟩
  have b78 : Below w7.heap.size w7 w8 := by rw [HW8.out]; exact (Below.refl _ _).alloc (Nat.le_refl _) _
  have b68 : Below w6.heap.size w6 w8 := below2 b7 b78
  have F8 : Hid (WiF w4 X bg G f n m zs g1 g2 g3 b2 d2 h1 h3 NW zs Y w8) := by
    refine ⟨below2 KB6.out b68, HX6.out.below b68 HX6.out.lt, by rw [HW8.out, HG.out]; exact Row.new w7 _ _, F1, F2, F3, ?_, fun x hx => ⟨by rw [← HBG.out]; exact (hF7 x hx).1, by rw [HG.out]; exact (hF7 x hx).2⟩⟩
    have := O7.below b78
    rw [HBG.out] at this
    exact this
  have HLt : Hid (X < bg ∧ w4.heap.size ≤ bg ∧ bg ≤ G) := ⟨HLs.out.1, HLs.out.2, by rw [← HBG.out, HG.out]; exact b7.size⟩
  have KO8 : Hid (NtO w8 w4.heap.size n N zs m Y (.slice (some ⟨g1, 0, none⟩) n n) (.slice (some ⟨g2, 0, none⟩) zs.length zs.length) (.slice (some ⟨g3, 0, none⟩) m m) X1 X2 X3) := KO6.out.below b68
  have KEg : Hid (∀ W, WiF w4 X bg G f n m zs g1 g2 g3 b2 d2 h1 h3 NW zs Y W → Calls Try.prog 9 #[ntV f (.slice (some ⟨h1, 0, none⟩) n n) (.slice b2 zs.length d2) (.slice (some ⟨h3, 0, none⟩) m m), ntV f (.slice (some ⟨e1, 0, none⟩) n c1) (.slice (some ⟨e2, 0, none⟩) zs.length c2) (.slice (some ⟨e3, 0, none⟩) m c3)] W fun r w' => r = .returned (.bool true) ∧ Below W.heap.size W w') := fun W hF => by
    obtain ⟨_, _, _, o, _⟩ := hF.og
    exact KEw.out _ _ _ _ _ _ _ _ _ _ _ _ W ⟨o.n.rd, rd_ints.1 o.z.rd, o.y.rd⟩ (KE.out _ hF.bw).2.2.1
  have RE8 : Hid _ := (KE.out _ F8.out.bw).1
  clear b7 b78 b68 O7 hF7 HX6 KO6 KC6 HW6 HLs KB6 HBG
  go_wp2_with (first | ((try rw [← HW8.out, ← HG.out]); refine wpList_load_row (by rfl) 31 _ (by rfl) G (by rfl) 31 #[.int .i64 f, .slice (some ⟨h1, 0, none⟩) n n, .slice b2 zs.length d2, .slice (some ⟨h3, 0, none⟩) m m] (0, 0) _ ?_ Try.underlying31 (by rfl) Try.infoNt ?_; exact F8.out.rg) | (refine wpList_load_row (by rfl) 31 _ (by rfl) E (by rfl) 31 #[.int .i64 f, .slice (some ⟨e1, 0, none⟩) n c1, .slice (some ⟨e2, 0, none⟩) zs.length c2, .slice (some ⟨e3, 0, none⟩) m c3] (0, 0) _ ?_ Try.underlying31 (by rfl) Try.infoNt ?_; exact RE8.out))
  refine Calls.mono (KEg.out _ F8.out) ?_
  rintro e' w9 ⟨rfl, b9⟩
  have F9 : Hid (WiF w4 X bg G f n m zs g1 g2 g3 b2 d2 h1 h3 NW zs Y w9) := F8.out.below b9
  have KO9 : Hid (NtO w9 w4.heap.size n N zs m Y (.slice (some ⟨g1, 0, none⟩) n n) (.slice (some ⟨g2, 0, none⟩) zs.length zs.length) (.slice (some ⟨g3, 0, none⟩) m m) X1 X2 X3) := KO8.out.below b9
  clear b9 F8 KO8 HW8 HG RE8
  go_upto_region 10 with fail
  go_cut [35] from 31 to 35 (fun v wx => Hid (v = .bool false ∧ Below w9.heap.size w9 wx))
  case first =>
    have RB := (KE.out _ F9.out.bw).2.1
    have q0 := RB.cell 0
    have q1 := RB.cell 1
    have q2 := RB.cell 2
    have q3 := RB.cell 3
    have y0 := F9.out.rx.cell 0
    have y1 := F9.out.rx.cell 1
    have y2 := F9.out.rx.cell 2
    have y3 := F9.out.rx.cell 3
    simp at q0 q1 q2 q3 y0 y1 y2 y3
    have lB := RB.lt
    have lX := F9.out.rx.lt
    have KTP : Hid _ := KTo.out w9.drew (KE.out w9.drew (below_drewN F9.out.bw 1)).2.2.2
    have KO9r : Hid (∀ W, Below w9.heap.size w9 W → Rd W (ndsD n N) (.slice (some ⟨g1, 0, none⟩) n n) ∧ IntsAt W (some ⟨g2, 0, none⟩) zs.length zs ∧ Rd W (sysD m Y) (.slice (some ⟨g3, 0, none⟩) m m)) := fun W hW => ⟨KO9.out.n.rd.below hW, (rd_ints.1 KO9.out.z.rd).below hW, KO9.out.y.rd.below hW⟩
    have KS : Hid (∀ W, Below w9.heap.size w9 W → (W.cell? ⟨B, 0, none⟩ = some (.int .i64 f) ∧ W.cell? ⟨B, 1, none⟩ = some (.slice a n c) ∧ W.cell? ⟨B, 2, none⟩ = some (.slice l zs.length d) ∧ W.cell? ⟨B, 3, none⟩ = some (.slice e m g)) ∧ W.cell? ⟨X, 0, none⟩ = some (.int .i64 f) ∧ W.cell? ⟨X, 1, none⟩ = some (.slice (some ⟨g1, 0, none⟩) n n) ∧ W.cell? ⟨X, 2, none⟩ = some (.slice (some ⟨g2, 0, none⟩) zs.length zs.length) ∧ W.cell? ⟨X, 3, none⟩ = some (.slice (some ⟨g3, 0, none⟩) m m)) := fun W hW => ⟨⟨(hW.cell (p := ⟨B, 0, none⟩) lB).trans q0, (hW.cell (p := ⟨B, 1, none⟩) lB).trans q1, (hW.cell (p := ⟨B, 2, none⟩) lB).trans q2, (hW.cell (p := ⟨B, 3, none⟩) lB).trans q3⟩, (hW.cell (p := ⟨X, 0, none⟩) lX).trans y0, (hW.cell (p := ⟨X, 1, none⟩) lX).trans y1, (hW.cell (p := ⟨X, 2, none⟩) lX).trans y2, (hW.cell (p := ⟨X, 3, none⟩) lX).trans y3⟩
    have hdr : Below w9.heap.size w9 w9.drew := below_drew w9
    clear RB
    go_region_held3 (fun w' => (w'.cell? ⟨B, 0, none⟩ = some (.int .i64 f) ∧ w'.cell? ⟨B, 1, none⟩ = some (.slice a n c) ∧ w'.cell? ⟨B, 2, none⟩ = some (.slice l zs.length d) ∧ w'.cell? ⟨B, 3, none⟩ = some (.slice e m g)) ∧ w'.cell? ⟨X, 0, none⟩ = some (.int .i64 f) ∧ w'.cell? ⟨X, 1, none⟩ = some (.slice (some ⟨g1, 0, none⟩) n n) ∧ w'.cell? ⟨X, 2, none⟩ = some (.slice (some ⟨g2, 0, none⟩) zs.length zs.length) ∧ w'.cell? ⟨X, 3, none⟩ = some (.slice (some ⟨g3, 0, none⟩) m m)) (exact KS.out _ (by with_reducible assumption)) ((first | (go_at_call 7; refine Calls.mono (KTP.out) ?_; rintro e' v7 ⟨k1, k2, k3, rfl, ⟨_, _, _, O7, _⟩, b7'⟩; have b7 := below_of_drew b7'; clear b7'; have KO7 : Hid (Rd v7 (ndsD n N) (.slice (some ⟨k1, 0, none⟩) n n) ∧ IntsAt v7 (some ⟨k2, 0, none⟩) zs.length zs ∧ Rd v7 (sysD m Y) (.slice (some ⟨k3, 0, none⟩) m m)) := ⟨O7.n.rd, rd_ints.1 O7.z.rd, O7.y.rd⟩; clear O7) | (guard_hyp b7; go_at_call 9; refine Calls.mono (KEq.out _ _ _ _ _ _ _ _ _ _ _ _ _ (KO9r.out _ b7) KO7.out) ?_; rintro e' v8 ⟨rfl, b8⟩; have b78 := below2 b7 b8; clear b8)))
    all_goals
      go_wp2_with fail
      go_meet
      exact ⟨rfl, b78⟩
  obtain ⟨rfl, bc⟩ := hcut.out
  clear hcut
  have Fc : Hid (WiF w4 X bg G f n m zs g1 g2 g3 b2 d2 h1 h3 NW zs Y wc) := F9.out.below bc
  have KMc : Hid _ := KMx.out w4.heap.size _ n _ zs.length _ m X1 X2 X3 wc (KO9.out.below bc)
  clear bc F9 KO9
  go_wp2_with (refine wpList_load_row (by rfl) 31 _ (by rfl) X (by rfl) 31 #[.int .i64 f, .slice (some ⟨g1, 0, none⟩) n n, .slice (some ⟨g2, 0, none⟩) zs.length zs.length, .slice (some ⟨g3, 0, none⟩) m m] (0, 0) _ ?_ Try.underlying31 (by rfl) Try.infoNt ?_; exact Fc.out.rx)
  refine Calls.mono KMc.out ?_
  rintro e' w12 ⟨rfl, T12⟩
  have F12 : Hid (WiF w4 X bg G f n m zs g1 g2 g3 b2 d2 h1 h3 NW zs Y w12) := Fc.out.turnX T12 HFX.out HLt.out.1 HLt.out.2.2
  have RE12 := (KE.out _ F12.out.bw).1
  have r0 := F12.out.rg.cell 0
  have r1 := F12.out.rg.cell 1
  have r2 := F12.out.rg.cell 2
  have r3 := F12.out.rg.cell 3
  have m0 := RE12.cell 0
  have m1 := RE12.cell 1
  have m2 := RE12.cell 2
  have m3 := RE12.cell 3
  simp at r0 r1 r2 r3 m0 m1 m2 m3
  clear T12 Fc KMc RE12
  go_wp2_with fail
  refine Calls.mono (KEg.out _ F12.out) ?_
  rintro e' w13 ⟨rfl, b13⟩
  have F13 : Hid (WiF w4 X bg G f n m zs g1 g2 g3 b2 d2 h1 h3 NW zs Y w13) := F12.out.below b13
  clear b13 F12 r0 r1 r2 r3 m0 m1 m2 m3
  have KM13 : Hid (Calls Try.prog 10 #[ntV f (.slice (some ⟨h1, 0, none⟩) n n) (.slice b2 zs.length d2) (.slice (some ⟨h3, 0, none⟩) m m), .int .i64 1] w13 fun r w' => r = .returned (.int .i64 (mq : Int)) ∧ WiF w4 X bg G f n m zs g1 g2 g3 b2 d2 h1 h3 (mkNL 1 NW) (marks (mq1 n NW) zs.length) (mkdY (mq2 n NW zs) Y) w') := by
    obtain ⟨F1, F2, F3, o, hl⟩ := F13.out.og
    refine (KMk.out bg _ n _ d2 _ m F1 F2 F3 w13 o).mono ?_
    rintro r w' ⟨rfl, o', t'⟩
    exact ⟨rfl, F13.out.turnG t' hl o' HLt.out.2.1 HLt.out.1⟩
  have KHg : Hid (∀ W, WiF w4 X bg G f n m zs g1 g2 g3 b2 d2 h1 h3 (mkNL 1 NW) (marks (mq1 n NW) zs.length) (mkdY (mq2 n NW zs) Y) W → Calls Try.prog 11 #[ntV f (.slice (some ⟨h1, 0, none⟩) n n) (.slice b2 zs.length d2) (.slice (some ⟨h3, 0, none⟩) m m), .int .i64 1] W fun r w' => r = .returned (.int .i64 (mq : Int)) ∧ Below W.heap.size W w') := fun W hF => by
    obtain ⟨_, _, _, o, _⟩ := hF.og
    exact KHe.out _ n _ d2 _ m W o.n.rd (rd_marks o.z.rd) o.y.rd
  go_wp2_with (refine wpList_load_row (by rfl) 31 _ (by rfl) G (by rfl) 31 #[.int .i64 f, .slice (some ⟨h1, 0, none⟩) n n, .slice b2 zs.length d2, .slice (some ⟨h3, 0, none⟩) m m] (0, 0) _ ?_ Try.underlying31 (by rfl) Try.infoNt ?_; exact F13.out.rg)
  refine Calls.mono KM13.out ?_
  rintro e' w14 ⟨rfl, F14'⟩
  have F14 : Hid (WiF w4 X bg G f n m zs g1 g2 g3 b2 d2 h1 h3 (mkNL 1 NW) (marks (mq1 n NW) zs.length) (mkdY (mq2 n NW zs) Y) w14) := F14'
  clear F14' F13 KM13
  go_wp2_with (refine wpList_load_row (by rfl) 31 _ (by rfl) G (by rfl) 31 #[.int .i64 f, .slice (some ⟨h1, 0, none⟩) n n, .slice b2 zs.length d2, .slice (some ⟨h3, 0, none⟩) m m] (0, 0) _ ?_ Try.underlying31 (by rfl) Try.infoNt ?_; exact F14.out.rg)
  refine Calls.mono (KHg.out _ F14.out) ?_
  rintro e' w15 ⟨rfl, b15⟩
  have F15 : Hid (WiF w4 X bg G f n m zs g1 g2 g3 b2 d2 h1 h3 (mkNL 1 NW) (marks (mq1 n NW) zs.length) (mkdY (mq2 n NW zs) Y) w15) := F14.out.below b15
  have RB15 : Hid (Row w15 B 26 #[.int .i64 f, .slice a n c, .slice l zs.length d, .slice e m g]) := (KE.out _ F15.out.bw).2.1
  have KT15 : Hid _ := KTo.out _ (KE.out _ F15.out.bw).2.2.2
  clear b15 F14
  go_wp2_with (refine wpList_load_row (by rfl) 26 _ (by rfl) B (by rfl) 26 #[.int .i64 f, .slice a n c, .slice l zs.length d, .slice e m g] (0, 0) _ ?_ Try.underlying26 (by rfl) Try.infoNtL2 ?_; exact  RB15.out)
  refine Calls.mono KT15.out ?_
  rintro e' w16 ⟨k1, k2, k3, rfl, ⟨_, _, _, O16, _⟩, b16⟩
  have F16 : Hid (WiF w4 X bg G f n m zs g1 g2 g3 b2 d2 h1 h3 (mkNL 1 NW) (marks (mq1 n NW) zs.length) (mkdY (mq2 n NW zs) Y) w16) := F15.out.below b16
  have KC16 : Hid _ := KIm.out k1 k2 k3 w16 ⟨O16.n.rd, rd_ints.1 O16.z.rd, O16.y.rd⟩
  clear b16 O16 F15 RB15 KT15
  go_wp2_with fail
  refine Calls.mono KC16.out ?_
  rintro e' w17 ⟨q1, p2, r2, q3, rfl, ⟨_, _, _, O17, _⟩, b17⟩
  obtain ⟨H, HH⟩ : ∃ x, Hid (x = w17.heap.size) := ⟨_, rfl⟩
  obtain ⟨w18, HW18⟩ : ∃ x, Hid (x = w17.alloc (.cells #[.int .i64 f, .slice (some ⟨q1, 0, none⟩) n n, .slice p2 zs.length r2, .slice (some ⟨q3, 0, none⟩) m m] 31)) := ⟨_, rfl⟩
  have b1718 : Below w17.heap.size w17 w18 := by rw [HW18.out]; exact (Below.refl _ _).alloc (Nat.le_refl _) _
  have RH : Hid (Row w18 H 31 #[.int .i64 f, .slice (some ⟨q1, 0, none⟩) n n, .slice p2 zs.length r2, .slice (some ⟨q3, 0, none⟩) m m]) := by show Row _ _ _ _; rw [HW18.out, HH.out]; exact Row.new w17 _ _
  have F18 : Hid (WiF w4 X bg G f n m zs g1 g2 g3 b2 d2 h1 h3 (mkNL 1 NW) (marks (mq1 n NW) zs.length) (mkdY (mq2 n NW zs) Y) w18) := (F16.out.below b17).below b1718
  have KEq2 : Hid _ := KEw.out _ n _ r2 _ m _ c1 _ c2 _ c3 w18 ⟨O17.n.rd.below b1718, (rd_ints.1 O17.z.rd).below b1718, O17.y.rd.below b1718⟩ (KE.out _ F18.out.bw).2.2.1
  have RE18 : Hid _ := (KE.out _ F18.out.bw).1
  clear b17 b1718 O17 F16 KC16
  go_wp2_with (first | ((try rw [← HW18.out, ← HH.out]); refine wpList_load_row (by rfl) 31 _ (by rfl) H (by rfl) 31 #[.int .i64 f, .slice (some ⟨q1, 0, none⟩) n n, .slice p2 zs.length r2, .slice (some ⟨q3, 0, none⟩) m m] (0, 0) _ ?_ Try.underlying31 (by rfl) Try.infoNt ?_; exact RH.out) | (refine wpList_load_row (by rfl) 31 _ (by rfl) E (by rfl) 31 #[.int .i64 f, .slice (some ⟨e1, 0, none⟩) n c1, .slice (some ⟨e2, 0, none⟩) zs.length c2, .slice (some ⟨e3, 0, none⟩) m c3] (0, 0) _ ?_ Try.underlying31 (by rfl) Try.infoNt ?_; exact RE18.out))
  refine Calls.mono KEq2.out ?_
  rintro e' w19 ⟨rfl, b19⟩
  have F19 : Hid (WiF w4 X bg G f n m zs g1 g2 g3 b2 d2 h1 h3 (mkNL 1 NW) (marks (mq1 n NW) zs.length) (mkdY (mq2 n NW zs) Y) w19) := F18.out.below b19
  clear b19 F18 KEq2 RH RE18
  go_wp2_with (refine wpList_load_row (by rfl) 31 _ (by rfl) G (by rfl) 31 #[.int .i64 f, .slice (some ⟨h1, 0, none⟩) n n, .slice b2 zs.length d2, .slice (some ⟨h3, 0, none⟩) m m] (0, 0) _ ?_ Try.underlying31 (by rfl) Try.infoNt ?_; exact F19.out.rg)
  refine Calls.mono (KHg.out _ F19.out) ?_
  rintro e' w20 ⟨rfl, b20⟩
  have KF : Hid (Below w.heap.size w w20) := below2 KB4.out (below2 F19.out.bw b20)
  clear b20 F19
  go_wp2
  go_ret
  exact ⟨rfl, KF.out⟩
end Go.Proofs.Ytjhbjfplgmcbpaa
namespace Go.Proofs.Ytjhbjfplgmcbpaa.fnExactWipe
open Go.ChangeShapes Go.WideShapes Go.ChangeAt Go.RowKit
open Go.ChangeMaps (open_string shut_string)
set_option linter.unusedVariables false
theorem own : ownKnob Try.prog.godebug = none := by kernel_rfl
theorem laidOut : laidOutB Try.prog = true := by kernel_rfl
set_option maxRecDepth 100000 in
theorem lifted (os : Os) (started : os.Started) (H : Type) (enc : TypeId × Value → H) :
    ReturnsInHanded {} Try.checked os 3 .any (Rows.fnExactWipeSpec.pre6 enc Try.prog Try.f3 Rows.fnExactWipeRow.domain false) (Rows.fnExactWipeSpec.post enc Try.prog Try.f3 false true false false) := by
  refine returnsInHanded_of_change (C := Try.checked) own started (by kernel_rfl) Try.func3
    (ChangeSpec.witness6 (enc := enc) (C := Try.checked) false ⟨#[], #[.agg #[.int .i64 0, .slice none 0 0, .slice none 0 0, .slice none 0 0], .int .i64 0], []⟩ 8 (by kernel_rfl) (by kernel_rfl) (by kernel_rfl) (by kernel_rfl)) ?_
  intro W base args ds gs before hval0 hW hcnd _
  have hval : ∀ (j : Nat) t v, Try.f3.params[j]? = some t → args[j]? = some v → Value.okWide Try.prog W .any base t v := hval0
  have hW' := hW
  obtain ⟨p, q, hA0, hV, rfl, hfz, hnd⟩ := hW
  have hA : DataW.TrodAll enc Try.prog W 0 (fun _ => true) true Try.f3.params.toList args.toList ds p := hA0
  rw [Try.params3] at hA hval
  obtain ⟨v0, vs0, d0, ds0, p0, q0, hargs, rfl, rfl, h0, r0⟩ := trodAll_cons hA
  obtain ⟨v1, vs1, d1, ds1, p1, q1, rfl, rfl, rfl, h1, r1⟩ := trodAll_cons r0
  obtain ⟨rfl, rfl, rfl⟩ := trodAll_nil r1
  obtain rfl : args = #[v0, v1] := by cases args; simp_all
  obtain ⟨rfl, rfl⟩ := trodVars_none hV
  obtain ⟨cs0, rfl, _, _⟩ : ∃ cs, v0 = .agg cs ∧ cs.size = Try.prog.cellsOf 26 ∧ Row.okWide Try.prog W .any base 26 cs := by
    have := hval 0 26 v0 rfl rfl
    simpa [Value.okWide, Try.underlying26] using this
  have k0 := h0
  have lt0 : ∀ x ∈ p0, x.block < W.heap.size := by obtain ⟨m, hm⟩ := k0; exact DataW.trod_lt m _ _ _ hm
  obtain ⟨r0f, r0a, r0n, r0c, r0l, r0z, r0d, r0e, r0m, r0g, r0N, r0Y, hcs0, w0⟩ : ∃ (f : Int) (a : Option Addr) (n c : Nat) (l : Option Addr) (zs : List Int) (d : Nat) (e : Option Addr) (m g : Nat) (N : Nat → Nd) (Y : Nat → Sy), cs0.toList = [.int .i64 f, .slice a n c, .slice l zs.length d, .slice e m g] ∧ NetA W a n c l zs e m g N Y := by
    obtain ⟨fuel, hf⟩ := h0
    exact open_net (by simpa [Value.cells] using hf)
  obtain ⟨l0⟩ := cs0
  obtain rfl : l0 = _ := hcs0
  obtain ⟨a1, rfl, rfl, rfl, w1⟩ := open_int Try.underlying3 (hval 1 3 v1 rfl rfl) h1
  clear hA0 hval0
  refine (walk_FnExactWipe r0f r0a r0n r0c r0l r0z r0d r0e r0m r0g r0N r0Y a1 W w0 w1).mono fun e W' ⟨he, bel⟩ => ?_
  subst he
  exact ⟨_, rfl, _, _, _, [], _, [], hW', trodAll_mk1 (shut_bool Try.underlying4 _), (trodAll_cons_mk (Below.trod laidOut (by kernel_rfl) (of_decide_eq_true (by kernel_rfl)) k0 bel lt0) (trodAll_cons_mk (shut_int Try.underlying3 w1) trodAll_mk0)), rfl, bel.frame _, fun h => by cases h⟩
theorem over : Rows.fnExactWipeRow.holds Try.pinned (OpenSpec.ofChange Rows.fnExactWipeSpec) :=
  OpenClaim.holds_of_wide 3 Try.f3 rfl rfl rfl rfl rfl rfl rfl ⟨rfl, rfl, rfl, rfl, rfl⟩ rfl rfl rfl rfl rfl (by kernel_rfl) Try.func3 (by kernel_rfl)
    (of_decide_eq_true (by kernel_rfl)) (by unfold Func.isWrapper; first | (rw [if_pos (by decide +kernel)]; kernel_rfl) | (rw [if_neg (by decide +kernel)]; exact ⟨rfl, rfl⟩))
    (fun os started H enc _ => lifted os started H enc)
theorem proved : Rows.FnExactWipeSaid := over
#print axioms proved
end Go.Proofs.Ytjhbjfplgmcbpaa.fnExactWipe
