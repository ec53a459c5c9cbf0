/- The pieces that nodes that are no liars have of a root (NetPieces), in the program. Conditions: lists of at most 2^20. -/
import Derived.Test.YtggmcgcmpgofcaaL44
namespace Go.Proofs.Ytggmcgcmpgofcaa
set_option maxRecDepth 2000
open Go.ChangeShapes Go.WideShapes Go.ChangeAt Go.RowKit

/-- Whether a node has its piece of a root. -/
def hsB (N : Nat → Nd) (root : ByteArray) (i : Nat) : Bool := soB (N i).S root (N i).n && (soS (N i).S root (N i).n).h
def hsL (N : Nat → Nd) (root : ByteArray) (l : List Nat) : List Nat := l.filter (hsB N root)
/-- The pieces of a list of nodes. -/
def hsP (N : Nat → Nd) (root : ByteArray) (l : List Nat) (i : Nat) : Pc := (soS (N ((hsL N root l).getD i 0)).S root (N ((hsL N root l).getD i 0)).n).p
theorem hsL_snoc (N : Nat → Nd) (root : ByteArray) (l : List Nat) (x : Nat) : hsL N root (l ++ [x]) = if hsB N root x = true then hsL N root l ++ [x] else hsL N root l := by
  unfold hsL
  rw [List.filter_append]
  by_cases h : hsB N root x = true <;> simp [h]
theorem hsL_le (N : Nat → Nd) (root : ByteArray) (l : List Nat) : (hsL N root l).length ≤ l.length := List.length_filter_le _ _
/-- What stands when the nodes of a list are looked at: the pieces, and beside them what K says of a block g. -/
structure PcI (w : World) (g : Nat) (K : World → Prop) (N : Nat → Nd) (root : ByteArray) (l : List Nat) (v : Value) (len : Nat) (wr : World) : Prop where
  op : Ow wr w.heap.size (pcsD len (hsP N root l)) v (fun x => rng w.heap.size wr.heap.size x ∧ x ≠ g)
  rs : K wr
  gl : g < wr.heap.size
  ln : (hsL N root l).length = len
  bw : Below w.heap.size w wr
section
variable {w wr w5 w6 w' : World} {g : Nat} {K : World → Prop} {N : Nat → Nd} {root : ByteArray} {l : List Nat} {v : Value} {len : Nat}
theorem PcI.below (h : PcI w g K N root l v len wr) (hK : ∀ W W', W'.heap[g]? = W.heap[g]? → K W → K W') (hb : Below wr.heap.size wr w') : PcI w g K N root l v len w' :=
  ⟨(h.op.below hb).mono (fun _ hx => ⟨⟨hx.1.1, Nat.lt_of_lt_of_le hx.1.2 hb.size⟩, hx.2⟩), hK _ _ (hb.block g h.gl) h.rs, Nat.lt_of_lt_of_le h.gl hb.size, h.ln, below2 h.bw hb⟩
theorem PcI.skip {x : Nat} (h : PcI w g K N root l v len wr) (hx : hsB N root x = false) : PcI w g K N root (l ++ [x]) v len wr := by
  have e : hsL N root (l ++ [x]) = hsL N root l := by rw [hsL_snoc, if_neg (by rw [hx]; decide)]
  exact ⟨h.op.congr (fun i q _ _ => by unfold hsP; rw [e]), h.rs, h.gl, by rw [e]; exact h.ln, h.bw⟩
theorem PcI.grow {x g3 cap : Nat} {tp : Pc} {H : Nat → Nat → Prop} (h : PcI w g K N root l v len wr) (hK : ∀ W W', W'.heap[g]? = W.heap[g]? → K W → K W') (b5 : Below wr.heap.size wr w5) (hx : hsB N root x = true) (hT : (soS (N x).S root (N x).n).p = tp)
    (O6 : Ow w6 w.heap.size (.lst 77 6 (len + 1) (fun i => if i = len then pcD tp else pcD (hsP N root l i))) (.slice (some ⟨g3, 0, none⟩) (len + 1) cap) (fun y => y < w6.heap.size ∧ (((rng w.heap.size wr.heap.size y ∧ y ≠ g) ∨ ∃ q, q < 6 ∧ H q y) ∨ w5.heap.size ≤ y)))
    (b6 : Below w.heap.size w5 w6) (hs : ∀ y, y < w5.heap.size → ¬ (rng w.heap.size wr.heap.size y ∧ y ≠ g) → w6.heap[y]? = w5.heap[y]?) (hH : ∀ q y, q < 6 → H q y → wr.heap.size ≤ y) : PcI w g K N root (l ++ [x]) (.slice (some ⟨g3, 0, none⟩) (len + 1) cap) (len + 1) w6 := by
  have e : hsL N root (l ++ [x]) = hsL N root l ++ [x] := by rw [hsL_snoc, if_pos hx]
  have h5 := h.below hK b5
  have hw := h.bw.size
  have hg := h.gl
  have s5 := b5.size
  refine ⟨(O6.mono (fun y hy => ?_)).congr (fun i q hi _ => ?_), hK _ _ (hs g h5.gl (fun k => k.2 rfl)) h5.rs, Nat.lt_of_lt_of_le h5.gl b6.size, by rw [e, List.length_append, h.ln]; rfl, h5.bw.trans b6⟩
  · rcases hy.2 with (h1 | ⟨q, hq, h1⟩) | h1
    · exact ⟨⟨h1.1.1, hy.1⟩, h1.2⟩
    · have := hH q y hq h1
      exact ⟨⟨by omega, hy.1⟩, by omega⟩
    · exact ⟨⟨by omega, hy.1⟩, by omega⟩
  · by_cases ei : i = len
    · rw [if_pos ei, ← hT]
      unfold hsP
      rw [e, ei, ← h.ln]
      simp
    · rw [if_neg ei]
      have e1 : (hsL N root l ++ [x]).getD i 0 = (hsL N root l).getD i 0 := by
        rw [List.getD_eq_getElem?_getD, List.getD_eq_getElem?_getD, List.getElem?_append_left (by have := h.ln; omega)]
      unfold hsP
      rw [e, e1]
end
theorem ow_pnil (w : World) (B : Nat) (P : Nat → Pc) (hB : B ≤ w.heap.size) {F : Nat → Prop} (hF : F w.heap.size) : Ow (w.alloc (.cells #[] 77)) B (pcsD 0 P) (.slice (some ⟨w.heap.size, 0, none⟩) 0 0) F := by
  have hown := World.ownsRow_lit (e := 77) (size := 6) (base := B) w #[] 0 hB (by unfold maxLen; omega) rfl
  refine ⟨_, _, fun _ _ => undef, fun _ _ _ => False, rfl, by simpa [cL] using hown, ⟨fun x e => ?_, fun _ _ _ hi => absurd hi (Nat.not_lt_zero _), fun _ _ _ hi => absurd hi (Nat.not_lt_zero _), fun _ _ _ _ _ hi => absurd hi (Nat.not_lt_zero _)⟩, fun _ _ hi => absurd hi (Nat.not_lt_zero _)⟩
  cases e
  exact hF
theorem Try.infoPcZ : (Try.prog.info? 77).map (fun i => (i.zero, i.size, i.bytes)) = some (some (.agg #[.string ByteArray.empty, .int .i64 0, .int .i64 0, .int .i64 0, .string ByteArray.empty, .slice none 0 0]), 6, 80) := by kernel_rfl
set_option maxHeartbeats 4000000 in
theorem netPieces_any (f : Int) (a : Option Addr) (n c : Nat) (l : Option Addr) (d : Nat) (zs : List Int) (v3 : Value) (N : Nat → Nd) (root : ByteArray) (w : World) (h : Rd w (ndsD n N) (.slice a n c)) (hl : IntsAt w l zs.length zs) (hn : n ≤ 1048576) (hz : zs.length ≤ 1048576) (hQ : ∀ i, i < n → NdQ (N i)) :
    Calls Try.prog 27 #[ntV f (.slice a n c) (.slice l zs.length d) v3, .string root] w fun e w' => ∃ gg cc F, e = .returned (.slice (some ⟨gg, 0, none⟩) (hsL N root (kl (lyP zs) n)).length cc) ∧ Ow w' w.heap.size (pcsD (hsL N root (kl (lyP zs) n)).length (hsP N root (kl (lyP zs) n))) (.slice (some ⟨gg, 0, none⟩) (hsL N root (kl (lyP zs) n)).length cc) F ∧ Below w.heap.size w w' := by
  obtain ⟨i0, hi, hz0, hz1, hz2⟩ := info_parts Try.infoPcZ
  obtain ⟨A, HA⟩ : ∃ x, Hid (x = w.heap.size) := ⟨_, rfl⟩
  obtain ⟨g0, HG0⟩ : ∃ x, Hid (x = w.heap.size + 1) := ⟨_, rfl⟩
  obtain ⟨w0, HW0⟩ : ∃ x, Hid (x = (w.alloc (.cells #[.int .i64 f, .slice a n c, .slice l zs.length d, v3] 36)).alloc (.cells #[] 77)) := ⟨_, rfl⟩
  have RA : Hid (Row w0 A 36 #[.int .i64 f, .slice a n c, .slice l zs.length d, v3]) := by show Row _ _ _ _; rw [HW0.out, HA.out]; exact Row.alloc (Row.new w _ _) _
  have b0 : Below w.heap.size w w0 := by rw [HW0.out]; exact ((Below.refl _ _).alloc (Nat.le_refl _) _).alloc (by simp) _
  have hs0 : w0.heap.size = w.heap.size + 2 := by rw [HW0.out]; simp
  have HO0 : Hid (∀ F : Nat → Prop, F g0 → Ow w0 w.heap.size (pcsD 0 (hsP N root [])) (.slice (some ⟨g0, 0, none⟩) 0 0) F) := fun F hF => by
    have e : (w.alloc (.cells #[.int .i64 f, .slice a n c, .slice l zs.length d, v3] 36)).heap.size = g0 := by rw [HG0.out]; simp
    have := ow_pnil (w.alloc (.cells #[.int .i64 f, .slice a n c, .slice l zs.length d, v3] 36)) w.heap.size (hsP N root []) (by simp) (F := F) (e ▸ hF)
    rw [e] at this
    rw [HW0.out]
    exact this
  have KH : Hid _ := honest_any f a n c l d zs v3 N w w0 b0 h (hl.below b0) hn hz
  obtain ⟨m, HM⟩ : ∃ x, Hid ((kl (lyP zs) n).length = x) := ⟨_, rfl⟩
  have hmn : m ≤ n := by rw [← HM.out]; exact kl_le _ _
  rw [HM.out] at KH
  have KB0 : Hid (Below w.heap.size w w0) := b0
  have hin : ∀ t, t < m → (kl (lyP zs) n).getD t 0 < n := fun t ht => by
    rw [← HM.out] at ht
    rw [List.getD_eq_getElem?_getD, List.getElem?_eq_getElem ht]
    exact List.mem_range.1 (List.mem_filter.1 (List.getElem_mem ht)).1
  have KQ : Hid (∀ t, t < m → (kl (lyP zs) n).getD t 0 < n ∧ NdQ (N ((kl (lyP zs) n).getD t 0))) := fun t ht => ⟨hin t ht, hQ _ (hin t ht)⟩
  clear h hl b0 hQ hin
  go_enter Try.func27, Try.ntmps27
  go_wp2_with (rw [← HW0.out, ← HG0.out, ← HA.out]; refine wpList_load_row (by rfl) 36 _ (by rfl) A (by rfl) 36 #[.int .i64 f, .slice a n c, .slice l zs.length d, v3] (0, 0) _ ?_ Try.underlying36 (by rfl) Try.infoNt ?_; exact RA.out)
  refine Calls.mono KH.out ?_
  rintro e w1 ⟨g, z, rfl, ho, hr, b1⟩
  have hgl := World.ownsRow.lt ho g rfl
  have HK : Hid (∀ W W' : World, W'.heap[g]? = W.heap[g]? → W.ownsRow w.heap.size 89 5 (.slice (some ⟨g, 0, none⟩) n n) n (cL 5 z n) → W'.ownsRow w.heap.size 89 5 (.slice (some ⟨g, 0, none⟩) n n) n (cL 5 z n)) := fun W W' e h => own_at h e
  have H1 : Hid (PcI w g (fun W => W.ownsRow w.heap.size 89 5 (.slice (some ⟨g, 0, none⟩) n n) n (cL 5 z n)) N root [] (.slice (some ⟨g0, 0, none⟩) 0 0) 0 w1) := ⟨(HO0.out (fun x => rng w.heap.size w1.heap.size x ∧ x ≠ g) ⟨⟨by have := HG0.out; omega, by have := HG0.out; have := b1.size; omega⟩, by have := HG0.out; have := hgl.1; omega⟩).below b1, own_base ho KB0.out.size, hgl.2, rfl, below2 KB0.out b1⟩
  have KR : Hid (∀ t, t < m → ∀ q, q < 5 → Rd w (stD (N ((kl (lyP zs) n).getD t 0)) ((kl (lyP zs) n).getD t 0) f q) (z t q)) := hr
  clear ho hr b1 KH hgl hs0 HO0
  go_wp2
  go_loopw [5, 14] (fun v vi wr => ∃ (t gg len cc : Nat), t ≤ m ∧ len ≤ t ∧ Hid (PcI w g (fun W => W.ownsRow w.heap.size 89 5 (.slice (some ⟨g, 0, none⟩) n n) n (cL 5 z n)) N root ((kl (lyP zs) n).take t) (.slice (some ⟨gg, 0, none⟩) len cc) len wr) ∧ v = .slice (some ⟨gg, 0, none⟩) len cc ∧ vi = .int .i64 (t : Int)) (fun _ vi _ => m - (intOf vi).toNat)
  case atStart => exact ⟨0, g0, 0, 0, Nat.zero_le _, Nat.le_refl _, H1, rfl, rfl⟩
  case round =>
    obtain ⟨t, gg, len, cc, ht, hlt', HD, rfl, rfl⟩ := hrel
    clear H1
    by_cases hlt : t < m
    · have hti : (t : Int) < (m : Int) := by omega
      obtain ⟨an, cn, e0, e1, e2, e3, e4, hrd⟩ := st_cells (KR.out t hlt)
      obtain ⟨hxn, hq⟩ := KQ.out t hlt
      have HTK : Hid ((kl (lyP zs) n).take (t + 1) = (kl (lyP zs) n).take t ++ [(kl (lyP zs) n).getD t 0]) := take_one (by rw [HM.out]; exact hlt)
      have R1' := row_range HD.out.rs (show t < n by omega)
      obtain ⟨x, HX⟩ : ∃ v, Hid ((kl (lyP zs) n).getD t 0 = v) := ⟨_, rfl⟩
      rw [HX.out] at e0 e1 e2 e3 hrd hq hxn HTK
      obtain ⟨nd, HND⟩ : ∃ v, Hid (N x = v) := ⟨_, rfl⟩
      obtain ⟨T, HT⟩ : ∃ v, Hid (soS nd.S root nd.n = v) := ⟨_, rfl⟩
      obtain ⟨okv, HOK⟩ : ∃ v, Hid (soB nd.S root nd.n = v) := ⟨_, rfl⟩
      rw [HND.out] at e0 e1 e2 hrd hq
      rw [e0, e1, e2, e3, e4] at R1'
      have R1 : Hid (wr.rangeAt g (t * 5) [.int .i64 nd.i, .int .i64 nd.f, .slice an nd.n cn, .int .i64 (x : Int), .int .i64 f]) := R1'
      obtain ⟨V, HV⟩ : ∃ v, Hid (v = wr.heap.size) := ⟨_, rfl⟩
      obtain ⟨w2, HW2⟩ : ∃ v, Hid (v = wr.alloc (.cells #[.int .i64 nd.i, .int .i64 nd.f, .slice an nd.n cn, .int .i64 (x : Int), .int .i64 f] 89)) := ⟨_, rfl⟩
      have b2 : Below wr.heap.size wr w2 := by rw [HW2.out]; exact (Below.refl _ _).alloc (Nat.le_refl _) _
      have RV : Hid (Row w2 V 89 #[.int .i64 nd.i, .int .i64 nd.f, .slice an nd.n cn, .int .i64 (x : Int), .int .i64 f]) := by show Row _ _ _ _; rw [HW2.out, HV.out]; exact Row.new wr _ _
      have hsz2 : w2.heap.size = wr.heap.size + 1 := by rw [HW2.out]; simp
      have KB2 : Hid (Below wr.heap.size wr w2 ∧ Below w.heap.size w w2 ∧ w2.heap.size = wr.heap.size + 1) := ⟨b2, below2 HD.out.bw b2, hsz2⟩
      have KC : Hid (Calls Try.prog 55 #[ndV nd.i nd.f (.slice an nd.n cn), .string root] w2 fun e w' => ∃ (a6 a11 a12 : Option Addr) (c6 c11 c12 : Nat) (F6 F11 F12 : Nat → Prop), e = .returned (.tuple #[slV T (.slice a6 T.p.m c6) (.slice a11 T.ze.length c11) (.slice a12 T.zr.length c12), .bool okv]) ∧ SlO w' w2.heap.size T (.slice a6 T.p.m c6) (.slice a11 T.ze.length c11) (.slice a12 T.zr.length c12) F6 F11 F12 ∧ Below w2.heap.size w2 w') := by
        have := slotOf_any nd.i nd.f an nd.n cn nd.S root w2 (hrd.below KB2.out.2.1) hq.n hq.k
        rw [HT.out, HOK.out] at this
        exact this
      have HSk : Hid (∀ W, Below wr.heap.size wr W → (okv && T.h) = false → PcI w g (fun W => W.ownsRow w.heap.size 89 5 (.slice (some ⟨g, 0, none⟩) n n) n (cL 5 z n)) N root ((kl (lyP zs) n).take (t + 1)) (.slice (some ⟨gg, 0, none⟩) len cc) len W) := fun W hb hf => by
        rw [HTK.out]
        refine (HD.out.below HK.out hb).skip ?_
        unfold hsB
        rw [HND.out, HT.out, HOK.out]
        exact hf
      have HGr : Hid (∀ W5 W6 g3 cap (H : Nat → Nat → Prop), Below wr.heap.size wr W5 → (okv && T.h) = true → Ow W6 w.heap.size (.lst 77 6 (len + 1) (fun i => if i = len then pcD T.p else pcD (hsP N root ((kl (lyP zs) n).take t) i))) (.slice (some ⟨g3, 0, none⟩) (len + 1) cap) (fun y => y < W6.heap.size ∧ (((rng w.heap.size wr.heap.size y ∧ y ≠ g) ∨ ∃ q, q < 6 ∧ H q y) ∨ W5.heap.size ≤ y)) → Below w.heap.size W5 W6 → (∀ y, y < W5.heap.size → ¬ (rng w.heap.size wr.heap.size y ∧ y ≠ g) → W6.heap[y]? = W5.heap[y]?) → (∀ q y, q < 6 → H q y → wr.heap.size ≤ y) → PcI w g (fun W => W.ownsRow w.heap.size 89 5 (.slice (some ⟨g, 0, none⟩) n n) n (cL 5 z n)) N root ((kl (lyP zs) n).take (t + 1)) (.slice (some ⟨g3, 0, none⟩) (len + 1) cap) (len + 1) W6) := fun W5 W6 g3 cap H h1 h2 h3 h4 h5 h6 => by
        rw [HTK.out]
        refine PcI.grow HD.out HK.out h1 ?_ ?_ h3 h4 h5 h6
        · unfold hsB
          rw [HND.out, HT.out, HOK.out]
          exact h2
        · rw [HND.out, HT.out]
      have HOp : Hid (Ow wr w.heap.size (pcsD len (hsP N root ((kl (lyP zs) n).take t))) (.slice (some ⟨gg, 0, none⟩) len cc) (fun x => rng w.heap.size wr.heap.size x ∧ x ≠ g)) := HD.out.op
      have HBw : Hid (Below w.heap.size w wr) := HD.out.bw
      clear e0 e1 e2 e3 e4 hrd hxn hq R1' b2 hsz2 HTK HX HND HT HOK HD
      cases hok : okv with
      | false =>
        rw [hok] at KC HSk
        clear hok HGr HOp
        go_wp2_with (refine wpList_load_mid (by rfl) 89 _ (by rfl) g (t * 5) (by rfl) [.int .i64 nd.i, .int .i64 nd.f, .slice an nd.n cn, .int .i64 (x : Int), .int .i64 f] _ ?_ Try.underlying89 (by rfl) Try.infoSt ?_; exact R1.out)
        rw [← HW2.out, ← HV.out]
        refine Calls.mono KC.out ?_
        rintro e w3 ⟨a6, a11, a12, c6, c11, c12, F6, F11, F12, rfl, SO3, b3⟩
        obtain ⟨G, HG⟩ : ∃ v, Hid (v = w3.heap.size) := ⟨_, rfl⟩
        obtain ⟨w4, HW4⟩ : ∃ v, Hid (v = w3.alloc (.cells (slC T (.slice a6 T.p.m c6) (.slice a11 T.ze.length c11) (.slice a12 T.zr.length c12)) 79)) := ⟨_, rfl⟩
        have b4 : Below w3.heap.size w3 w4 := by rw [HW4.out]; exact (Below.refl _ _).alloc (Nat.le_refl _) _
        have RG : Hid (Row w4 G 79 (slC T (.slice a6 T.p.m c6) (.slice a11 T.ze.length c11) (.slice a12 T.zr.length c12))) := by show Row _ _ _ _; rw [HW4.out, HG.out]; exact Row.new w3 _ _
        have B4 : Hid (Below wr.heap.size wr w4) := below2 KB2.out.1 (below2 b3 b4)
        have HSO : Hid (Ow w4 w2.heap.size (txD T.p.m T.p.S) (.slice a6 T.p.m c6) (fun y => F6 y ∧ w2.heap.size ≤ y ∧ y < w3.heap.size)) := SO3.t.cut.below b4
        have y7 := RG.out.cell 7
        simp at y7
        clear b3 b4 KC R1 RV SO3

        have HS2 : Hid _ := HSk.out w4 B4.out rfl
        go_wp2
        rw [← HW4.out]
        go_roundw
        case rel => exact ⟨t + 1, gg, len, cc, by omega, by omega, HS2, rfl, by go_num⟩
        case measure => simp [intOf]; omega

      | true =>
        rw [hok] at KC HSk HGr
        clear hok
        cases hto : T.h with
        | false =>
          have HTO : Hid (T.h = false) := hto
          clear hto HGr HOp
          go_wp2_with (refine wpList_load_mid (by rfl) 89 _ (by rfl) g (t * 5) (by rfl) [.int .i64 nd.i, .int .i64 nd.f, .slice an nd.n cn, .int .i64 (x : Int), .int .i64 f] _ ?_ Try.underlying89 (by rfl) Try.infoSt ?_; exact R1.out)
          rw [← HW2.out, ← HV.out]
          refine Calls.mono KC.out ?_
          rintro e w3 ⟨a6, a11, a12, c6, c11, c12, F6, F11, F12, rfl, SO3, b3⟩
          obtain ⟨G, HG⟩ : ∃ v, Hid (v = w3.heap.size) := ⟨_, rfl⟩
          obtain ⟨w4, HW4⟩ : ∃ v, Hid (v = w3.alloc (.cells (slC T (.slice a6 T.p.m c6) (.slice a11 T.ze.length c11) (.slice a12 T.zr.length c12)) 79)) := ⟨_, rfl⟩
          have b4 : Below w3.heap.size w3 w4 := by rw [HW4.out]; exact (Below.refl _ _).alloc (Nat.le_refl _) _
          have RG : Hid (Row w4 G 79 (slC T (.slice a6 T.p.m c6) (.slice a11 T.ze.length c11) (.slice a12 T.zr.length c12))) := by show Row _ _ _ _; rw [HW4.out, HG.out]; exact Row.new w3 _ _
          have B4 : Hid (Below wr.heap.size wr w4) := below2 KB2.out.1 (below2 b3 b4)
          have HSO : Hid (Ow w4 w2.heap.size (txD T.p.m T.p.S) (.slice a6 T.p.m c6) (fun y => F6 y ∧ w2.heap.size ≤ y ∧ y < w3.heap.size)) := SO3.t.cut.below b4
          have y7 := RG.out.cell 7
          simp at y7
          clear b3 b4 KC R1 RV SO3

          have HS2 : Hid _ := HSk.out w4 B4.out (by rw [HTO.out]; rfl)
          rw [HTO.out] at y7
          go_upto_region 6 with fail
          rw [← HW4.out, ← HG.out]
          go_wp2
          go_roundw
          case rel => exact ⟨t + 1, gg, len, cc, by omega, by omega, HS2, rfl, by go_num⟩
          case measure => simp [intOf]; omega

        | true =>
          have HTO : Hid (T.h = true) := hto
          clear hto HSk
          go_wp2_with (refine wpList_load_mid (by rfl) 89 _ (by rfl) g (t * 5) (by rfl) [.int .i64 nd.i, .int .i64 nd.f, .slice an nd.n cn, .int .i64 (x : Int), .int .i64 f] _ ?_ Try.underlying89 (by rfl) Try.infoSt ?_; exact R1.out)
          rw [← HW2.out, ← HV.out]
          refine Calls.mono KC.out ?_
          rintro e w3 ⟨a6, a11, a12, c6, c11, c12, F6, F11, F12, rfl, SO3, b3⟩
          obtain ⟨G, HG⟩ : ∃ v, Hid (v = w3.heap.size) := ⟨_, rfl⟩
          obtain ⟨w4, HW4⟩ : ∃ v, Hid (v = w3.alloc (.cells (slC T (.slice a6 T.p.m c6) (.slice a11 T.ze.length c11) (.slice a12 T.zr.length c12)) 79)) := ⟨_, rfl⟩
          have b4 : Below w3.heap.size w3 w4 := by rw [HW4.out]; exact (Below.refl _ _).alloc (Nat.le_refl _) _
          have RG : Hid (Row w4 G 79 (slC T (.slice a6 T.p.m c6) (.slice a11 T.ze.length c11) (.slice a12 T.zr.length c12))) := by show Row _ _ _ _; rw [HW4.out, HG.out]; exact Row.new w3 _ _
          have B4 : Hid (Below wr.heap.size wr w4) := below2 KB2.out.1 (below2 b3 b4)
          have HSO : Hid (Ow w4 w2.heap.size (txD T.p.m T.p.S) (.slice a6 T.p.m c6) (fun y => F6 y ∧ w2.heap.size ≤ y ∧ y < w3.heap.size)) := SO3.t.cut.below b4
          have y7 := RG.out.cell 7
          simp at y7
          clear b3 b4 KC R1 RV SO3

          rw [HTO.out] at y7
          have y1 := RG.out.cell 1
          have y2 := RG.out.cell 2
          have y3 := RG.out.cell 3
          have y4 := RG.out.cell 4
          have y5 := RG.out.cell 5
          have y6 := RG.out.cell 6
          simp at y1 y2 y3 y4 y5 y6
          obtain ⟨w5, HW5⟩ : ∃ v, Hid (v = w4.alloc (.cells #[.string T.p.r, .int .i64 T.p.k, .int .i64 T.p.n, .int .i64 T.p.i, .string T.p.b, .slice a6 T.p.m c6] 77)) := ⟨_, rfl⟩
          have b5 : Below w4.heap.size w4 w5 := by rw [HW5.out]; exact (Below.refl _ _).alloc (Nat.le_refl _) _
          have HNE : Hid (∀ j u, ([.string T.p.r, .int .i64 T.p.k, .int .i64 T.p.n, .int .i64 T.p.i, .string T.p.b, .slice a6 T.p.m c6] : List Value)[j]? = some u → w5.cell? ((⟨w4.heap.size, 0, none⟩ : Addr).add j) = some u) := by rw [HW5.out]; exact World.news_of_block (cs := #[.string T.p.r, .int .i64 T.p.k, .int .i64 T.p.n, .int .i64 T.p.i, .string T.p.b, .slice a6 T.p.m c6]) (t := 77) (fr := (0, 0)) (heap_alloc_new w4 _)
          have B5 : Hid (Below wr.heap.size wr w5) := below2 B4.out b5
          have HO5 : Hid (Ow w5 w.heap.size (pcsD len (hsP N root ((kl (lyP zs) n).take t))) (.slice (some ⟨gg, 0, none⟩) len cc) (fun x => rng w.heap.size wr.heap.size x ∧ x ≠ g)) := HOp.out.below B5.out
          have HP5 : Hid (∀ q, q < 6 → Ow w5 w.heap.size (pcD T.p q) (([.string T.p.r, .int .i64 T.p.k, .int .i64 T.p.n, .int .i64 T.p.i, .string T.p.b, .slice a6 T.p.m c6] : List Value).getD q undef) (fun y => q = 5 ∧ (F6 y ∧ w2.heap.size ≤ y ∧ y < w3.heap.size))) := fun q hq => ow_piece ((HSO.out.below b5).base (KB2.out.2.1.size)) q hq
          have HHH : Hid (∀ q y, q < 6 → (q = 5 ∧ (F6 y ∧ w2.heap.size ≤ y ∧ y < w3.heap.size)) → wr.heap.size + 1 ≤ y) := fun q y _ hy => by have := hy.2.2.1; have := KB2.out.2.2; show _ ≤ _; omega
          have sB : w.heap.size ≤ w5.heap.size := (below2 HBw.out B5.out).size
          have HSB : Hid (w.heap.size ≤ w5.heap.size) := sB
          clear b5 sB
          go_upto_region 6 with fail
          rw [← HW4.out, ← HG.out]
          go_wp2_with (at_builtin; rw [← HW5.out]; refine (show True → _ from ?_) trivial)
          intro _
          refine wpList_snoc w5 (by rfl) _ _ 51 (by rfl) w.heap.size 77 i0 (.agg #[.string ByteArray.empty, .int .i64 0, .int .i64 0, .int .i64 0, .string ByteArray.empty, .slice none 0 0]) 6 80 Try.underlying51 hi hz0 hz1 hz2 rfl (by decide) (.slice (some ⟨gg, 0, none⟩) len cc) len _ _ (by rfl) HO5.out ⟨w4.heap.size, 0, none⟩ 1 [.string T.p.r, .int .i64 T.p.k, .int .i64 T.p.n, .int .i64 T.p.i, .string T.p.b, .slice a6 T.p.m c6] (by rfl) rfl HNE.out (by simp [Value.oneCell']) (pcD T.p) _ HP5.out ?_ ?_ (by unfold maxLen; omega) (by omega) HSB.out ?_
          · intro q y hq hy hf
            have := HHH.out q y hq hy
            have := hf.1.2
            omega
          · intro q q' y _ _ hy hy'
            exact hy.1.trans hy'.1.symm
          intro g3 cap3 w6 O6 b6 hs6
          have HS2 : Hid _ := HGr.out w5 w6 g3 cap3 _ B5.out (by rw [HTO.out]; rfl) O6 b6 hs6 (fun q y hq hy => by have := HHH.out q y hq hy; omega)
          clear O6 b6 hs6
          go_wp2
          go_roundw
          case rel => exact ⟨t + 1, g3, len + 1, cap3, by omega, by omega, HS2, rfl, by go_num⟩
          case measure => simp [intOf]; omega

    · obtain rfl : t = m := by omega
      have HF : Hid ((hsL N root (kl (lyP zs) n)).length = len ∧ Ow wr w.heap.size (pcsD len (hsP N root (kl (lyP zs) n))) (.slice (some ⟨gg, 0, none⟩) len cc) (fun x => rng w.heap.size wr.heap.size x ∧ x ≠ g) ∧ Below w.heap.size w wr) := by
        have e : (kl (lyP zs) n).take t = kl (lyP zs) n := by rw [← HM.out, List.take_length]
        have h1 := HD.out
        rw [e] at h1
        exact ⟨h1.ln, h1.op, h1.bw⟩
      clear HD
      go_wp2
      go_ret
      refine ⟨gg, cc, (fun x => rng w.heap.size wr.heap.size x ∧ x ≠ g), ?_, ?_, HF.out.2.2⟩
      · rw [HF.out.1]; rfl
      · rw [HF.out.1]; exact HF.out.2.1
end Go.Proofs.Ytggmcgcmpgofcaa
