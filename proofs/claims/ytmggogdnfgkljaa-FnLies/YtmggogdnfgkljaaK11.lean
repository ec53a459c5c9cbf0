/- Plain mathematics: bodies of a text at places that differ lead back to the text and to all bodies; bodies that tell a text are those of the text. Conditions stand at each theorem. -/
import Derived.Test.YtmggogdnfgkljaaK10
import Derived.Test.YtmggogdnfgkljaaK9
import Derived.Test.YtmggogdnfgkljaaQDrawR
import Derived.Test.YtmggogdnfgkljaaK6
namespace Go.Proofs.Ytmggogdnfgkljaa
open Go.Proofs.Ytmggogdnfgkljaa.Gp (m m_lt m_comm m_one)

theorem mp_right {n : Nat} {A : Nat → Nat → Nat} (hA : Gm.Byt A) {i j : Nat} (hj : j < n) : Gm.mp n A Gm.dl i j = A i j := by
  rw [Gm.mp_col hj (fun t _ => rfl)]
  exact m_one (hA i j)
/-- Two matrices that are one have one inverse. -/
theorem iv_same {A B : Nat → Nat → Nat} {n : Nat} (hA : Gm.Byt A) (hB : Gm.Byt B) (h : ∀ i j, i < n → j < n → A i j = B i j) (ra : Gm.rk A n n = n) (rb : Gm.rk B n n = n) {i j : Nat} (hi : i < n) (hj : j < n) : Gm.iv A n i j = Gm.iv B n i j := by
  have h1 : Gm.mp n (Gm.iv A n) (Gm.mp n B (Gm.iv B n)) i j = Gm.iv A n i j := by
    rw [Gm.mp_congr (A' := Gm.iv A n) (B' := Gm.dl) (fun _ _ => rfl) (fun t ht => (Gm.iv_both hB rb t j ht hj).1)]
    exact mp_right (Gm.iv_byt hA n) hj
  have h2 : Gm.mp n (Gm.mp n (Gm.iv A n) B) (Gm.iv B n) i j = Gm.iv B n i j := by
    rw [Gm.mp_congr (A' := Gm.dl) (B' := Gm.iv B n) (fun t ht => ?_) (fun _ _ => rfl)]
    · exact Gm.mp_dl hi (Gm.iv_byt hB n i j)
    · rw [Gm.mp_congr (A' := Gm.iv A n) (B' := A) (fun _ _ => rfl) (fun u hu => (h u t hu ht).symm)]
      exact (Gm.iv_both hA ra i t hi ht).2
  rw [← h1, ← Gm.mp_assoc, h2]
def zsP (n : Nat) (zs : List Int) (t : Nat) : Nat := if t < zs.length then (zs.getD t 0).toNat else n
theorem zsP_at {n : Nat} {zs : List Int} {t : Nat} (h : t < zs.length) : zsP n zs t = (zs.getD t 0).toNat := if_pos h
theorem zsP_lt {n : Nat} {zs : List Int} (h : Diff n zs) (hn : n ≤ 16) (t : Nat) : zsP n zs t < 256 := by
  unfold zsP
  split
  · rename_i ht
    have := h.at ht
    omega
  · omega
theorem bkM_is {n k : Nat} {zs : List Int} (h : Diff n zs) (hl : zs.length = k) (hk : 1 ≤ k) (hkn : k ≤ n) (hn : n ≤ 16) {i j : Nat} (hi : i < k) (hj : j < k) : bkM n k zs i j = Gm.iv (fun t j => Gm.sprd k (zsP n zs t) j) k i j := by
  obtain ⟨_, _, io, hbz⟩ := spread_pick h hl hk hkn hn
  have hr := Gm.spread_rk (k := k) (p := zsP n zs) (by omega) (zsP_lt h hn) (fun a b ha hb hab => by
    rw [zsP_at (by omega), zsP_at (by omega)]
    exact h.ne (by omega) (by omega) hab)
  exact iv_same (bZ_byt _ _ _) (fun _ _ => Gm.sprd_byt k _ _) (fun a b ha hb => by rw [zsP_at (by omega)]; exact hbz a b ha hb) io.2.2 hr hi hj
/-- What comes of bodies that lie at places that differ. -/
theorem fsT_back {n k l : Nat} {zs : List Int} {S : Nat → ByteArray} {T : Nat → Nat → Nat} (h : Diff n zs) (hl : zs.length = k) (hk : 1 ≤ k) (hkn : k ≤ n) (hn : n ≤ 16) (hT : Gm.Byt T) (hS : ∀ i, i < k → S i = txt (Gm.mp k (Gm.sprd k) T ((zs.getD i 0).toNat)) l) {i q : Nat} (hi : i < k) (hq : q < l) : fsT k n zs S i q = T i q := by
  unfold fsT
  rw [Gm.mp_congr (A' := Gm.iv (fun t j => Gm.sprd k (zsP n zs t) j) k) (B' := fun t q => Gm.mp k (Gm.sprd k) T (zsP n zs t) q) (fun t ht => bkM_is h hl hk hkn hn hi ht) (fun t ht => by
    rw [hS t ht, tat_txt hq (Gm.mp_byt _ _ _ _ _), zsP_at (by omega)])]
  exact back_first (by omega) (zsP_lt h hn) (fun a b ha hb hab => by
    rw [zsP_at (by omega), zsP_at (by omega)]
    exact h.ne (by omega) (by omega) hab) hT hi
theorem encS_is (s : ByteArray) (k i : Nat) : encS s k i = txt (Gm.mp k (Gm.sprd k) (enc s k) i) (blen s.size k) := rfl
theorem encS_size (s : ByteArray) (k i : Nat) : (encS s k i).size = blen s.size k := txt_size _ _
theorem sprOk_of {k n : Nat} (hk : 1 ≤ k) (hkn : k ≤ n) (hn : n ≤ 16) : sprOk (k : Int) (n : Int) = true := by unfold sprOk side; simp; omega
/-- Bodies of a text at places that differ. -/
structure Kept (s : ByteArray) (k n : Nat) (zs : List Int) : Prop where
  sz : s.size ≤ 2000
  k1 : 1 ≤ k
  kn : k ≤ n
  n16 : n ≤ 16
  len : zs.length = k
  diff : Diff n zs
def keptS (s : ByteArray) (k : Nat) (zs : List Int) (i : Nat) : ByteArray := encS s k (zs.getD i 0).toNat
theorem Kept.rgt {s : ByteArray} {k n : Nat} {zs : List Int} (h : Kept s k n zs) : Rgt (k : Int) (n : Int) zs k (keptS s k zs) := by
  refine ⟨sprOk_of h.k1 h.kn h.n16, by rw [h.len], rfl, ?_, fun i hi => ⟨h.diff.at (by rw [h.len]; exact hi), ?_, fun j hj he => ?_⟩⟩
  · unfold keptS
    rw [encS_size]
    have := blen_pos (s := s.size) h.k1
    omega
  · unfold keptS
    rw [encS_size, encS_size]
  · have := h.diff.ne (i := j) (j := i) (by rw [h.len]; omega) (by rw [h.len]; exact hi) (by omega)
    rw [he] at this
    exact this rfl
theorem Kept.fs {s : ByteArray} {k n : Nat} {zs : List Int} (h : Kept s k n zs) {i q : Nat} (hi : i < k) (hq : q < blen s.size k) : fsT k n zs (keptS s k zs) i q = enc s k i q :=
  fsT_back h.diff h.len h.k1 h.kn h.n16 (enc_byt (by have := h.sz; omega) k) (fun _ _ => rfl) hi hq
theorem Kept.size0 (s : ByteArray) (k : Nat) (zs : List Int) (i : Nat) : (keptS s k zs i).size = blen s.size k := encS_size _ _ _
theorem Kept.dec {s : ByteArray} {k n : Nat} {zs : List Int} (h : Kept s k n zs) : dcB (k : Int) (n : Int) zs k (keptS s k zs) = true ∧ dcS (k : Int) (n : Int) zs k (keptS s k zs) = s := by
  obtain ⟨e1, e2⟩ := dc_yes h.rgt
  rw [e1, e2, Kept.size0]
  have hb := blen_pos (s := s.size) h.k1
  obtain ⟨t1, t2⟩ := tells_frm (W := fsW k n zs (keptS s k zs)) h.sz h.k1 (fun q hq => by
    unfold fsW whl
    rw [Kept.size0]
    have hi : q / blen s.size k < k := Nat.div_lt_of_lt_mul (by rw [Nat.mul_comm]; exact hq)
    have hp : q % blen s.size k < blen s.size k := Nat.mod_lt _ (by omega)
    rw [h.fs hi hp]
    show frm s (q / blen s.size k * blen s.size k + q % blen s.size k) = frm s q
    rw [Nat.mul_comm, Nat.div_add_mod])
  obtain ⟨f1, f2⟩ := tl_yes t1
  exact ⟨f1, f2.trans t2⟩
theorem Kept.all {s : ByteArray} {k n : Nat} {zs : List Int} (h : Kept s k n zs) (i : Nat) : bdS (k : Int) (n : Int) zs (keptS s k zs) i = encS s k i := by
  rw [← bd_fs, Int.toNat_natCast, Kept.size0, encS_is]
  refine txt_congr (fun p hp => Gm.mp_congr (fun _ _ => rfl) (fun t ht => ?_))
  have e : fsS (k : Int) (n : Int) zs (keptS s k zs) t = txt (fsT k n zs (keptS s k zs) t) (blen s.size k) := by
    unfold fsS fsT
    rw [Int.toNat_natCast, Int.toNat_natCast, Kept.size0]
    rfl
  rw [e, tat_txt hp (show fsT k n zs (keptS s k zs) t p < 256 from Gm.mp_byt _ _ _ _ _), h.fs ht hp]
theorem enc_agr {s : ByteArray} {k n : Nat} (hs : s.size ≤ 2000) (hk : 1 ≤ k) (hkn : k ≤ n) (hn : n ≤ 16) : Agr (k : Int) (n : Int) n (encS s k) := by
  have hb := blen_pos (s := s.size) hk
  refine ⟨sprOk_of hk hkn hn, ⟨rfl, fun i _ => ⟨by rw [encS_size]; omega, by rw [encS_size, encS_size]⟩⟩, fun i _ => ?_⟩
  rw [Int.toNat_natCast, encS_size, encS_is]
  refine txt_congr (fun p hp => Gm.mp_congr (fun _ _ => rfl) (fun t ht => ?_))
  rw [encS_is, tat_txt hp (Gm.mp_byt _ _ _ _ _)]
  exact bod_first (enc_byt (by omega) k) ht
end Go.Proofs.Ytmggogdnfgkljaa

/- What the law draws: a text, k, n and k places of n. -/
namespace Go.Proofs.Ytmggogdnfgkljaa
open Go.ChangeShapes Go.WideShapes Go.ChangeAt Go.RowKit

theorem results_four {fn : Func} {t u v x : Tmp} (h : fn.results = #[.tmp t, .tmp u, .tmp v, .tmp x]) (tmps : Array Value) (P : Program) (w : World) :
    (results fn tmps).run P w = .ok (.tuple #[tmps.getD t undef, tmps.getD u undef, tmps.getD v undef, tmps.getD x undef]) w := by
  simp [results, h]
set_option maxHeartbeats 1000000 in
theorem drawKept_any (a : Option Addr) (cn cap : Nat) (w : World) (hc : CodeAt w a cn) :
    Calls Try.prog 34 #[.slice a cn cap] w fun e w' => ∃ (s : ByteArray) (k n G c : Nat) (zs : List Int), e = .returned (.tuple #[.string s, .int .i64 (k : Int), .int .i64 (n : Int), .slice (some ⟨G, 0, none⟩) k c]) ∧ s.size ≤ 60 ∧ (1 ≤ k ∧ k ≤ n ∧ n ≤ 16) ∧ zs.length = k ∧ IntsAt w' (some ⟨G, 0, none⟩) k zs ∧ Diff n zs ∧ Below w.heap.size w w' := by
  go_enter Try.func34, Try.ntmps34
  go_wp2_with fail
  refine (new_any a cn cap _ hc.1 hc.bytes).mono ?_
  rintro e w1 ⟨g, rfl, hg, hb1, hc1⟩
  have hab := hc.under hg
  clear hc
  go_wp2_with fail
  refine (belowN_any g cn cap a _ _ hc1).mono ?_
  rintro e w2 ⟨x, x0, x1, _, rfl, hg2, hc2⟩
  have x2 := x1 (by omega)
  obtain ⟨X, rfl⟩ := Int.eq_ofNat_of_zero_le x0
  clear x1 hc1
  go_wp2_with fail
  refine (belowN_any g cn cap a _ _ hc2).mono ?_
  rintro e w3 ⟨y, y0, y1, _, rfl, hg3, hc3⟩
  have y2 := y1 (by omega)
  obtain ⟨Y, rfl⟩ := Int.eq_ofNat_of_zero_le y0
  clear y1 hc2
  go_wp2_with fail
  rw [show (1 + (X : Int)) = ((1 + X : Nat) : Int) by omega, show (1 + (Y : Int)) = ((1 + Y : Nat) : Int) by omega]
  refine (places_any g cn cap a (1 + Y) (1 + X) _ hc3 hab (by omega) (by omega)).mono ?_
  rintro e w4 ⟨G, c, zs, rfl, hG, hown, hnd, hrng, hg4, hc4⟩
  have hl : zs.length = 1 + Y := by simpa using hown.1
  have KD : Hid (zs.length = 1 + Y ∧ Diff (1 + X) zs) := ⟨hl, hnd, hrng⟩
  have hg3l := hc3.lt
  clear hnd hrng hl hc3
  go_wp2_with fail
  refine (belowN_any g cn cap a _ _ hc4).mono ?_
  rintro e w5 ⟨u, u0, u1, _, rfl, hg5, hc5⟩
  have u2 := u1 (by omega)
  obtain ⟨U, rfl⟩ := Int.eq_ofNat_of_zero_le u0
  have hown5 := hown.kept hg5 (.inr (by simp [Value.ownBlock]; omega))
  clear u1 hc4 hown
  go_wp2_with fail
  refine (bytes_any g cn cap a U _ hc5 hab (by omega)).mono ?_
  rintro e w6 ⟨s, hs, rfl, hg6, hc6⟩
  have hown6 := hown5.kept hg6 (.inr (by simp [Value.ownBlock]; omega))
  have HO : Hid (IntsAt w6 (some ⟨G, 0, none⟩) (1 + Y) zs ∧ Below w.heap.size w w6) := ⟨ownsRow.ints hown6, below_g hb1 hg (grownBy_trans (grownBy_trans (grownBy_trans (grownBy_trans hg2 hg3) hg4) hg5) hg6)⟩
  clear hown5 hown6 hg6 hc6 hc5
  go_wp2
  (try simp only [Exit.inBlock, Exit.then])
  refine bodyPost_ret (results_four rfl _ _ _) rfl ?_
  exact ⟨s, 1 + Y, 1 + X, G, c, zs, rfl, by omega, ⟨by omega, by omega, by omega⟩, KD.out.1, HO.out.1, KD.out.2, HO.out.2⟩
end Go.Proofs.Ytmggogdnfgkljaa
