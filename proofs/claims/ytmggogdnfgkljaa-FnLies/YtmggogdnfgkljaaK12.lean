/- Plain mathematics: bodies that tell a text are those of the text; all bodies that go with some agree, and with one changed, of more than k, they do not. Conditions stand at each theorem. -/
import Derived.Test.YtmggogdnfgkljaaK11
import Derived.Test.YtmggogdnfgkljaaQLAny
namespace Go.Proofs.Ytmggogdnfgkljaa

theorem tlB_iff {W : Nat → Nat} {N k : Nat} (h : tlB W N k = true) : tells W N k := Classical.byContradiction fun hno => by
  rw [(tl_no hno).1] at h
  exact absurd h (by simp)
theorem dcB_rgt {k n : Int} {zs : List Int} {nb : Nat} {S : Nat → ByteArray} (h : dcB k n zs nb S = true) : Rgt k n zs nb S := Classical.byContradiction fun hno => by
  rw [(dc_no hno).1] at h
  exact absurd h (by simp)
theorem fsT_byt (k n : Nat) (zs : List Int) (S : Nat → ByteArray) : Gm.Byt (fsT k n zs S) := fun _ _ => Gm.mp_byt _ _ _ _ _
/-- All bodies, by the first. -/
theorem bdS_is (K M : Nat) (zs : List Int) (S : Nat → ByteArray) (i : Nat) : bdS (K : Int) (M : Int) zs S i = txt (Gm.mp K (Gm.sprd K) (fsT K M zs S) i) (S 0).size := by
  rw [← bd_fs, Int.toNat_natCast]
  refine txt_congr (fun p hp => Gm.mp_congr (fun _ _ => rfl) (fun t _ => ?_))
  have e : fsS (K : Int) (M : Int) zs S t = txt (fsT K M zs S t) (S 0).size := by
    unfold fsS fsT
    rw [Int.toNat_natCast, Int.toNat_natCast]
    rfl
  rw [e, tat_txt hp (fsT_byt K M zs S t p)]
/-- Bodies that tell a text are those of the text. -/
theorem dec_all {K M : Nat} {zs : List Int} {nb : Nat} {S : Nat → ByteArray} (h : dcB (K : Int) (M : Int) zs nb S = true) :
    (dcS (K : Int) (M : Int) zs nb S).size ≤ 2000 ∧ ∀ i, encS (dcS (K : Int) (M : Int) zs nb S) K i = bdS (K : Int) (M : Int) zs S i := by
  have hr := dcB_rgt h
  obtain ⟨e1, e2⟩ := dc_yes hr
  rw [e1] at h
  have ht := tlB_iff h
  rw [e2, (tl_yes ht).2]
  obtain ⟨q1, q2, q3⟩ := sprOk_parts hr.1
  have hK : 1 ≤ K := by omega
  obtain ⟨l, hl⟩ : ∃ l, (S 0).size = l := ⟨_, rfl⟩
  have hl1 : 0 < l := by have := hr.2.2.2.1; omega
  have hW : fsW K M zs S = whl (fsT K M zs S) l := by unfold fsW; rw [hl]
  have hz : (told (fsW K M zs S)).size = fsW K M zs S 0 * 256 + fsW K M zs S 1 := txt_size _ _
  rw [hl] at ht
  have hbl : blen (told (fsW K M zs S)).size K = l := by
    rw [hz]
    exact (Nat.eq_of_mul_eq_mul_left (by omega) ht.2.2.1).symm
  refine ⟨by rw [hz]; exact ht.2.1, fun i => ?_⟩
  rw [bdS_is, encS_is, hbl, hl]
  refine txt_congr (fun p hp => Gm.mp_congr (fun _ _ => rfl) (fun t ht' => ?_))
  show pcs (frm (told (fsW K M zs S))) (blen (told (fsW K M zs S)).size K) t p = fsT K M zs S t p
  rw [hbl]
  show frm (told (fsW K M zs S)) (t * l + p) = _
  have hq : t * l + p < K * l := by
    have := Nat.mul_le_mul_right l (show t + 1 ≤ K by omega)
    rw [Nat.succ_mul] at this
    omega
  rw [frm_told (fsW_lt K M zs S) ht hq, hW, whl_at hp]
theorem bd_size (K M : Nat) (zs : List Int) (S : Nat → ByteArray) (i : Nat) : (bdS (K : Int) (M : Int) zs S i).size = (S 0).size := by rw [bdS_is, txt_size]
/-- The first of all bodies lead to all. -/
theorem bd_self {K M : Nat} {zs : List Int} {S : Nat → ByteArray} {i p : Nat} (hp : p < (S 0).size) : Gm.mp K (Gm.sprd K) (fun t p => tat (bdS (K : Int) (M : Int) zs S t) p) i p = tat (bdS (K : Int) (M : Int) zs S i) p := by
  rw [bdS_is, tat_txt hp (Gm.mp_byt _ _ _ _ _)]
  refine Gm.mp_congr (fun _ _ => rfl) (fun t ht => ?_)
  show tat (bdS (K : Int) (M : Int) zs S t) p = _
  rw [bdS_is, tat_txt hp (Gm.mp_byt _ _ _ _ _)]
  exact bod_first (fsT_byt K M zs S) ht
theorem bd_agr {K M : Nat} {zs : List Int} {nb : Nat} {S : Nat → ByteArray} (hr : Rgt (K : Int) (M : Int) zs nb S) : Agr (K : Int) (M : Int) M (bdS (K : Int) (M : Int) zs S) := by
  refine ⟨hr.1, ⟨rfl, fun i _ => ⟨by rw [bd_size]; exact hr.2.2.2.1, by rw [bd_size, bd_size]⟩⟩, fun i _ => ?_⟩
  rw [Int.toNat_natCast, bd_size]
  symm
  exact txt_is (bd_size _ _ _ _ _) (fun p hp => (bd_self hp).symm)
/-- With one number of one body changed, of more than k, they do not agree. -/
theorem bd_spoilt {K M : Nat} {zs : List Int} {nb : Nat} {S S' : Nat → ByteArray} (hr : Rgt (K : Int) (M : Int) zs nb S) (hKM : K < M) {i j : Nat} (_hi : i < M) (hj : j < (S 0).size)
    (hsame : ∀ t, t < M → t ≠ i → S' t = bdS (K : Int) (M : Int) zs S t) (hsz : (S' i).size = (S 0).size) (hne : tat (S' i) j ≠ tat (bdS (K : Int) (M : Int) zs S i) j) : ¬ Agr (K : Int) (M : Int) M S' := by
  rintro ⟨_, _, h3⟩
  obtain ⟨q1, q2, q3⟩ := sprOk_parts hr.1
  have hs0 : (S' 0).size = (S 0).size := by
    by_cases e : i = 0
    · rw [e] at hsz; exact hsz
    · rw [hsame 0 (by omega) (Ne.symm e), bd_size]
  rw [Int.toNat_natCast, hs0] at h3
  by_cases hiK : i < K
  · have h4 := h3 K hKM
    rw [hsame K hKM (by omega)] at h4
    have h5 : Gm.mp K (Gm.sprd K) (fun t p => tat (S' t) p) K j = Gm.mp K (Gm.sprd K) (fun t p => tat (bdS (K : Int) (M : Int) zs S t) p) K j := by
      rw [bd_self hj, ← h4]
      exact (tat_bod hj).symm
    exact spoilt_seen (T := fun t p => tat (bdS (K : Int) (M : Int) zs S t) p) (T' := fun t p => tat (S' t) p) (fun _ _ => tat_lt _ _) (fun _ _ => tat_lt _ _) hiK (Nat.le_refl K) (by omega) hne (fun t ht hti => by show tat (S' t) j = _; rw [hsame t (by omega) hti]) h5
  · have h4 := h3 i _hi
    refine hne ?_
    rw [← h4, tat_bod hj, ← bd_self hj]
    exact Gm.mp_congr (fun _ _ => rfl) (fun t ht => by show tat (S' t) j = _; rw [hsame t (by omega) (by omega)])
end Go.Proofs.Ytmggogdnfgkljaa

/- What the law draws: k of the n bodies of a text and their places, one spoilt, sometimes; all bodies of a text, one spoilt, sometimes. -/
namespace Go.Proofs.Ytmggogdnfgkljaa
open Go.ChangeShapes Go.WideShapes Go.ChangeAt Go.RowKit

theorem Cur.below {w w' : World} {g n cap : Nat} {a : Option Addr} (h : Cur w g a n cap) (hb : Below w.heap.size w w') : Cur w' g a n cap := by
  have hl := h.lt
  obtain ⟨hn, ⟨i, hh, hi, hblk⟩, hby⟩ := h
  refine ⟨hn, ⟨i, hh, hi, (hb.block g hl).trans hblk⟩, fun j hj => ?_⟩
  obtain ⟨b, off, x, e, hbg, hc, hx⟩ := hby j hj
  exact ⟨b, off, x, e, hbg, (hb.cell (p := ⟨b, off + j, none⟩) (block_lt_of_cell hc)).trans hc, hx⟩
/-- What is handed to the functions: places and bodies. -/
def Some4 (w' : World) (v u : Value) : Prop := ∃ (pa : Option Addr) (np pc : Nat) (zs : List Int) (ba : Option Addr) (nb bc : Nat) (S : Nat → ByteArray), v = .slice pa np pc ∧ u = .slice ba nb bc ∧ (np ≤ 16 ∧ nb ≤ 16) ∧ IntsAt w' pa np zs ∧ TxtAt w' ba nb S ∧ ∀ i, i < nb → (S i).size ≤ 1000
theorem some4_mk {w' : World} {G k c B1 g nb bc B2 : Nat} {zs : List Int} {S : Nat → ByteArray} (h1 : w'.ownsRow B1 3 1 (.slice (some ⟨G, 0, none⟩) k c) k (zs.map (Value.int .i64))) (h2 : OwnT w' B2 (some ⟨g, 0, none⟩) nb bc S) (hk : k ≤ 16) (hn : nb ≤ 16) (hS : ∀ i, i < nb → (S i).size ≤ 1000) :
    Some4 w' (.slice (some ⟨G, 0, none⟩) k c) (.slice (some ⟨g, 0, none⟩) nb bc) := ⟨_, _, _, zs, _, _, _, S, rfl, rfl, ⟨hk, hn⟩, ownsRow.ints h1, h2.at, hS⟩
set_option maxRecDepth 100000 in
set_option maxHeartbeats 8000000 in
theorem some_any (g cn cap : Nat) (a : Option Addr) (w : World) (hc : Cur w g a cn cap) (hab : Under a cn g) :
    Calls Try.prog 102 #[.pointer (some ⟨g, 0, none⟩)] w fun e w' => ∃ (k n : Int) (v u : Value), e = .returned (.tuple #[.int .i64 k, .int .i64 n, v, u]) ∧ Some4 w' v u ∧ Below g w w' := by
  obtain ⟨i0, hi, hz0, hz1, hz2⟩ := info_parts Try.infoStr
  have hgl := hc.lt
  go_enter Try.func102, Try.ntmps102
  go_wp2_with fail
  refine (belowN_any g cn cap a _ _ hc).mono ?_
  rintro e w2 ⟨x, x0, x1, _, rfl, hg2, hc2⟩
  have x2 := x1 (by omega)
  obtain ⟨X, rfl⟩ := Int.eq_ofNat_of_zero_le x0
  clear x1 hc
  go_wp2_with fail
  refine (belowN_any g cn cap a _ _ hc2).mono ?_
  rintro e w3 ⟨y, y0, y1, _, rfl, hg3, hc3⟩
  have y2 := y1 (by omega)
  obtain ⟨Y, rfl⟩ := Int.eq_ofNat_of_zero_le y0
  clear y1 hc2
  go_wp2_with fail
  refine (belowN_any g cn cap a _ _ hc3).mono ?_
  rintro e w4 ⟨u, u0, u1, _, rfl, hg4, hc4⟩
  have u2 := u1 (by omega)
  obtain ⟨U, rfl⟩ := Int.eq_ofNat_of_zero_le u0
  clear u1 hc3
  go_wp2_with fail
  refine (bytes_any g cn cap a U _ hc4 hab (by omega)).mono ?_
  rintro e w5 ⟨s, hs, rfl, hg5, hc5⟩
  have hB5 : Below g w w5 := (((((Below.refl g w).grown hg2 (by omega) (fun j hj => by cases hj; exact Nat.le_refl _))).grown hg3 (by have := hg2.size; omega) (fun j hj => by cases hj; exact Nat.le_refl _)).grown hg4 (by have := hg2.size; have := hg3.size; omega) (fun j hj => by cases hj; exact Nat.le_refl _)).grown hg5 (by have := hc4.lt; omega) (fun j hj => by cases hj; exact Nat.le_refl _)
  clear hg2 hg3 hg4 hg5 hc4
  obtain ⟨n, hn⟩ : ∃ n, 1 + X = n := ⟨_, rfl⟩
  obtain ⟨k, hk⟩ : ∃ k, 1 + Y = k := ⟨_, rfl⟩
  have hk1 : 1 ≤ k := by omega
  have hkn : k ≤ n := by omega
  have hn16 : n ≤ 10 := by omega
  have hok : encOk s (k : Int) (n : Int) = true := by unfold encOk; rw [sprOk_of hk1 hkn (by omega)]; simp; omega
  have hR : encR s (k : Int) (n : Int) = n := by unfold encR; rw [if_pos hok]; simp
  have KES : Hid (∀ w, Calls Try.prog 36 #[.string s, .int .i64 (k : Int), .int .i64 (n : Int)] w fun e w' => ∃ v, e = .returned (.tuple #[v, .bool true]) ∧ ResT w w' v n (encS s k) ∧ Below w.heap.size w w') := fun w => by
    have := sEncode_any s (k : Int) (n : Int) w (by omega)
    rw [hok, hR, Int.toNat_natCast] at this
    exact this
  have KSI : Hid (∀ i, (encS s k i).size ≤ 100) := fun i => by
    rw [encS_size]
    have := blen_le (s := s.size) hk1
    omega
  clear hok hR
  go_wp2_with fail
  rw [show (1 + (X : Int)) = (n : Int) by omega, show (1 + (Y : Int)) = (k : Int) by omega]
  refine Calls.mono (KES.out _) ?_
  rintro e w6 ⟨v6, rfl, R6, b6⟩
  obtain ⟨aA, cA, rfl, A6⟩ := R6
  have hc6 := hc5.below b6
  have hs56 := b6.size
  have hB6 : Below g w w6 := hB5.trans (b6.mono (by have := hc5.lt; omega))
  obtain ⟨gA, rfl⟩ : ∃ gA, aA = some ⟨gA, 0, none⟩ := by
    rcases own_shape A6 with ⟨_, h0, _⟩ | ⟨gA, _, e, _⟩
    · omega
    · exact ⟨gA, e⟩
  have hgA := (World.ownsRow.lt A6 _ rfl).1
  have hg5l := hc5.lt
  clear b6 KES hB5 hc5 hn hk
  go_wp2_with fail
  refine (places_any g cn cap a k n _ hc6 hab hkn (by omega)).mono ?_
  rintro e w7 ⟨G, c, zs, rfl, hG, hP7, hnd, hrng, hg7, hc7⟩
  have hzl : zs.length = k := by simpa using hP7.1
  have A7 : OwnT w7 w5.heap.size (some ⟨gA, 0, none⟩) n cA (encS s k) := World.ownsRow.kept A6 hg7 (.inr (by simp [Value.ownBlock]; omega))
  have hB7 : Below g w w7 := hB6.grown hg7 (by have := hc6.lt; omega) (fun j hj => by cases hj; exact Nat.le_refl _)
  have KPT : Hid (∀ q, q < k → ∃ P : Nat, zs.getD q 0 = (P : Int) ∧ P < n ∧ keptS s k zs q = encS s k P) := fun q hq => by
    have h1 := Diff.at (n := n) ⟨hnd, hrng⟩ (i := q) (by omega)
    refine ⟨(zs.getD q 0).toNat, by omega, by omega, rfl⟩
  have KAC : Hid (∀ i, i < n → w7.cell? ⟨gA, i, none⟩ = some (.string (encS s k i))) := fun i hi => by
    rw [World.ownsRow.cellAt A7 i (by omega)]
    exact sL_get _ _ _ hi
  have KZC : Hid (∀ q, q < k → w7.cell? ⟨G, q, none⟩ = some (.int .i64 (zs.getD q 0))) := fun q hq => by
    obtain ⟨b, off, e, hcc⟩ := (ownsRow.ints hP7).2 q hq
    cases e
    rw [Nat.zero_add] at hcc
    exact hcc
  have K0 : Hid (OwnT (w7.alloc (.cells #[] 9)) w7.heap.size (some ⟨w7.heap.size, 0, none⟩) 0 0 (keptS s k zs)) := litT w7 _
  have hg6l := hc6.lt
  have hg7l := hc7.lt
  have hGl := (World.ownsRow.lt hP7 _ rfl).2
  have KP7 : Hid (w7.ownsRow w6.heap.size 3 1 (.slice (some ⟨G, 0, none⟩) k c) k (zs.map (Value.int .i64))) := hP7
  have KC7 : Hid (Cur w7 g a cn cap) := hc7
  have KB7 : Hid (Below g w w7) := hB7
  clear hP7 hnd hrng hg7 hc7 hc6 A6 A7 hB7 hB6 hzl
  go_wp2
  go_loopw [11, 12] (fun v i wr => ∃ q gb cc : Nat, q ≤ k ∧ i = .int .i64 (q : Int) ∧ v = .slice (some ⟨gb, 0, none⟩) q cc ∧ OwnT wr w7.heap.size (some ⟨gb, 0, none⟩) q cc (keptS s k zs) ∧ Below w7.heap.size w7 wr) (fun _ i _ => k - (intOf i).toNat)
  case atStart => exact ⟨0, _, _, Nat.zero_le _, rfl, rfl, K0.out, (Below.refl _ _).alloc (Nat.le_refl _) _⟩
  case round =>
    obtain ⟨q, gb, cc, hq, rfl, rfl, hown, hbel⟩ := hrel
    clear K0
    by_cases hlt : q < k
    · have hqi : (q : Int) < (k : Int) := by omega
      obtain ⟨P, hP, hPn, hKP⟩ := KPT.out q hlt
      have hPi : (P : Int) < (n : Int) := by omega
      have hcz := (hbel.cell (p := ⟨G, q, none⟩) (block_lt_of_cell (KZC.out q hlt))).trans (KZC.out q hlt)
      rw [hP] at hcz
      have hcP := (hbel.cell (p := ⟨gA, P, none⟩) (block_lt_of_cell (KAC.out P hPn))).trans (KAC.out P hPn)
      rw [← hKP] at hcP
      obtain ⟨sp, esp⟩ : ∃ sp, keptS s k zs q = sp := ⟨_, rfl⟩
      have KSP : Hid (keptS s k zs q = sp) := esp
      rw [esp] at hcP
      have hszd := hbel.size
      have hGb := (World.ownsRow.lt hown _ rfl).1
      clear esp hKP hP
      go_wp2_with (at_builtin; refine wpList_append_lies _ (by rfl) _ _ 44 (by rfl) w7.heap.size 9 i0 (.string ByteArray.empty) 1 16 Try.underlying44 hi hz0 hz1 hz2 rfl (by decide) (.slice (some ⟨gb, 0, none⟩) q cc) q _ (by rfl) (World.ownsRow.alloc hown _) ⟨wr.heap.size, 0, none⟩ 1 1 [.string sp] (by rfl) (by rfl) (World.news_of_block (cs := #[.string sp]) (t := 9) (fr := (0, 0)) (heap_alloc_new wr _)) (by simp [Value.oneCell']) (by omega) (by unfold maxLen; omega) (by omega) (by simp; omega) (wr.heap.size + 1) (by simp) ?_; intro g2 cap3 w9 hown2 hgrow hat hltg)
      have HO : Hid (OwnT w9 w7.heap.size (some ⟨g2, 0, none⟩) (q + 1) cap3 (keptS s k zs)) := by
        show OwnT _ _ _ _ _ _
        unfold OwnT
        rw [sL_snoc, KSP.out]
        exact hown2
      have hb' : Below w7.heap.size w7 w9 := (hbel.alloc hszd _).grown (show World.grownBy _ w9 (some gb) from hgrow) (by simp; omega) (fun j hj => by cases hj; exact hGb)
      clear hown2 hgrow hat hltg hown
      go_roundw
      case rel => exact ⟨q + 1, g2, cap3, by omega, by go_num, rfl, HO.out, hb'⟩
      case measure => simp [intOf] <;> omega
    · obtain rfl : q = k := by omega
      have hP8 := ownsRow_below KP7.out hbel
      have hc8 := KC7.out.below hbel
      have hB8 : Below g w wr := KB7.out.trans (hbel.mono (by omega))
      have hgb := (World.ownsRow.lt hown _ rfl).1
      have hs78 := hbel.size
      have KKS : Hid (∀ i, i < q → (keptS s q zs i).size ≤ 100) := fun i _ => KSI.out _
      clear hbel KP7 KC7 KB7 KAC KZC KPT hi hz0 hz1 hz2
      generalize keptS s q zs = S8 at hown KKS
      go_wp2_with fail
      refine (belowN_any g cn cap a _ _ hc8).mono ?_
      rintro e w9 ⟨x, x0, x1, _, rfl, hg9, hc9⟩
      have x3 := x1 (by omega)
      obtain ⟨I, rfl⟩ := Int.eq_ofNat_of_zero_le x0
      have hIq : I < q := by omega
      have hown9 : OwnT w9 w7.heap.size (some ⟨gb, 0, none⟩) q cc S8 := World.ownsRow.kept hown hg9 (.inr (by simp [Value.ownBlock]; omega))
      have hP9 := hP8.kept hg9 (.inr (by simp [Value.ownBlock]; omega))
      have hB9 : Below g w w9 := hB8.grown hg9 (by omega) (fun j hj => by cases hj; exact Nat.le_refl _)
      clear x1 hc8 hown hP8 hB8
      go_wp2_with fail
      refine (belowN_any g cn cap a _ _ hc9).mono ?_
      rintro e w10 ⟨x, x0, x1, _, rfl, hg10, hc10⟩
      obtain ⟨T, rfl⟩ := Int.eq_ofNat_of_zero_le x0
      have hown10 : OwnT w10 w7.heap.size (some ⟨gb, 0, none⟩) q cc S8 := World.ownsRow.kept hown9 hg10 (.inr (by simp [Value.ownBlock]; omega))
      have hP10 := hP9.kept hg10 (.inr (by simp [Value.ownBlock]; omega))
      have hs9 := hg9.size
      have hs10 := hg10.size
      have hB10 : Below g w w10 := hB9.grown hg10 (by omega) (fun j hj => by cases hj; exact Nat.le_refl _)
      clear x1 hc9 hown9 hP9 hB9 hg9 hg10 x0
      by_cases hT0 : T = 0
      · subst hT0
        have hcI : w10.cell? ⟨gb, I, none⟩ = some (.string (S8 I)) := by
          rw [World.ownsRow.cellAt hown10 I (by omega)]
          exact sL_get _ _ _ hIq
        have hsI := KKS.out I hIq
        obtain ⟨sI, eI'⟩ : ∃ sI, S8 I = sI := ⟨_, rfl⟩
        rw [eI'] at hcI hsI
        clear eI'
        go_wp2_with fail
        refine (bytes_any g cn cap a sI.size _ hc10 hab (by omega)).mono ?_
        rintro e w11 ⟨s', hs', rfl, hg11, hc11⟩
        have hown11 : OwnT w11 w7.heap.size (some ⟨gb, 0, none⟩) q cc S8 := World.ownsRow.kept hown10 hg11 (.inr (by simp [Value.ownBlock]; omega))
        have hP11 := hP10.kept hg11 (.inr (by simp [Value.ownBlock]; omega))
        have hB11 : Below g w w11 := hB10.grown hg11 (by omega) (fun j hj => by cases hj; exact Nat.le_refl _)
        obtain ⟨old, hold⟩ : ∃ v, w11.cell? ⟨gb, I, none⟩ = some v := by
          rw [World.ownsRow.cellAt hown11 I (by omega)]
          exact ⟨_, sL_get _ _ _ hIq⟩
        have hfr := World.ownsRow.frozenAt hown11 I
        have hst := World.ownsRow.stored hown11 I (.string s')
        rw [sL_set _ _ _ _ hIq] at hst
        have HR : Hid (Some4 (w11.setCell ⟨gb, I, none⟩ (.string s')) (.slice (some ⟨G, 0, none⟩) q c) (.slice (some ⟨gb, 0, none⟩) q cc)) := some4_mk (hP11.kept hst.2 (.inr (by simp [Value.ownBlock]; omega))) hst.1 (by omega) (by omega) (fun i hi => by
          by_cases e : i = I
          · simp [e]; omega
          · simp only [e, if_false]; have := KKS.out i hi; omega)
        have HB : Hid (Below g w (w11.setCell ⟨gb, I, none⟩ (.string s'))) := hB11.setCell (by show g ≤ gb; omega) _
        clear hst hown11 hP11 hown10 hP10 hg11 hc11 hB11 hs'
        go_wp2
        (try simp only [Exit.inBlock, Exit.then])
        refine bodyPost_ret (results_four rfl _ _ _) rfl ?_
        exact ⟨_, _, _, _, rfl, HR.out, HB.out⟩
      by_cases hT1 : T = 1
      · subst hT1
        have hcI : w10.cell? ⟨gb, I, none⟩ = some (.string (S8 I)) := by
          rw [World.ownsRow.cellAt hown10 I (by omega)]
          exact sL_get _ _ _ hIq
        have hsI := KKS.out I hIq
        obtain ⟨sI, eI'⟩ : ∃ sI, S8 I = sI := ⟨_, rfl⟩
        rw [eI'] at hcI hsI
        clear eI'
        have hfr := World.ownsRow.frozenAt hown10 I
        have hst := World.ownsRow.stored hown10 I (.string (sI ++ ⟨#[120]⟩))
        rw [sL_set _ _ _ _ hIq] at hst
        have h1s : (⟨#[120]⟩ : ByteArray).size = 1 := rfl
        have HR : Hid (Some4 (w10.setCell ⟨gb, I, none⟩ (.string (sI ++ ⟨#[120]⟩))) (.slice (some ⟨G, 0, none⟩) q c) (.slice (some ⟨gb, 0, none⟩) q cc)) := some4_mk (hP10.kept hst.2 (.inr (by simp [Value.ownBlock]; omega))) hst.1 (by omega) (by omega) (fun i hi => by
          by_cases e : i = I
          · simp only [e, if_true]; rw [ByteArray.size_append, h1s]; omega
          · simp only [e, if_false]; have := KKS.out i hi; omega)
        have HB : Hid (Below g w (w10.setCell ⟨gb, I, none⟩ (.string (sI ++ ⟨#[120]⟩)))) := hB10.setCell (by show g ≤ gb; omega) _
        clear hst hown10 hP10 hB10
        go_wp2
        (try simp only [Exit.inBlock, Exit.then])
        refine bodyPost_ret (results_four rfl _ _ _) rfl ?_
        exact ⟨_, _, _, _, rfl, HR.out, HB.out⟩
      by_cases hT2 : T = 2
      · subst hT2
        have hc0 : w10.cell? ⟨G, 0, none⟩ = some (.int .i64 (zs.getD 0 0)) := by
          obtain ⟨b, off, e, hcc⟩ := (ownsRow.ints hP10).2 0 (by omega)
          cases e
          rw [Nat.zero_add] at hcc
          exact hcc
        obtain ⟨z0, ez0⟩ : ∃ z0, zs.getD 0 0 = z0 := ⟨_, rfl⟩
        rw [ez0] at hc0
        have hq0 : (0 : Int) < (q : Int) := by omega
        clear ez0
        go_wp2_with fail
        refine (pick_any g cn cap a w10.heap.size 0 3 3 _ (hc10.alloc _) (by omega) (by omega) (by omega) (lit_cells (cs := [-1, (n : Int), z0]))).mono ?_
        rintro e w11 ⟨z, rfl, hg11, hc11⟩
        have hown11 : OwnT w11 w7.heap.size (some ⟨gb, 0, none⟩) q cc S8 := World.ownsRow.kept (World.ownsRow.alloc hown10 _) hg11 (.inr (by simp [Value.ownBlock]; omega))
        have hP11 := (World.ownsRow.alloc hP10 (.cells #[.int .i64 (-1), .int .i64 (n : Int), .int .i64 z0] 3)).kept hg11 (.inr (by simp [Value.ownBlock]; omega))
        have hB11 : Below g w w11 := (hB10.alloc (by omega) (.cells #[.int .i64 (-1), .int .i64 (n : Int), .int .i64 z0] 3)).grown hg11 (by simp; omega) (fun j hj => by cases hj; exact Nat.le_refl _)
        obtain ⟨old, hold⟩ : ∃ v, w11.cell? ⟨G, I, none⟩ = some v := by
          rw [World.ownsRow.cellAt hP11 I (by omega)]
          exact ⟨_, List.getElem?_eq_getElem (by rw [hP11.1]; omega)⟩
        have hfr := World.ownsRow.frozenAt hP11 I
        have hst := World.ownsRow.stored hP11 I (.int .i64 z)
        have HR : Hid (Some4 (w11.setCell ⟨G, I, none⟩ (.int .i64 z)) (.slice (some ⟨G, 0, none⟩) q c) (.slice (some ⟨gb, 0, none⟩) q cc)) := some4_mk (zs := zs.set I z) (by rw [List.map_set]; exact hst.1) (World.ownsRow.kept hown11 hst.2 (.inr (by simp [Value.ownBlock]; omega))) (by omega) (by omega) (fun i hi => by have := KKS.out i hi; omega)
        have HB : Hid (Below g w (w11.setCell ⟨G, I, none⟩ (.int .i64 z))) := hB11.setCell (by show g ≤ G; omega) _
        clear hst hown11 hP11 hown10 hP10 hg11 hc11 hB11
        go_wp2
        (try simp only [Exit.inBlock, Exit.then])
        refine bodyPost_ret (results_four rfl _ _ _) rfl ?_
        exact ⟨_, _, _, _, rfl, HR.out, HB.out⟩
      by_cases hT3 : T = 3
      · subst hT3
        go_wp2_with fail
        refine (pick_any g cn cap a w10.heap.size 0 3 3 _ (hc10.alloc _) (by omega) (by omega) (by omega) (lit_cells (cs := [0, (q : Int) + 1, 17]))).mono ?_
        rintro e w11 ⟨z, rfl, hg11, hc11⟩
        have hown11 : OwnT w11 w7.heap.size (some ⟨gb, 0, none⟩) q cc S8 := World.ownsRow.kept (World.ownsRow.alloc hown10 _) hg11 (.inr (by simp [Value.ownBlock]; omega))
        have hP11 := (World.ownsRow.alloc hP10 (.cells #[.int .i64 0, .int .i64 ((q : Int) + 1), .int .i64 17] 3)).kept hg11 (.inr (by simp [Value.ownBlock]; omega))
        have hB11 : Below g w w11 := (hB10.alloc (by omega) (.cells #[.int .i64 0, .int .i64 ((q : Int) + 1), .int .i64 17] 3)).grown hg11 (by simp; omega) (fun j hj => by cases hj; exact Nat.le_refl _)
        have HR : Hid (Some4 w11 (.slice (some ⟨G, 0, none⟩) q c) (.slice (some ⟨gb, 0, none⟩) q cc)) := some4_mk hP11 hown11 (by omega) (by omega) (fun i hi => by have := KKS.out i hi; omega)
        clear hown11 hP11 hown10 hP10 hg11 hc11
        go_wp2
        (try simp only [Exit.inBlock, Exit.then])
        refine bodyPost_ret (results_four rfl _ _ _) rfl ?_
        exact ⟨_, _, _, _, rfl, HR.out, hB11⟩
      have t0 : ((T : Int) == 0) = false := by rw [beq_eq_false_iff_ne]; omega
      have t1 : ((T : Int) == 1) = false := by rw [beq_eq_false_iff_ne]; omega
      have t2 : ((T : Int) == 2) = false := by rw [beq_eq_false_iff_ne]; omega
      have t3 : ((T : Int) == 3) = false := by rw [beq_eq_false_iff_ne]; omega
      have HR : Hid (Some4 w10 (.slice (some ⟨G, 0, none⟩) q c) (.slice (some ⟨gb, 0, none⟩) q cc)) := some4_mk hP10 hown10 (by omega) (by omega) (fun i hi => by have := KKS.out i hi; omega)
      clear hP10 hown10
      go_wp2
      (try simp only [Exit.inBlock, Exit.then])
      refine bodyPost_ret (results_four rfl _ _ _) rfl ?_
      exact ⟨_, _, _, _, rfl, HR.out, hB10⟩
set_option maxHeartbeats 1000000 in
theorem drawDecode_any (a : Option Addr) (cn cap : Nat) (w : World) (hc : CodeAt w a cn) :
    Calls Try.prog 42 #[.slice a cn cap] w fun e w' => ∃ (k n : Int) (v u : Value), e = .returned (.tuple #[.int .i64 k, .int .i64 n, v, u]) ∧ Some4 w' v u ∧ Below w.heap.size w w' := by
  go_enter Try.func42, Try.ntmps42
  go_wp2_with fail
  refine (new_any a cn cap _ hc.1 hc.bytes).mono ?_
  rintro e w1 ⟨g, rfl, hg, hb1, hc1⟩
  have hab := hc.under hg
  clear hc
  go_wp2_with fail
  refine (some_any g cn cap a _ hc1 hab).mono ?_
  rintro e w2 ⟨k, n, v, u, rfl, h4, hb2⟩
  have HB : Hid (Some4 w2 v u ∧ Below w.heap.size w w2) := ⟨h4, hb1.trans (hb2.mono hg)⟩
  clear h4 hb1 hb2 hc1
  go_wp2
  (try simp only [Exit.inBlock, Exit.then])
  refine bodyPost_ret (results_four rfl _ _ _) rfl ?_
  exact ⟨k, n, v, u, rfl, HB.out.1, HB.out.2⟩
/-- A list of bodies that was drawn. -/
def Some1 (w' : World) (v : Value) : Prop := ∃ (a : Option Addr) (nb c : Nat) (S : Nat → ByteArray), v = .slice a nb c ∧ nb ≤ 16 ∧ nb ≤ c ∧ c ≤ maxLen ∧ TxtAt w' a nb S ∧ ∀ i, i < nb → (S i).size ≤ 1000
theorem some1_mk {w' : World} {B : Nat} {a : Option Addr} {nb c : Nat} {S : Nat → ByteArray} (h : OwnT w' B a nb c S) (hn : nb ≤ 16) (hS : ∀ i, i < nb → (S i).size ≤ 1000) : Some1 w' (.slice a nb c) := ⟨a, nb, c, S, rfl, hn, h.cap.1, h.cap.2, h.at, hS⟩
end Go.Proofs.Ytmggogdnfgkljaa

/- What the law draws: all bodies of a text, one spoilt, sometimes, one too many, sometimes; a number of a code. -/
namespace Go.Proofs.Ytmggogdnfgkljaa
open Go.ChangeShapes Go.WideShapes Go.ChangeAt Go.RowKit

set_option maxHeartbeats 1000000 in
theorem at_any (a : Option Addr) (cn cap i : Nat) (w : World) (hc : CodeAt w a cn) (hi : i ≤ 1000) :
    Calls Try.prog 47 #[.slice a cn cap, .int .i64 (i : Int)] w fun e w' => ∃ t : Nat, t < 256 ∧ e = .returned (.int .i64 (t : Int)) ∧ w' = w := by
  obtain ⟨hn, hcs⟩ := hc
  by_cases hlt : i < cn
  · have hlti : (i : Int) < (cn : Int) := by omega
    obtain ⟨b, off, x, rfl, hcell, hx0, hx1⟩ := hcs i hlt
    obtain ⟨X, rfl⟩ := Int.eq_ofNat_of_zero_le hx0
    clear hcs
    go_enter Try.func47, Try.ntmps47
    go_wp2
    go_ret
    exact ⟨X, by omega, rfl, rfl⟩
  · have hlti : ¬ (i : Int) < (cn : Int) := by omega
    have hm : Int.tmod ((i : Int) * 7 + (cn : Int)) 256 = (((i * 7 + cn) % 256 : Nat) : Int) := by rw [Int.tmod_eq_emod_of_nonneg (by omega)]; omega
    obtain ⟨t, ht⟩ : ∃ t, (i * 7 + cn) % 256 = t := ⟨_, rfl⟩
    have ht2 : t < 256 := by omega
    rw [ht] at hm
    clear hcs ht
    go_enter Try.func47, Try.ntmps47
    go_wp2
    go_ret
    exact ⟨t, ht2, rfl, rfl⟩
set_option maxRecDepth 100000 in
set_option maxHeartbeats 8000000 in
theorem drawAgree_any (a : Option Addr) (cn cap : Nat) (w : World) (hc : CodeAt w a cn) :
    Calls Try.prog 45 #[.slice a cn cap] w fun e w' => ∃ (k n : Int) (v : Value), e = .returned (.tuple #[.int .i64 k, .int .i64 n, v]) ∧ Some1 w' v ∧ Below w.heap.size w w' := by
  obtain ⟨i0, hi, hz0, hz1, hz2⟩ := info_parts Try.infoStr
  go_enter Try.func45, Try.ntmps45
  go_wp2_with fail
  refine (new_any a cn cap _ hc.1 hc.bytes).mono ?_
  rintro e w1 ⟨g, rfl, hg, hb1, hc1⟩
  have hab := hc.under hg
  have hgl := hc1.lt
  clear hc
  go_wp2_with fail
  refine (belowN_any g cn cap a _ _ hc1).mono ?_
  rintro e w2 ⟨x, x0, x1, _, rfl, hg2, hc2⟩
  have x2 := x1 (by omega)
  obtain ⟨X, rfl⟩ := Int.eq_ofNat_of_zero_le x0
  clear x1 hc1
  go_wp2_with fail
  refine (belowN_any g cn cap a _ _ hc2).mono ?_
  rintro e w3 ⟨y, y0, y1, _, rfl, hg3, hc3⟩
  have y2 := y1 (by omega)
  obtain ⟨Y, rfl⟩ := Int.eq_ofNat_of_zero_le y0
  clear y1 hc2
  go_wp2_with fail
  refine (belowN_any g cn cap a _ _ hc3).mono ?_
  rintro e w4 ⟨u, u0, u1, _, rfl, hg4, hc4⟩
  have u2 := u1 (by omega)
  obtain ⟨U, rfl⟩ := Int.eq_ofNat_of_zero_le u0
  clear u1 hc3
  go_wp2_with fail
  refine (bytes_any g cn cap a U _ hc4 hab (by omega)).mono ?_
  rintro e w5 ⟨s, hs, rfl, hg5, hc5⟩
  have hB5 : Below g w1 w5 := (((((Below.refl g w1).grown hg2 (by omega) (fun j hj => by cases hj; exact Nat.le_refl _))).grown hg3 (by have := hg2.size; omega) (fun j hj => by cases hj; exact Nat.le_refl _)).grown hg4 (by have := hg2.size; have := hg3.size; omega) (fun j hj => by cases hj; exact Nat.le_refl _)).grown hg5 (by have := hc4.lt; omega) (fun j hj => by cases hj; exact Nat.le_refl _)
  clear hg2 hg3 hg4 hg5 hc4
  obtain ⟨n, hn⟩ : ∃ n, 1 + X = n := ⟨_, rfl⟩
  obtain ⟨k, hk⟩ : ∃ k, 1 + Y = k := ⟨_, rfl⟩
  have hk1 : 1 ≤ k := by omega
  have hkn : k ≤ n := by omega
  have hn16 : n ≤ 10 := by omega
  have hok : encOk s (k : Int) (n : Int) = true := by unfold encOk; rw [sprOk_of hk1 hkn (by omega)]; simp; omega
  have hR : encR s (k : Int) (n : Int) = n := by unfold encR; rw [if_pos hok]; simp
  have KES : Hid (∀ w, Calls Try.prog 36 #[.string s, .int .i64 (k : Int), .int .i64 (n : Int)] w fun e w' => ∃ v, e = .returned (.tuple #[v, .bool true]) ∧ ResT w w' v n (encS s k) ∧ Below w.heap.size w w') := fun w => by
    have := sEncode_any s (k : Int) (n : Int) w (by omega)
    rw [hok, hR, Int.toNat_natCast] at this
    exact this
  have KSI : Hid (∀ i, i < n → (encS s k i).size ≤ 100) := fun i _ => by
    rw [encS_size]
    have := blen_le (s := s.size) hk1
    omega
  clear hok hR
  go_wp2_with fail
  rw [show (1 + (X : Int)) = (n : Int) by omega, show (1 + (Y : Int)) = (k : Int) by omega]
  refine Calls.mono (KES.out _) ?_
  rintro e w6 ⟨v6, rfl, R6, b6⟩
  obtain ⟨aA, cA, rfl, A6⟩ := R6
  have hc6 := hc5.below b6
  have hs56 := b6.size
  have hB6 : Below g w1 w6 := hB5.trans (b6.mono (by have := hc5.lt; omega))
  obtain ⟨gA, rfl⟩ : ∃ gA, aA = some ⟨gA, 0, none⟩ := by
    rcases own_shape A6 with ⟨_, h0, _⟩ | ⟨gA, _, e, _⟩
    · omega
    · exact ⟨gA, e⟩
  have hgA := (World.ownsRow.lt A6 _ rfl).1
  have hg5l := hc5.lt
  clear b6 KES hB5 hc5 hn hk
  generalize encS s k = S8 at A6 KSI
  go_wp2_with fail
  refine (once_any g cn cap a _ _ hc6).mono ?_
  rintro e w7 ⟨b7, rfl, hg7, hc7⟩
  have A7 : OwnT w7 w5.heap.size (some ⟨gA, 0, none⟩) n cA S8 := World.ownsRow.kept A6 hg7 (.inr (by simp [Value.ownBlock]; omega))
  have hB7 : Below g w1 w7 := hB6.grown hg7 (by have := hc6.lt; omega) (fun j hj => by cases hj; exact Nat.le_refl _)
  have hs7 := hg7.size
  have hg6l := hc6.lt
  clear A6 hB6 hc6 hg7
  cases b7 with
  | false =>
    go_wp2_with fail
    refine (once_any g cn cap a _ _ hc7).mono ?_
    rintro e w20 ⟨b20, rfl, hg20, hc20⟩
    have hown20 : OwnT w20 w5.heap.size (some ⟨gA, 0, none⟩) n cA S8 := World.ownsRow.kept A7 hg20 (.inr (by simp [Value.ownBlock]; omega))
    have hs20 := hg20.size
    have hB20 : Below g w1 w20 := (hB7).grown hg20 (by have := (hc7).lt; omega) (fun j hj => by cases hj; exact Nat.le_refl _)
    clear hc20 hg20
    cases b20 with
    | false =>
      have HR : Hid (Some1 w20 (.slice (some ⟨gA, 0, none⟩) n cA) ∧ Below w.heap.size w w20) := ⟨some1_mk hown20 (by omega) (fun i hi => by have := KSI.out i hi; omega), hb1.trans (hB20.mono hg)⟩
      clear hown20 hB20
      go_wp2
      go_ret3
      exact ⟨_, _, _, rfl, HR.out.1, HR.out.2⟩
    | true =>
      have hc00 : w20.cell? ⟨gA, 0, none⟩ = some (.string (S8 0)) := by
        rw [World.ownsRow.cellAt hown20 0 (by omega)]
        exact sL_get _ _ _ (by omega)
      obtain ⟨s00, es00⟩ : ∃ s00, S8 0 = s00 := ⟨_, rfl⟩
      have hs00 : s00.size ≤ 100 := by rw [← es00]; exact KSI.out 0 (by omega)
      rw [es00] at hc00
      have hn0 : (0 : Int) < (n : Int) := by omega
      have hgA20 := (World.ownsRow.lt hown20 _ rfl)
      go_wp2_with (at_builtin; refine wpList_append_lies _ (by rfl) _ _ 44 (by rfl) w5.heap.size 9 i0 (.string ByteArray.empty) 1 16 Try.underlying44 hi hz0 hz1 hz2 rfl (by decide) (.slice (some ⟨gA, 0, none⟩) n cA) n _ (by rfl) (World.ownsRow.alloc hown20 _) ⟨w20.heap.size, 0, none⟩ 1 1 [.string s00] (by rfl) (by rfl) (World.news_of_block (cs := #[.string s00]) (t := 9) (fr := (0, 0)) (heap_alloc_new w20 _)) (by simp [Value.oneCell']) (by omega) (by unfold maxLen; omega) (by omega) (by simp; omega) (w20.heap.size + 1) (by simp) ?_; intro g2 cap3 w21 hown2 hgrow hat hltg)
      have HO : OwnT w21 w5.heap.size (some ⟨g2, 0, none⟩) (n + 1) cap3 (fun i => if i < n then S8 i else s00) := by
        unfold OwnT
        rw [sL_snoc, sL_congr (S' := S8) (fun i hi => if_pos hi)]
        simp only [Nat.lt_irrefl, if_false]
        exact hown2
      have hb21 : Below g w1 w21 := (hB20.alloc (by omega) (.cells #[.string s00] 9)).grown (show World.grownBy _ w21 (some gA) from hgrow) (by simp; omega) (fun j hj => by cases hj; omega)
      have HR : Hid (Some1 w21 (.slice (some ⟨g2, 0, none⟩) (n + 1) cap3) ∧ Below w.heap.size w w21) := ⟨some1_mk HO (by omega) (fun i hi => by
        by_cases e : i < n
        · simp only [e, if_true]; have := KSI.out i e; omega
        · simp only [e, if_false]; omega), hb1.trans (hb21.mono hg)⟩
      clear hown2 hgrow hat hltg hown20 HO hb21
      go_wp2
      go_ret3
      exact ⟨_, _, _, rfl, HR.out.1, HR.out.2⟩
  | true =>
    go_wp2_with fail
    refine (belowN_any g cn cap a _ _ hc7).mono ?_
    rintro e w9 ⟨x, x0, x1, _, rfl, hg9, hc9⟩
    have x3 := x1 (by omega)
    obtain ⟨I, rfl⟩ := Int.eq_ofNat_of_zero_le x0
    have hIq : I < n := by omega
    have A9 : OwnT w9 w5.heap.size (some ⟨gA, 0, none⟩) n cA S8 := World.ownsRow.kept A7 hg9 (.inr (by simp [Value.ownBlock]; omega))
    have hB9 : Below g w1 w9 := hB7.grown hg9 (by omega) (fun j hj => by cases hj; exact Nat.le_refl _)
    have hs9 := hg9.size
    have hcI : w9.cell? ⟨gA, I, none⟩ = some (.string (S8 I)) := by
      rw [World.ownsRow.cellAt A9 I (by omega)]
      exact sL_get _ _ _ hIq
    have hsI := KSI.out I hIq
    obtain ⟨sI, eI'⟩ : ∃ sI, S8 I = sI := ⟨_, rfl⟩
    rw [eI'] at hcI hsI
    clear eI' x1 x0 hc7 A7 hB7 hg9
    go_wp2_with fail
    refine (bytes_any g cn cap a sI.size _ hc9 hab (by omega)).mono ?_
    rintro e w11 ⟨s', hs', rfl, hg11, hc11⟩
    have A11 : OwnT w11 w5.heap.size (some ⟨gA, 0, none⟩) n cA S8 := World.ownsRow.kept A9 hg11 (.inr (by simp [Value.ownBlock]; omega))
    have hB11 : Below g w1 w11 := hB9.grown hg11 (by omega) (fun j hj => by cases hj; exact Nat.le_refl _)
    have hs11 := hg11.size
    obtain ⟨old, hold⟩ : ∃ v, w11.cell? ⟨gA, I, none⟩ = some v := by
      rw [World.ownsRow.cellAt A11 I (by omega)]
      exact ⟨_, sL_get _ _ _ hIq⟩
    have hfr := World.ownsRow.frozenAt A11 I
    have hst := World.ownsRow.stored A11 I (.string s')
    rw [sL_set _ _ _ _ hIq] at hst
    obtain ⟨w12, hw12⟩ : ∃ w12, w11.setCell ⟨gA, I, none⟩ (.string s') = w12 := ⟨_, rfl⟩
    have A12 : OwnT w12 w5.heap.size (some ⟨gA, 0, none⟩) n cA (fun i => if i = I then s' else S8 i) := hw12 ▸ hst.1
    have hB12 : Below g w1 w12 := hw12 ▸ hB11.setCell (by show g ≤ gA; omega) _
    have hc12 : Cur w12 g a cn cap := hw12 ▸ hc11.far hst.2 (by omega) hab
    have KS12 : Hid (∀ i, i < n → ((fun i => if i = I then s' else S8 i) i).size ≤ 100) := fun i hi => by
      by_cases e : i = I
      · simp only [e, if_true]; omega
      · simp only [e, if_false]; exact KSI.out i hi
    generalize (fun i => if i = I then s' else S8 i) = S12 at A12 KS12
    have KW12 : Hid (w11.setCell ⟨gA, I, none⟩ (.string s') = w12) := hw12
    clear hst A11 A9 hg11 hc11 hc9 hB11 hB9 hw12
    go_wp2_with fail
    rw [KW12.out]
    refine (once_any g cn cap a _ _ hc12).mono ?_
    rintro e w20 ⟨b20, rfl, hg20, hc20⟩
    have hown20 : OwnT w20 w5.heap.size (some ⟨gA, 0, none⟩) n cA S12 := World.ownsRow.kept A12 hg20 (.inr (by simp [Value.ownBlock]; omega))
    have hs20 := hg20.size
    have hB20 : Below g w1 w20 := (hB12).grown hg20 (by have := (hc12).lt; omega) (fun j hj => by cases hj; exact Nat.le_refl _)
    clear hc20 hg20
    cases b20 with
    | false =>
      have HR : Hid (Some1 w20 (.slice (some ⟨gA, 0, none⟩) n cA) ∧ Below w.heap.size w w20) := ⟨some1_mk hown20 (by omega) (fun i hi => by have := KS12.out i hi; omega), hb1.trans (hB20.mono hg)⟩
      clear hown20 hB20
      go_wp2
      go_ret3
      exact ⟨_, _, _, rfl, HR.out.1, HR.out.2⟩
    | true =>
      have hc00 : w20.cell? ⟨gA, 0, none⟩ = some (.string (S12 0)) := by
        rw [World.ownsRow.cellAt hown20 0 (by omega)]
        exact sL_get _ _ _ (by omega)
      obtain ⟨s00, es00⟩ : ∃ s00, S12 0 = s00 := ⟨_, rfl⟩
      have hs00 : s00.size ≤ 100 := by rw [← es00]; exact KS12.out 0 (by omega)
      rw [es00] at hc00
      have hn0 : (0 : Int) < (n : Int) := by omega
      have hgA20 := (World.ownsRow.lt hown20 _ rfl)
      go_wp2_with (at_builtin; refine wpList_append_lies _ (by rfl) _ _ 44 (by rfl) w5.heap.size 9 i0 (.string ByteArray.empty) 1 16 Try.underlying44 hi hz0 hz1 hz2 rfl (by decide) (.slice (some ⟨gA, 0, none⟩) n cA) n _ (by rfl) (World.ownsRow.alloc hown20 _) ⟨w20.heap.size, 0, none⟩ 1 1 [.string s00] (by rfl) (by rfl) (World.news_of_block (cs := #[.string s00]) (t := 9) (fr := (0, 0)) (heap_alloc_new w20 _)) (by simp [Value.oneCell']) (by omega) (by unfold maxLen; omega) (by omega) (by simp; omega) (w20.heap.size + 1) (by simp) ?_; intro g2 cap3 w21 hown2 hgrow hat hltg)
      have HO : OwnT w21 w5.heap.size (some ⟨g2, 0, none⟩) (n + 1) cap3 (fun i => if i < n then S12 i else s00) := by
        unfold OwnT
        rw [sL_snoc, sL_congr (S' := S12) (fun i hi => if_pos hi)]
        simp only [Nat.lt_irrefl, if_false]
        exact hown2
      have hb21 : Below g w1 w21 := (hB20.alloc (by omega) (.cells #[.string s00] 9)).grown (show World.grownBy _ w21 (some gA) from hgrow) (by simp; omega) (fun j hj => by cases hj; omega)
      have HR : Hid (Some1 w21 (.slice (some ⟨g2, 0, none⟩) (n + 1) cap3) ∧ Below w.heap.size w w21) := ⟨some1_mk HO (by omega) (fun i hi => by
        by_cases e : i < n
        · simp only [e, if_true]; have := KS12.out i e; omega
        · simp only [e, if_false]; omega), hb1.trans (hb21.mono hg)⟩
      clear hown2 hgrow hat hltg hown20 HO hb21
      go_wp2
      go_ret3
      exact ⟨_, _, _, rfl, HR.out.1, HR.out.2⟩
end Go.Proofs.Ytmggogdnfgkljaa
