/- For every input: bodies that tell a text are those of the text, and the program's answers are the model's; with one changed, of more than k, they do not agree. No condition. -/
import Derived.Test.YtmggogdnfgkljaaK12
namespace Go.Proofs.Ytmggogdnfgkljaa
open Go.ChangeShapes Go.WideShapes Go.ChangeAt Go.RowKit

/-- A text turned into bytes. -/
theorem bytes_of (w : World) (s : ByteArray) : ∃ w' c, (convert 9 22 (.string s)).run Try.prog w = .ok (.slice (some ⟨w.heap.size, 0, none⟩) s.size c) w' ∧ (∀ p, p < s.size → w'.cell? ⟨w.heap.size, p, none⟩ = some (.int .u8 ((tat s p : Nat) : Int))) ∧ (∀ p, p < s.size → w'.frozen? ⟨w.heap.size, p, none⟩ = false) ∧ w.heap.size < w'.heap.size ∧ Below w.heap.size w w' := by
  refine ⟨_, _, run_bytes_of_string (P := Try.prog) w 9 22 5 s Try.underlying9 Try.underlying22 Try.underlying5, fun p hp => ?_, fun p hp => ?_, ?_, ((Below.refl _ _).drew).alloc (Nat.le_refl _) _⟩
  · refine (World.cell?_alloc_mark w.drew _ 5 _ p).trans ?_
    rw [bytesRow_at s _ p hp]
    have : tat s p = s.data[p].toNat := tat_in s p hp
    rw [this]
  · refine (World.frozen?_alloc_mark w.drew _ 5 _ _ p).trans ?_
    have hsz : p < (bytesRow s (grownCap w s.size 0 5)).size := by
      unfold bytesRow
      have : p < s.data.size := hp
      simp
      omega
    simp
    omega
  · simp
theorem bdR_le16 (k n : Int) (zs : List Int) (nb : Nat) (S : Nat → ByteArray) : bdR k n zs nb S ≤ 16 := by
  unfold bdR
  split
  · rename_i h
    have hr : Rgt k n zs nb S := Classical.byContradiction fun hno => by rw [rgt_no hno] at h; exact absurd h (by simp)
    have := sprOk_parts hr.1
    omega
  · omega
theorem rgt_of {k n : Int} {zs : List Int} {nb : Nat} {S : Nat → ByteArray} (h : rgt k n zs nb S = true) : Rgt k n zs nb S := Classical.byContradiction fun hno => by rw [rgt_no hno] at h; exact absurd h (by simp)
/-- What the law wants of all bodies that go with some. -/
def Full (k n : Int) (br : Nat) (bs : Nat → ByteArray) : Prop := ∃ K M l : Nat, k = (K : Int) ∧ n = (M : Int) ∧ br = M ∧ (1 ≤ K ∧ K ≤ M ∧ M ≤ 16) ∧ (1 ≤ l ∧ l ≤ 1000) ∧ (∀ i, (bs i).size = l) ∧
  (∀ w a ca, TxtAt w a M bs → M ≤ ca → ca ≤ maxLen → Calls Try.prog 41 #[.int .i64 (K : Int), .int .i64 (M : Int), .slice a M ca] w fun e w' => e = .returned (.bool true) ∧ Below w.heap.size w w') ∧
  (K < M → ∀ i j S', i < M → j < l → (∀ t, t < M → t ≠ i → S' t = bs t) → (S' i).size = l → tat (S' i) j ≠ tat (bs i) j → ∀ w a ca, TxtAt w a M S' → M ≤ ca → ca ≤ maxLen → Calls Try.prog 41 #[.int .i64 (K : Int), .int .i64 (M : Int), .slice a M ca] w fun e w' => e = .returned (.bool false) ∧ Below w.heap.size w w')
theorem full_of {k n : Int} {zs : List Int} {nb : Nat} {S : Nat → ByteArray} (h : Rgt k n zs nb S) (hS : ∀ i, i < nb → (S i).size ≤ 1000) : Full k n (bdR k n zs nb S) (bdS k n zs S) := by
  obtain ⟨q1, q2, q3⟩ := sprOk_parts h.1
  obtain ⟨K, rfl⟩ := Int.eq_ofNat_of_zero_le (show 0 ≤ k by omega)
  obtain ⟨M, rfl⟩ := Int.eq_ofNat_of_zero_le (show 0 ≤ n by omega)
  have hnb : nb = K := by have := h.2.2.1; omega
  have hl0 := h.2.2.2.1
  have hl1 := hS 0 (by omega)
  refine ⟨K, M, (S 0).size, rfl, rfl, by rw [bdR_is h, Int.toNat_natCast], ⟨by omega, by omega, by omega⟩, ⟨by omega, hl1⟩, fun i => bd_size _ _ _ _ _, fun w a ca h1 h2 h3 => ?_, fun hKM i j S' hi hj hs hz hne w a ca h1 h2 h3 => ?_⟩
  · have := agree_any (K : Int) (M : Int) a M ca (bdS (K : Int) (M : Int) zs S) w h1 h2 h3 (by omega) (fun _ => by rw [bd_size]; omega)
    rw [agr_yes (bd_agr h)] at this
    exact this
  · have hs0 : (S' 0).size = (S 0).size := by
      by_cases e : i = 0
      · rw [e] at hz; exact hz
      · rw [hs 0 (by omega) (Ne.symm e), bd_size]
    have := agree_any (K : Int) (M : Int) a M ca S' w h1 h2 h3 (by omega) (fun _ => by rw [hs0]; omega)
    rw [agr_no (bd_spoilt h hKM hi hj hs hz hne)] at this
    exact this
theorem again_of {k n : Int} {zs : List Int} {nb : Nat} {S : Nat → ByteArray} (h : dcB k n zs nb S = true) (w : World) :
    Calls Try.prog 35 #[.string (dcS k n zs nb S), .int .i64 k, .int .i64 n] w fun e w' => ∃ v, e = .returned (.tuple #[v, .bool true]) ∧ ResT w w' v (bdR k n zs nb S) (bdS k n zs S) ∧ Below w.heap.size w w' := by
  have hr := dcB_rgt h
  obtain ⟨q1, q2, q3⟩ := sprOk_parts hr.1
  obtain ⟨K, rfl⟩ := Int.eq_ofNat_of_zero_le (show 0 ≤ k by omega)
  obtain ⟨M, rfl⟩ := Int.eq_ofNat_of_zero_le (show 0 ≤ n by omega)
  obtain ⟨hz, hE⟩ := dec_all h
  have hok : encOk (dcS (K : Int) (M : Int) zs nb S) (K : Int) (M : Int) = true := by unfold encOk; rw [hr.1]; simp; omega
  have hR : encR (dcS (K : Int) (M : Int) zs nb S) (K : Int) (M : Int) = M := by unfold encR; rw [if_pos hok]; simp
  have := encode_any (dcS (K : Int) (M : Int) zs nb S) (K : Int) (M : Int) w (by omega)
  rw [hok, hR, Int.toNat_natCast] at this
  refine Calls.mono this ?_
  rintro e w' ⟨v, he, hRT, hb⟩
  refine ⟨v, he, ?_, hb⟩
  rw [bdR_is hr, Int.toNat_natCast]
  exact ResT.congr hRT (fun i _ => hE i)
theorem xor_ne {x d : Nat} (hd : 1 ≤ d) : x ^^^ d ≠ x := fun e => by
  have : x ^^^ (x ^^^ d) = x ^^^ x := by rw [e]
  rw [← Nat.xor_assoc, Nat.xor_self, Nat.zero_xor] at this
  omega

set_option maxRecDepth 100000 in
set_option maxHeartbeats 8000000 in
theorem walk_FnLies (a0 : Option Addr) (len0 cap0 : Nat) (z0 : List Int) (w : World) (w0 : IsRow .u8 w a0 len0 cap0 z0) :
    Calls Try.prog 7 #[.slice a0 len0 cap0] w fun e w' => e = .returned (.bool true) ∧ Below w.heap.size w w' := by
  obtain ⟨i0, hi, hz0, hz1, hz2⟩ := info_parts Try.infoStr
  by_cases h0 : 1048576 < len0
  · clear w0
    have h0' : (1048576 : Int) < (len0 : Int) := by omega
    go_enter Try.func7, Try.ntmps7
    go_wp2_with (go_at_call 14; refine (big_any _ _ _ _).mono ?_; rintro e w' ⟨rfl, rfl⟩)
    go_ret
    exact ⟨rfl, Below.refl _ _⟩
  have hc := w0.code (by omega)
  clear w0
  have h0' : ¬ (1048576 : Int) < (len0 : Int) := by omega
  go_enter Try.func7, Try.ntmps7
  go_wp2_with fail
  refine (big_any _ _ _ _).mono ?_
  rintro e w' ⟨rfl, hw⟩
  obtain rfl := hw.symm
  go_wp2_with fail
  refine (drawDecode_any _ _ _ _ hc).mono ?_
  rintro e v1 ⟨k, n, uv, uu, rfl, h4, cum⟩
  obtain ⟨pa, np, pc, zs, ba, nb, bc, S, rfl, rfl, ⟨hnp, hnb⟩, ZP, TP, hS⟩ := h4
  have KC : Hid (CodeAt v1 a0 len0) := hc.below cum
  clear hc hw
  have hl0 : 0 < nb → (S 0).size ≤ 1048576 := fun h => by have := hS 0 h; omega
  have KDI : Hid (∀ w, IntsAt w pa np zs → TxtAt w ba nb S → Calls Try.prog 39 #[.int .i64 k, .int .i64 n, .slice pa np pc, .slice ba nb bc] w fun e w' => e = .returned (.tuple #[.string (dcS k n zs nb S), .bool (dcB k n zs nb S)]) ∧ Below w.heap.size w w') := fun w h1 h2 => decode_any k n pa np pc zs ba nb bc S w h1 h2 (by omega) (by omega) hl0
  have KDS : Hid (∀ w, IntsAt w pa np zs → TxtAt w ba nb S → Calls Try.prog 43 #[.int .i64 k, .int .i64 n, .slice pa np pc, .slice ba nb bc] w fun e w' => e = .returned (.tuple #[.string (dcS k n zs nb S), .bool (dcB k n zs nb S)]) ∧ Below w.heap.size w w') := fun w h1 h2 => sDecode_any k n pa np pc zs ba nb bc S w h1 h2 hl0
  have KBI : Hid (∀ w, IntsAt w pa np zs → TxtAt w ba nb S → Calls Try.prog 40 #[.int .i64 k, .int .i64 n, .slice pa np pc, .slice ba nb bc] w fun e w' => ∃ v, e = .returned (.tuple #[v, .bool (rgt k n zs nb S)]) ∧ ResT w w' v (bdR k n zs nb S) (bdS k n zs S) ∧ Below w.heap.size w w') := fun w h1 h2 => bodies_any k n pa np pc zs ba nb bc S w h1 h2 (by omega) (by omega) hl0
  have KBS : Hid (∀ w, IntsAt w pa np zs → TxtAt w ba nb S → Calls Try.prog 44 #[.int .i64 k, .int .i64 n, .slice pa np pc, .slice ba nb bc] w fun e w' => ∃ v, e = .returned (.tuple #[v, .bool (rgt k n zs nb S)]) ∧ ResT w w' v (bdR k n zs nb S) (bdS k n zs S) ∧ Below w.heap.size w w') := fun w h1 h2 => sBodies_any k n pa np pc zs ba nb bc S w h1 h2 hl0
  have KEN : Hid (dcB k n zs nb S = true → ∀ w, Calls Try.prog 35 #[.string (dcS k n zs nb S), .int .i64 k, .int .i64 n] w fun e w' => ∃ v, e = .returned (.tuple #[v, .bool true]) ∧ ResT w w' v (bdR k n zs nb S) (bdS k n zs S) ∧ Below w.heap.size w w') := fun h w => again_of h w
  have KFU : Hid (rgt k n zs nb S = true → Full k n (bdR k n zs nb S) (bdS k n zs S)) := fun h => full_of (rgt_of h) hS
  have hbr := bdR_le16 k n zs nb S
  generalize dcB k n zs nb S = db at KDI KDS KEN
  generalize dcS k n zs nb S = ds at KDI KDS KEN
  generalize rgt k n zs nb S = rg at KBI KBS KFU
  generalize bdR k n zs nb S = br at KBI KBS KEN KFU hbr
  generalize bdS k n zs S = bs at KBI KBS KEN KFU
  have hd1 : (db != db) = false := by simp
  have hd2 : (rg != rg) = false := by simp
  have hd3 := ba_beq ds
  have KZ1 : Hid (IntsAt v1 pa np zs) := ZP
  have KT1 : Hid (TxtAt v1 ba nb S) := TP
  clear hS hl0 ZP TP
  go_wp2_with fail
  refine Calls.mono (KDI.out _ KZ1.out KT1.out) ?_
  rintro e v2 ⟨rfl, b2⟩
  have KZ2 : Hid (IntsAt v2 pa np zs) := KZ1.out.below b2
  have KT2 : Hid (TxtAt v2 ba nb S) := KT1.out.below b2
  have KC2 : Hid (CodeAt v2 a0 len0) := KC.out.below b2
  replace cum := below2 cum b2
  clear b2 KZ1 KT1 KC KDI
  go_wp2_with fail
  refine Calls.mono (KDS.out _ KZ2.out KT2.out) ?_
  rintro e v3 ⟨rfl, b3⟩
  have KZ3 : Hid (IntsAt v3 pa np zs) := KZ2.out.below b3
  have KT3 : Hid (TxtAt v3 ba nb S) := KT2.out.below b3
  have KC3 : Hid (CodeAt v3 a0 len0) := KC2.out.below b3
  replace cum := below2 cum b3
  clear b3 KZ2 KT2 KC2 KDS
  go_wp2_with fail
  refine Calls.mono (KBI.out _ KZ3.out KT3.out) ?_
  rintro e v4 ⟨u4, rfl, R4, b4⟩
  obtain ⟨aA, cA, rfl, A4⟩ := R4
  have hcA := OwnT.cap A4
  have KA4 : Hid (TxtAt v4 aA br bs) := OwnT.at A4
  have KZ4 : Hid (IntsAt v4 pa np zs) := KZ3.out.below b4
  have KT4 : Hid (TxtAt v4 ba nb S) := KT3.out.below b4
  have KC4 : Hid (CodeAt v4 a0 len0) := KC3.out.below b4
  replace cum := below2 cum b4
  clear b4 KZ3 KT3 KC3 KBI A4
  go_wp2_with fail
  refine Calls.mono (KBS.out _ KZ4.out KT4.out) ?_
  rintro e v5 ⟨u5, rfl, R5, b5⟩
  obtain ⟨aM, cM, rfl, M5⟩ := R5
  have KM5 : Hid (TxtAt v5 aM br bs) := OwnT.at M5
  have KA5 : Hid (TxtAt v5 aA br bs) := KA4.out.below b5
  have KC5 : Hid (CodeAt v5 a0 len0) := KC4.out.below b5
  replace cum := below2 cum b5
  clear b5 KZ4 KT4 KC4 KBS M5 KA4
  go_wp2_with fail
  refine Calls.mono (sameT_same _ _ _ _ _ _ _ KA5.out KM5.out (by omega)) ?_
  rintro e v6 ⟨rfl, b6⟩
  have KA : Hid (TxtAt v6 aA br bs) := KA5.out.below b6
  have KC : Hid (CodeAt v6 a0 len0) := KC5.out.below b6
  have KB : Hid (Below w.heap.size w v6) := below2 cum b6
  clear b6 KA5 KM5 KC5 cum
  cases db
  case' true =>
    have hEN := KEN.out rfl
    go_wp2_with fail
    refine Calls.mono (hEN _) ?_
    rintro e v7 ⟨u7, rfl, R7, b7⟩
    obtain ⟨aE, cE, rfl, E7⟩ := R7
    have KE7 : Hid (TxtAt v7 aE br bs) := OwnT.at E7
    have KA7 : Hid (TxtAt v7 aA br bs) := KA.out.below b7
    have KC7 : Hid (CodeAt v7 a0 len0) := KC.out.below b7
    have KB7 : Hid (Below w.heap.size w v7) := below2 KB.out b7
    clear b7 E7 KA KC KB hEN
    go_wp2_with fail
    refine Calls.mono (sameT_same _ _ _ _ _ _ _ KE7.out KA7.out (by omega)) ?_
    rintro e v8 ⟨rfl, b8⟩
    have KA : Hid (TxtAt v8 aA br bs) := KA7.out.below b8
    have KC : Hid (CodeAt v8 a0 len0) := KC7.out.below b8
    have KB : Hid (Below w.heap.size w v8) := below2 KB7.out b8
    clear b8 KA7 KC7 KB7 KE7
  all_goals
    clear KEN
    go_wp2_with fail
    refine (drawAgree_any _ _ _ _ KC.out).mono ?_
    rintro e v12 ⟨k2, n2, u2, rfl, h1, b12⟩
    obtain ⟨la, lnb, lc, LS, rfl, hln, hlc, hlm, LT, hLS⟩ := h1
    have KA12 : Hid (TxtAt v12 aA br bs) := KA.out.below b12
    have KC12 : Hid (CodeAt v12 a0 len0) := KC.out.below b12
    have KB12 : Hid (Below w.heap.size w v12) := below2 KB.out b12
    have hl2 : 0 < lnb → (LS 0).size ≤ 1048576 := fun h => by have := hLS 0 h; omega
    have KAI : Hid (∀ w, TxtAt w la lnb LS → Calls Try.prog 41 #[.int .i64 k2, .int .i64 n2, .slice la lnb lc] w fun e w' => e = .returned (.bool (agr k2 n2 lnb LS)) ∧ Below w.heap.size w w') := fun w h => agree_any k2 n2 la lnb lc LS w h hlc hlm (by omega) hl2
    have KAS : Hid (∀ w, TxtAt w la lnb LS → Calls Try.prog 46 #[.int .i64 k2, .int .i64 n2, .slice la lnb lc] w fun e w' => e = .returned (.bool (agr k2 n2 lnb LS)) ∧ Below w.heap.size w w') := fun w h => sAgree_any k2 n2 la lnb lc LS w h hlc hlm hl2
    generalize agr k2 n2 lnb LS = ag at KAI KAS
    have hag : (ag != ag) = false := by simp
    have KL12 : Hid (TxtAt v12 la lnb LS) := LT
    clear LT hLS hl2 b12 KA KC KB
    go_wp2_with fail
    refine Calls.mono (KAI.out _ KL12.out) ?_
    rintro e v13 ⟨rfl, b13⟩
    have KL13 : Hid (TxtAt v13 la lnb LS) := KL12.out.below b13
    have KA13 : Hid (TxtAt v13 aA br bs) := KA12.out.below b13
    have KC13 : Hid (CodeAt v13 a0 len0) := KC12.out.below b13
    have KB13 : Hid (Below w.heap.size w v13) := below2 KB12.out b13
    clear b13 KL12 KA12 KC12 KB12 KAI
    go_wp2_with fail
    refine Calls.mono (KAS.out _ KL13.out) ?_
    rintro e v14 ⟨rfl, b14⟩
    have KA14 : Hid (TxtAt v14 aA br bs) := KA13.out.below b14
    have KC14 : Hid (CodeAt v14 a0 len0) := KC13.out.below b14
    have KB14 : Hid (Below w.heap.size w v14) := below2 KB13.out b14
    clear b14 KL13 KA13 KC13 KB13 KAS
    cases rg with
    | false =>
      go_wp2
      go_ret
      exact ⟨rfl, KB14.out⟩
    | true =>
      obtain ⟨K, M, l, rfl, rfl, rfl, ⟨hK1, hKM, hM16⟩, ⟨hl1, hl2⟩, hbz, hAG, hNA⟩ := KFU.out rfl
      have KBZ : Hid (∀ i, (bs i).size = l) := hbz
      have KAG : Hid (∀ w a ca, TxtAt w a br bs → br ≤ ca → ca ≤ maxLen → Calls Try.prog 41 #[.int .i64 (K : Int), .int .i64 (br : Int), .slice a br ca] w fun e w' => e = .returned (.bool true) ∧ Below w.heap.size w w') := hAG
      clear hbz hAG KFU
      by_cases hEq : K = br
      · have hEq' : ((K : Int) == (br : Int)) = true := by simp [hEq]
        clear hNA hEq
        go_wp2
        go_ret
        exact ⟨rfl, KB14.out⟩
      have hEq' : ((K : Int) == (br : Int)) = false := by rw [beq_eq_false_iff_ne]; omega
      have KNA : Hid _ := hNA (by omega)
      clear hNA hEq
      have KAT : Hid (∀ (i : Nat) W, i ≤ 1000 → CodeAt W a0 len0 → Calls Try.prog 47 #[.slice a0 len0 cap0, .int .i64 (i : Int)] W fun e w' => ∃ t : Nat, t < 256 ∧ e = .returned (.int .i64 (t : Int)) ∧ w' = W) := fun i W hi hC => at_any a0 len0 cap0 i W hC hi
      have hM0 : ((br : Int) == 0) = false := by rw [beq_eq_false_iff_ne]; omega
      have hM0' : ¬ ((br : Int) = 0) := by omega
      obtain ⟨bA, oA, rfl, hcs⟩ := KA14.out.some (by omega)
      have KCS : Hid (∀ i, i < br → v14.cell? ⟨bA, oA + i, none⟩ = some (.string (bs i))) := hcs
      clear hcs
      go_wp2_with fail
      refine (KAT.out 3 _ (by omega) KC14.out).mono ?_
      rintro e v15 ⟨t3, ht3, rfl, hw15⟩
      obtain rfl := hw15.symm
      clear hw15
      obtain ⟨I, hI, hmI⟩ : ∃ I : Nat, I < br ∧ Int.tmod (t3 : Int) (br : Int) = (I : Int) := ⟨t3 % br, Nat.mod_lt _ (by omega), by rw [Int.tmod_eq_emod_of_nonneg (by omega)]; omega⟩
      have hIi : (I : Int) < (br : Int) := by omega
      have hcI := KCS.out I hI
      have hsI := KBZ.out I
      obtain ⟨sI, esI⟩ : ∃ sI, bs I = sI := ⟨_, rfl⟩
      have KSI : Hid (bs I = sI) := esI
      rw [esI] at hcI hsI
      obtain ⟨v16, cc, hcv, hxc, hxf, hgrow16, b16⟩ := bytes_of v14 sI
      rw [hsI] at hcv hxc hxf
      have KXC : Hid (∀ p, p < l → v16.cell? ⟨v14.heap.size, p, none⟩ = some (.int .u8 ((tat sI p : Nat) : Int))) := hxc
      have KXF : Hid (∀ p, p < l → v16.frozen? ⟨v14.heap.size, p, none⟩ = false) := hxf
      have KC16 : Hid (CodeAt v16 a0 len0) := KC14.out.below b16
      have hl0 : ((l : Int) == 0) = false := by rw [beq_eq_false_iff_ne]; omega
      have hl0' : ¬ ((l : Int) = 0) := by omega
      clear esI hxc hxf
      go_wp2_with fail
      refine (KAT.out 4 _ (by omega) KC16.out).mono ?_
      rintro e v17 ⟨t4, ht4, rfl, hw17⟩
      obtain rfl := hw17.symm
      clear hw17
      obtain ⟨J, hJ, hmJ⟩ : ∃ J : Nat, J < l ∧ Int.tmod (t4 : Int) (l : Int) = (J : Int) := ⟨t4 % l, Nat.mod_lt _ (by omega), by rw [Int.tmod_eq_emod_of_nonneg (by omega)]; omega⟩
      have hJi : (J : Int) < (l : Int) := by omega
      have hcJ := KXC.out J hJ
      have hfJ := KXF.out J hJ
      have hxo := tat_lt sI J
      obtain ⟨xo, exo⟩ : ∃ xo, tat sI J = xo := ⟨_, rfl⟩
      have KXO : Hid (tat sI J = xo) := exo
      rw [exo] at hcJ hxo
      have KA5 : Hid (∀ W, Below v16.heap.size v16 W → Calls Try.prog 47 #[.slice a0 len0 cap0, .int .i64 5] W fun e w' => ∃ t : Nat, t < 256 ∧ e = .returned (.int .i64 (t : Int)) ∧ w' = W) := fun W hW => KAT.out 5 W (by omega) (KC16.out.below hW)
      clear exo hcv hcI
      go_wp2_with fail
      go_region_with ((go_at_call 47; refine Calls.mono (KA5.out _ ⟨rfl, rfl, rfl, Nat.le_refl _, fun _ _ => rfl⟩) ?_; rintro e w5 ⟨t5, ht5, rfl, hw5⟩; obtain rfl := hw5.symm; clear hw5; obtain ⟨r5, hr5, hm5⟩ : ∃ r : Nat, r < 255 ∧ Int.tmod (t5 : Int) 255 = (r : Int) := ⟨t5 % 255, by omega, by rw [Int.tmod_eq_emod_of_nonneg (by omega)]; omega⟩; obtain ⟨d5, hd5, hd5', hw6⟩ : ∃ d : Nat, 1 ≤ d ∧ d < 256 ∧ IntKind.u8.wrap (1 + (r5 : Int)) = (d : Int) := ⟨1 + r5, by omega, by omega, by rw [IntKind.wrap_u8]; omega⟩; have hx5 := u8_xor_nat xo d5 hxo hd5'))
      all_goals
        have hval : bits .xor .u8 (xo : Int) (IntKind.u8.wrap (IntKind.i64.wrap (1 + (r5 : Int)))) = ((xo ^^^ d5 : Nat) : Int) := by
          rw [show IntKind.i64.wrap (1 + (r5 : Int)) = 1 + (r5 : Int) from by rw [IntKind.wrap_i64]; omega, hw6]
          exact hx5
        rw [hval]
        obtain ⟨v19, hv19⟩ : ∃ v19, (v16.setCell ⟨v14.heap.size, J, none⟩ (.int .u8 ((xo ^^^ d5 : Nat) : Int))).drew = v19 := ⟨_, rfl⟩
        have KX19 : Hid (∀ p, p < l → v19.cell? ⟨v14.heap.size, p, none⟩ = some (.int .u8 (((fun p => if p = J then xo ^^^ d5 else tat sI p) p : Nat) : Int))) := fun p hp => by
          rw [← hv19]
          show (v16.setCell ⟨v14.heap.size, J, none⟩ (.int .u8 ((xo ^^^ d5 : Nat) : Int))).cell? ⟨v14.heap.size, p, none⟩ = _
          by_cases e : p = J
          · subst e
            rw [World.cell?_setCell_same _ _ _ hcJ]
            simp
          · rw [World.cell?_setCell_other _ _ _ _ (by intro h; cases h; exact e rfl), KXC.out p hp]
            simp [e]
        have hB19 : Below v14.heap.size v14 v19 := hv19 ▸ ((b16.setCell (p := ⟨v14.heap.size, J, none⟩) (Nat.le_refl _) _).drew)
        have hsz19 : v14.heap.size < v19.heap.size := by
          rw [← hv19]
          have : (v16.setCell ⟨v14.heap.size, J, none⟩ (.int .u8 ((xo ^^^ d5 : Nat) : Int))).drew.heap.size = v16.heap.size := by show (World.setCell _ _ _).heap.size = _; simp
          omega
        rw [hv19]
        have hfb : ∀ p, (fun p => if p = J then xo ^^^ d5 else tat sI p) p < 256 := fun p => by
          by_cases e : p = J
          · simp only [e, if_true]; exact Gf.xor_lt hxo hd5'
          · simp only [e, if_false]; exact tat_lt _ _
        have hfJ2 : (fun p => if p = J then xo ^^^ d5 else tat sI p) J ≠ xo := by simp only [if_true]; exact xor_ne hd5
        generalize (fun p => if p = J then xo ^^^ d5 else tat sI p) = fx at KX19 hfb hfJ2
        have KL : Hid (OwnT (v19.alloc (.cells #[] 9)) v19.heap.size (some ⟨v19.heap.size, 0, none⟩) 0 0 bs) := litT v19 _
        have KA19 : Hid (TxtAt v19 (some ⟨bA, oA, none⟩) br bs) := KA14.out.below hB19
        have KN : Hid (∀ j u, (sL bs br)[j]? = some u → (v19.alloc (.cells #[] 9)).cell? ((⟨bA, oA, none⟩ : Addr).add j) = some u) := fun j u hu => by
          have hj : j < br := by
            by_cases hh : j < br
            · exact hh
            · rw [List.getElem?_eq_none (by rw [sL_len]; omega)] at hu; cases hu
          rw [sL_get _ _ _ hj] at hu
          cases hu
          have ea : (⟨bA, oA, none⟩ : Addr).add j = ⟨bA, oA + j, none⟩ := by unfold Addr.add; split <;> simp_all
          rw [ea]
          obtain ⟨b', off', e', hc'⟩ := (KA19.out.below ((Below.refl v19.heap.size v19).alloc (Nat.le_refl _) (.cells #[] 9))) j hj
          cases e'
          exact hc'
        have KO1 : Hid (∀ u ∈ sL bs br, u.oneCell' = true) := fun u hu => by
          simp [sL] at hu
          obtain ⟨_, _, rfl⟩ := hu
          rfl
        have hlen : (sL bs br).length = br * 1 := by rw [sL_len]; omega
        have KB19 : Hid (Below w.heap.size w v19) := below2 KB14.out hB19
        clear hval hv19 hx5 hw6 hm5 hcJ hfJ hmI hmJ KXC KXF KA5 KAT KC16 KC14 KCS
        go_wp2_with (at_builtin; refine wpList_append_all _ (by rfl) _ _ 44 (by rfl) v19.heap.size 9 i0 (.string ByteArray.empty) 1 16 Try.underlying44 hi hz0 hz1 hz2 rfl (by decide) v19.heap.size 0 0 _ (by rfl) KL.out ⟨bA, oA, none⟩ br cA (sL bs br) (by rfl) hlen KN.out KO1.out (by unfold maxLen; omega) (by omega) (by simp) ?_; intro g2 cap2 v20 hown2 hgrow2; have hb20 : Below v19.heap.size v19 v20 := ((Below.refl _ _).alloc (Nat.le_refl _) (.cells #[] 9)).grown hgrow2 (by simp) (fun j hj => (by cases hj; exact Nat.le_refl _)); have hO20 : OwnT v20 v19.heap.size (some ⟨g2, 0, none⟩) br cap2 bs := (by unfold OwnT; have h := hown2; rw [Nat.zero_add] at h; exact h); have hcv2 := run_convert_bytes_arg (P := Try.prog) v20 22 5 Try.underlying22 Try.underlying5 v14.heap.size 0 l cc (eI fx l) (eI_len _ _) (fun i hi => (by rw [Nat.zero_add, eI_getD _ _ _ hi]; exact (hb20.cell (p := ⟨v14.heap.size, i, none⟩) hsz19).trans (KX19.out i hi))) 9 Try.underlying9; have hst := World.ownsRow.stored hO20 I (.string (strOfNums (eI fx l))); rw [sL_set _ _ _ _ hI] at hst; obtain ⟨old, hold⟩ : ∃ v, v20.cell? ⟨g2, I, none⟩ = some v := ⟨_, (by rw [World.ownsRow.cellAt hO20 I (by omega)]; exact sL_get _ _ _ hI)⟩; have hfr := World.ownsRow.frozenAt hO20 I; have hg2 := (World.ownsRow.lt hO20 _ rfl).1; have KST : Hid (OwnT (v20.setCell ⟨g2, I, none⟩ (.string (strOfNums (eI fx l)))) v19.heap.size (some ⟨g2, 0, none⟩) br cap2 (fun t => if t = I then strOfNums (eI fx l) else bs t)) := hst.1; have KB20 : Hid (Below v19.heap.size v19 v20) := hb20; clear hst hO20 hown2 hgrow2 hb20)
        have hB21 := KB20.out.setCell (p := ⟨g2, I, none⟩) hg2 (.string (strOfNums (eI fx l)))
        refine Calls.mono (KAG.out _ _ _ (KA19.out.below hB21) hcA.1 hcA.2) ?_
        rintro e v22 ⟨rfl, b22⟩
        have hcap2 := OwnT.cap KST.out
        have KS22 : Hid (TxtAt v22 (some ⟨g2, 0, none⟩) br (fun t => if t = I then strOfNums (eI fx l) else bs t)) := (OwnT.at KST.out).below b22
        have KB22 : Hid (Below w.heap.size w v22) := below2 (below2 KB19.out hB21) b22
        have hne : tat ((fun t => if t = I then strOfNums (eI fx l) else bs t) I) J ≠ tat (bs I) J := by
          simp only [if_true]
          rw [KSI.out, KXO.out]
          have := tat_txt (f := fx) hJ (hfb J)
          unfold txt at this
          rw [this]
          exact hfJ2
        have hszI : ((fun t => if t = I then strOfNums (eI fx l) else bs t) I).size = l := by
          simp only [if_true]
          exact txt_size fx l
        have hsm : ∀ t, t < br → t ≠ I → (fun t => if t = I then strOfNums (eI fx l) else bs t) t = bs t := fun t _ ht => by simp only [ht, if_false]
        have KNF : Hid _ := KNA.out I J _ hI hJ hsm hszI hne v22 (some ⟨g2, 0, none⟩) cap2 KS22.out hcap2.1 hcap2.2
        clear hsm hszI hne KST KB20 hB21 b22 hcv2 hold hfr KA19 KL KN KO1
        go_wp2_with fail
        refine Calls.mono KNF.out ?_
        rintro e v23 ⟨rfl, b23⟩
        have KB23 : Hid (Below w.heap.size w v23) := below2 KB22.out b23
        clear b23 KNF KS22
        go_wp2
        go_ret
        exact ⟨rfl, KB23.out⟩
end Go.Proofs.Ytmggogdnfgkljaa
namespace Go.Proofs.Ytmggogdnfgkljaa.fnLies
open Go.ChangeShapes Go.WideShapes Go.ChangeAt Go.RowKit
open Go.ChangeMaps (open_string shut_string)
set_option linter.unusedVariables false
theorem own : ownKnob Try.prog.godebug = none := by kernel_rfl
theorem laidOut : laidOutB Try.prog = true := by kernel_rfl
set_option maxRecDepth 100000 in
theorem lifted (os : Os) (started : os.Started) (H : Type) (enc : TypeId × Value → H) :
    ReturnsInHanded {} Try.checked os 7 .any (Rows.fnLiesSpec.pre6 enc Try.prog Try.f7 Rows.fnLiesRow.domain false) (Rows.fnLiesSpec.post enc Try.prog Try.f7 false true false false) := by
  refine returnsInHanded_of_change (C := Try.checked) own started (by kernel_rfl) Try.func7
    (ChangeSpec.witness6 (enc := enc) (C := Try.checked) false ⟨#[], #[.slice none 0 0], []⟩ 8 (by kernel_rfl) (by kernel_rfl) (by kernel_rfl) (by kernel_rfl)) ?_
  intro W base args ds gs before hval0 hW hcnd _
  have hval : ∀ (j : Nat) t v, Try.f7.params[j]? = some t → args[j]? = some v → Value.okWide Try.prog W .any base t v := hval0
  have hW' := hW
  obtain ⟨p, q, hA0, hV, rfl, hfz, hnd⟩ := hW
  have hA : DataW.TrodAll enc Try.prog W 0 (fun _ => true) true Try.f7.params.toList args.toList ds p := hA0
  rw [Try.params7] at hA hval
  obtain ⟨v0, vs0, d0, ds0, p0, q0, hargs, rfl, rfl, h0, r0⟩ := trodAll_cons hA
  obtain ⟨rfl, rfl, rfl⟩ := trodAll_nil r0
  obtain rfl : args = #[v0] := by cases args; simp_all
  obtain ⟨rfl, rfl⟩ := trodVars_none hV
  obtain ⟨a0, len0, cap0, rfl⟩ := okWide_slice Try.underlying22 (hval 0 22 v0 rfl rfl)
  have k0 := h0
  have lt0 : ∀ x ∈ p0, x.block < W.heap.size := by obtain ⟨m, hm⟩ := k0; exact DataW.trod_lt m _ _ _ hm
  obtain ⟨z0, w0⟩ : ∃ zs, IsRow .u8 W a0 len0 cap0 zs := by
    obtain ⟨fuel, hf⟩ := h0
    rcases open_ints Try.underlying22 Try.underlying5 (by kernel_rfl) hf with ⟨hcs, _⟩ | ⟨x, l, c, zs, hcs, _, hl, hm, hz, _, hcell, hwz⟩
    · simp [Value.cells] at hcs
      obtain ⟨rfl, rfl, rfl⟩ := hcs
      exact ⟨[], .inl ⟨rfl, rfl, rfl, rfl⟩⟩
    · simp [Value.cells] at hcs
      obtain ⟨rfl, rfl, rfl⟩ := hcs
      exact ⟨zs, .inr ⟨_, rfl, hl, hm, by simpa using hz, hcell, hwz⟩⟩
  clear hA0 hval0
  refine (walk_FnLies a0 len0 cap0 z0 W w0).mono fun e W' ⟨he, bel⟩ => ?_
  subst he
  exact ⟨_, rfl, _, _, _, [], _, [], hW', trodAll_mk1 (shut_bool Try.underlying4 _), (trodAll_cons_mk (Below.trod laidOut (by kernel_rfl) (of_decide_eq_true (by kernel_rfl)) k0 bel lt0) trodAll_mk0), rfl, bel.frame _, fun h => by cases h⟩
theorem over : Rows.fnLiesRow.holds Try.pinned (OpenSpec.ofChange Rows.fnLiesSpec) :=
  OpenClaim.holds_of_wide 7 Try.f7 rfl rfl rfl rfl rfl rfl rfl ⟨rfl, rfl, rfl, rfl, rfl⟩ rfl rfl rfl rfl rfl (by kernel_rfl) Try.func7 (by kernel_rfl)
    (of_decide_eq_true (by kernel_rfl)) (by unfold Func.isWrapper; first | (rw [if_pos (by decide +kernel)]; kernel_rfl) | (rw [if_neg (by decide +kernel)]; exact ⟨rfl, rfl⟩))
    (fun os started H enc _ => lifted os started H enc)
theorem proved : Rows.FnLiesSaid := over
#print axioms proved
end Go.Proofs.Ytmggogdnfgkljaa.fnLies
