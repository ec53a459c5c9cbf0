/- The root that a leaf and a proof lead to, in the model; what the program answers in one contract; whether it is a given root, in both. Conditions: at most 2^20 texts. -/
import Derived.Test.YtgiegoamcfjfmaaGreatH16
import Derived.Test.YtgiegoamcfjfmaaGreatH12
import Derived.Test.YtgiegoamcfjfmaaGreatH15
import Derived.Test.YtgiegoamcfjfmaaGreatH10
import Derived.Test.YtgiegoamcfjfmaaGreatH13
namespace Go.Proofs.YtgiegoamcfjfmaaGreat
set_option maxRecDepth 2000
open Go.ChangeShapes Go.WideShapes Go.ChangeAt Go.RowKit
open Gt (nb hf nm pl pr jn)

theorem prB_parts {x : ByteArray} {i n : Int} {k : Nat} {S : Nat → ByteArray} (h : prB x i n k S = true) : x.size = 16 ∧ (k : Int) = plI i n ∧ ∀ j, j < k → (S j).size = 16 := by
  unfold prB at h
  simp only [Bool.and_eq_true, decide_eq_true_eq, aS_iff] at h
  exact ⟨h.1.1, h.1.2, h.2⟩
theorem plI_in {i n : Int} (h : 0 ≤ plI i n) : inT i n = true := by
  unfold plI at h
  by_cases e : inT i n = true
  · exact e
  · rw [if_neg e] at h; omega
theorem proofRoot_any (x : ByteArray) (i n : Int) (a : Option Addr) (k cap : Nat) (S : Nat → ByteArray) (w : World) (h : TxtAt w a k S) (hk : k ≤ 1048576) (hL : ∀ i, i < k → (S i).size ≤ maxLen) :
    Calls Tryz.prog 244 #[.string x, .int .i64 i, .int .i64 n, .slice a k cap] w fun e w' => e = .returned (.tuple #[.string (prS x i n k S), .bool (prB x i n k S)]) ∧ Below w.heap.size w w' := by
  unfold prS
  cases hB : prB x i n k S with
  | false => exact proofRoot_no x i n a k cap S w h hk hL hB
  | true =>
    obtain ⟨h1, h2, h3⟩ := prB_parts hB
    have hin := plI_in (i := i) (n := n) (by omega)
    obtain ⟨i', rfl⟩ : ∃ i' : Nat, i = (i' : Int) := ⟨i.toNat, by simp [inT] at hin; omega⟩
    obtain ⟨n', rfl⟩ : ∃ n' : Nat, n = (n' : Int) := ⟨n.toNat, by simp [inT] at hin; omega⟩
    exact proofRoot_in x i' n' a k cap S w h hin h1 (by unfold plI at h2; rw [if_pos hin] at h2; simp at h2; omega) h3

set_option maxHeartbeats 2000000 in
theorem sProofRoot_any (x : ByteArray) (i n : Int) (a : Option Addr) (k cap : Nat) (S : Nat → ByteArray) (w : World) (h : TxtAt w a k S) (hk : k ≤ 1048576) (hL : ∀ i, i < k → (S i).size ≤ maxLen) :
    Calls Tryz.prog 199 #[.string x, .int .i64 i, .int .i64 n, .slice a k cap] w fun e w' => e = .returned (.tuple #[.string (prS x i n k S), .bool (prB x i n k S)]) ∧ Below w.heap.size w w' := by
  have KP : Hid (∀ w0, Calls Tryz.prog 226 #[.int .i64 i, .int .i64 n] w0 fun e w' => e = .returned (.int .i64 (plI i n)) ∧ w' = w0) := fun w0 => sProofLen_any i n w0
  have KV : Hid (Calls Tryz.prog 221 #[.slice a k cap] w fun e w' => e = .returned (.bool (lvB k S)) ∧ w' = w) := sLeaves_any a k cap S w h hk hL
  unfold prS
  obtain ⟨r, hr⟩ : ∃ r, plI i n = r := ⟨_, rfl⟩
  rw [hr] at KP
  cases hB : prB x i n k S with
  | false =>
    have hB' := hB
    unfold prB at hB'
    rw [hr] at hB'
    by_cases h0 : r < 0
    · clear hB' hr h
      go_enter Tryz.func199, Tryz.ntmps199
      go_wp2_with (go_at_call 226; refine (KP.out _).mono ?_; rintro e w' ⟨rfl, hw⟩; obtain rfl := hw.symm)
      go_ret2
      exact ⟨rfl, Below.refl _ _⟩
    · have h0' : decide (r < 0) = false := by simpa using h0
      by_cases h16 : x.size = 16
      · have h16' : ((x.size : Int) != 16) = false := by simp; omega
        by_cases hkr : (k : Int) = r
        · subst hkr
          have haS : aS k S = false := by simpa [h16] using hB'
          have hk0 : (0 : Int) < (k : Int) := by
            by_cases e : k = 0
            · subst e; simp [aS] at haS
            · omega
          have hlv : lvB k S = false := by unfold lvB; rw [haS]; rfl
          rw [hlv] at KV
          have hkk : ((k : Int) != (k : Int)) = false := by simp
          clear hB' hr h hlv haS h16 h0 hB
          go_enter Tryz.func199, Tryz.ntmps199
          go_wp2_with (first | (go_at_call 226; refine (KP.out _).mono ?_; rintro e w' ⟨rfl, hw⟩; obtain rfl := hw.symm) | (go_at_call 221; refine KV.out.mono ?_; rintro e w' ⟨rfl, hw⟩; obtain rfl := hw.symm))
          go_ret2
          exact ⟨rfl, Below.refl _ _⟩
        · have hkr' : ((k : Int) != r) = true := by simp; exact hkr
          clear hB' hr h hkr h16 h0 hB
          go_enter Tryz.func199, Tryz.ntmps199
          go_wp2_with (go_at_call 226; refine (KP.out _).mono ?_; rintro e w' ⟨rfl, hw⟩; obtain rfl := hw.symm)
          go_ret2
          exact ⟨rfl, Below.refl _ _⟩
      · have h16' : ((x.size : Int) != 16) = true := by simp; omega
        clear hB' hr h h16 h0 hB
        go_enter Tryz.func199, Tryz.ntmps199
        go_wp2_with (go_at_call 226; refine (KP.out _).mono ?_; rintro e w' ⟨rfl, hw⟩; obtain rfl := hw.symm)
        go_ret2
        exact ⟨rfl, Below.refl _ _⟩
  | true =>
    obtain ⟨h1, h2, h3⟩ := prB_parts hB
    have hin := plI_in (i := i) (n := n) (by omega)
    obtain ⟨i', rfl⟩ : ∃ i' : Nat, i = (i' : Int) := ⟨i.toNat, by simp [inT] at hin; omega⟩
    obtain ⟨n', rfl⟩ : ∃ n' : Nat, n = (n' : Int) := ⟨n.toNat, by simp [inT] at hin; omega⟩
    have hin2 : i' < n' ∧ n' ≤ 64 := by simp [inT] at hin; omega
    have hkp : Hid (k = pl i' n') := by show _ = _; unfold plI at h2; rw [if_pos hin] at h2; simp at h2; omega
    have hk6 : k ≤ 6 := by rw [hkp.out]; exact Gt.pl_le 6 _ _ (by omega)
    rw [hr] at h2
    subst h2
    have hlv : 0 < k → lvB k S = true := fun h0 => by unfold lvB; rw [aS_yes h3, inB_true (by omega)]; rfl
    have h16' : ((x.size : Int) != 16) = false := by simp; omega
    have hkk : ((k : Int) != (k : Int)) = false := by simp
    have h0' : decide ((k : Int) < 0) = false := by simp
    have K3 : Hid (∀ j, j < k → (S j).size = 16) := h3
    have KH : Hid (TxtAt w a k S) := h
    have Hx : Hid (x.size = 16) := h1
    rw [if_pos rfl]
    simp only [Int.toNat_natCast]
    clear hB hr hin h h1 h3 hL hk
    have main : ∀ (Z : ByteArray), Z = pr x i' n' S 0 → Calls Tryz.prog 199 #[.string x, .int .i64 (i' : Int), .int .i64 (n' : Int), .slice a k cap] w fun e w' => e = .returned (.tuple #[.string Z, .bool true]) ∧ Below w.heap.size w w' := by
      intro Z hZ
      have HZ : Hid (Z = pr x i' n' S 0) := hZ
      clear hZ
      go_enter Tryz.func199, Tryz.ntmps199
      by_cases hk0 : (0 : Int) < (k : Int)
      · have KV2 : Hid (Calls Tryz.prog 221 #[.slice a k cap] w fun e w' => e = .returned (.bool true) ∧ w' = w) := by
          have := KV.out
          rw [hlv (by omega)] at this
          exact this
        clear KV hlv
        go_wp2_with (first | (go_at_call 226; refine (KP.out _).mono ?_; rintro e w' ⟨rfl, hw⟩; obtain rfl := hw.symm) | (go_at_call 221; refine KV2.out.mono ?_; rintro e w' ⟨rfl, hw⟩; obtain rfl := hw.symm))
        go_loopw [0, 1, 2, 11] (fun vx vi vn vc wr => ∃ (y : ByteArray) (p s c : Nat), p < s ∧ s ≤ 64 ∧ y.size = 16 ∧ Hid (c + pl p s = k) ∧ Hid (pr y p s S c = Z) ∧ vx = .string y ∧ vi = .int .i64 (p : Int) ∧ vn = .int .i64 (s : Int) ∧ vc = .int .i64 (c : Int) ∧ Below w.heap.size w wr) (fun _ _ vn _ _ => (intOf vn).toNat)
        case atStart => exact ⟨x, i', n', 0, hin2.1, hin2.2, Hx.out, by show 0 + _ = _; rw [Nat.zero_add]; exact hkp.out.symm, HZ.out.symm, rfl, rfl, rfl, rfl, Below.refl _ _⟩
        case round =>
          obtain ⟨y, p, s, c, hp, hs, hy, HC, HP, rfl, rfl, rfl, rfl, hbel⟩ := hrel
          clear h16' hkk h0'
          by_cases h1 : s ≤ 1
          · have h1' : ¬ (1 : Int) < (s : Int) := by omega
            have HE : Hid (y = Z) := by have := HP.out; rw [Gt.pr_one _ _ _ _ h1] at this; exact this
            go_wp2
            go_ret2
            exact ⟨by rw [← HE.out]; rfl, hbel⟩
          · have h1' : (1 : Int) < (s : Int) := by omega
            obtain ⟨u1, u2, u3, u4, u5, u6, u7, u8, u9⟩ := up_nums p s hp hs
            have hlt2 : p / 2 < hf s ∧ hf s < s := by unfold hf; omega
            by_cases hb : nb p < s
            · have HC2 : Hid (c + 1 + pl (p / 2) (hf s) = k) := by have := HC.out; rw [Gt.pl_yes p h1 hb] at this; show _ = _; omega
              have hck : c < k := by have := HC2.out; omega
              have hcki : (c : Int) < (k : Int) := by omega
              have hb' : ((nb p : Nat) : Int) < (s : Int) := by omega
              have hs16 := K3.out c hck
              obtain ⟨b', off, rfl, hcc⟩ := (KH.out.below hbel) c hck
              by_cases hev : p % 2 = 0
              · have hev' : ((p : Int) % 2 == 0) = true := by simp; omega
                have HJ : Hid (∀ w0, Calls Tryz.prog 227 #[.string y, .string (S c)] w0 fun e w' => e = .returned (.string (jn y (S c))) ∧ Below w0.heap.size w0 w') := fun w0 => sjoin_any _ _ w0 (by omega) (by omega)
                have HP2 : Hid (pr (jn y (S c)) (p / 2) (hf s) S (c + 1) = Z) := by
                  show _ = _
                  rw [← HP.out, Gt.pr_yes y p S c h1 hb, if_pos hev]
                have HZ2 : Hid ((jn y (S c)).size = 16) := Gt.jn_size _ _
                generalize jn y (S c) = z at HJ HP2 HZ2
                generalize S c = sc at HJ hcc
                generalize nb p = q at u4 hb'
                generalize p / 2 = p' at u5 u6 hlt2 HC2 HP2
                generalize hf s = s' at u8 u9 hlt2 HC2 HP2
                clear hev hb HP HC hs16
                go_wp2_with fail
                refine (HJ.out _).mono ?_
                rintro e w9 ⟨rfl, hb9⟩
                have hbw := hbel.trans (hb9.mono hbel.size)
                go_wp2
                go_roundw
                case rel => exact ⟨z, p', s', c + 1, by omega, by omega, HZ2.out, HC2, HP2, rfl, rfl, rfl, by go_num, hbw⟩
                case measure => simp [intOf]; omega
              · have hev' : ((p : Int) % 2 == 0) = false := by simp; omega
                have HJ : Hid (∀ w0, Calls Tryz.prog 227 #[.string (S c), .string y] w0 fun e w' => e = .returned (.string (jn (S c) y)) ∧ Below w0.heap.size w0 w') := fun w0 => sjoin_any _ _ w0 (by omega) (by omega)
                have HP2 : Hid (pr (jn (S c) y) (p / 2) (hf s) S (c + 1) = Z) := by
                  show _ = _
                  rw [← HP.out, Gt.pr_yes y p S c h1 hb, if_neg hev]
                have HZ2 : Hid ((jn (S c) y).size = 16) := Gt.jn_size _ _
                generalize jn (S c) y = z at HJ HP2 HZ2
                generalize S c = sc at HJ hcc
                generalize nb p = q at u4 hb'
                generalize p / 2 = p' at u5 u6 hlt2 HC2 HP2
                generalize hf s = s' at u8 u9 hlt2 HC2 HP2
                clear hev hb HP HC hs16
                go_wp2_with fail
                refine (HJ.out _).mono ?_
                rintro e w9 ⟨rfl, hb9⟩
                have hbw := hbel.trans (hb9.mono hbel.size)
                go_wp2
                go_roundw
                case rel => exact ⟨z, p', s', c + 1, by omega, by omega, HZ2.out, HC2, HP2, rfl, rfl, rfl, by go_num, hbw⟩
                case measure => simp [intOf]; omega
            · have HC2 : Hid (c + pl (p / 2) (hf s) = k) := by have := HC.out; rw [Gt.pl_no p h1 hb] at this; exact this
              have HP2 : Hid (pr y (p / 2) (hf s) S c = Z) := by have := HP.out; rw [Gt.pr_no y p S c h1 hb] at this; exact this
              have hb' : ¬ ((nb p : Nat) : Int) < (s : Int) := by omega
              generalize nb p = q at u4 hb'
              generalize p / 2 = p' at u5 u6 hlt2 HC2 HP2
              generalize hf s = s' at u8 u9 hlt2 HC2 HP2
              clear hb HP HC
              go_wp2
              go_roundw
              case rel => exact ⟨y, p', s', c, by omega, by omega, hy, HC2, HP2, rfl, rfl, rfl, rfl, hbel⟩
              case measure => simp [intOf]; omega
      · clear KV hlv
        go_wp2_with (go_at_call 226; refine (KP.out _).mono ?_; rintro e w' ⟨rfl, hw⟩; obtain rfl := hw.symm)
        go_loopw [0, 1, 2, 11] (fun vx vi vn vc wr => ∃ (y : ByteArray) (p s c : Nat), p < s ∧ s ≤ 64 ∧ y.size = 16 ∧ Hid (c + pl p s = k) ∧ Hid (pr y p s S c = Z) ∧ vx = .string y ∧ vi = .int .i64 (p : Int) ∧ vn = .int .i64 (s : Int) ∧ vc = .int .i64 (c : Int) ∧ Below w.heap.size w wr) (fun _ _ vn _ _ => (intOf vn).toNat)
        case atStart => exact ⟨x, i', n', 0, hin2.1, hin2.2, Hx.out, by show 0 + _ = _; rw [Nat.zero_add]; exact hkp.out.symm, HZ.out.symm, rfl, rfl, rfl, rfl, Below.refl _ _⟩
        case round =>
          obtain ⟨y, p, s, c, hp, hs, hy, HC, HP, rfl, rfl, rfl, rfl, hbel⟩ := hrel
          clear h16' hkk h0'
          by_cases h1 : s ≤ 1
          · have h1' : ¬ (1 : Int) < (s : Int) := by omega
            have HE : Hid (y = Z) := by have := HP.out; rw [Gt.pr_one _ _ _ _ h1] at this; exact this
            go_wp2
            go_ret2
            exact ⟨by rw [← HE.out]; rfl, hbel⟩
          · have h1' : (1 : Int) < (s : Int) := by omega
            obtain ⟨u1, u2, u3, u4, u5, u6, u7, u8, u9⟩ := up_nums p s hp hs
            have hlt2 : p / 2 < hf s ∧ hf s < s := by unfold hf; omega
            by_cases hb : nb p < s
            · have HC2 : Hid (c + 1 + pl (p / 2) (hf s) = k) := by have := HC.out; rw [Gt.pl_yes p h1 hb] at this; show _ = _; omega
              have hck : c < k := by have := HC2.out; omega
              have hcki : (c : Int) < (k : Int) := by omega
              have hb' : ((nb p : Nat) : Int) < (s : Int) := by omega
              have hs16 := K3.out c hck
              obtain ⟨b', off, rfl, hcc⟩ := (KH.out.below hbel) c hck
              by_cases hev : p % 2 = 0
              · have hev' : ((p : Int) % 2 == 0) = true := by simp; omega
                have HJ : Hid (∀ w0, Calls Tryz.prog 227 #[.string y, .string (S c)] w0 fun e w' => e = .returned (.string (jn y (S c))) ∧ Below w0.heap.size w0 w') := fun w0 => sjoin_any _ _ w0 (by omega) (by omega)
                have HP2 : Hid (pr (jn y (S c)) (p / 2) (hf s) S (c + 1) = Z) := by
                  show _ = _
                  rw [← HP.out, Gt.pr_yes y p S c h1 hb, if_pos hev]
                have HZ2 : Hid ((jn y (S c)).size = 16) := Gt.jn_size _ _
                generalize jn y (S c) = z at HJ HP2 HZ2
                generalize S c = sc at HJ hcc
                generalize nb p = q at u4 hb'
                generalize p / 2 = p' at u5 u6 hlt2 HC2 HP2
                generalize hf s = s' at u8 u9 hlt2 HC2 HP2
                clear hev hb HP HC hs16
                go_wp2_with fail
                refine (HJ.out _).mono ?_
                rintro e w9 ⟨rfl, hb9⟩
                have hbw := hbel.trans (hb9.mono hbel.size)
                go_wp2
                go_roundw
                case rel => exact ⟨z, p', s', c + 1, by omega, by omega, HZ2.out, HC2, HP2, rfl, rfl, rfl, by go_num, hbw⟩
                case measure => simp [intOf]; omega
              · have hev' : ((p : Int) % 2 == 0) = false := by simp; omega
                have HJ : Hid (∀ w0, Calls Tryz.prog 227 #[.string (S c), .string y] w0 fun e w' => e = .returned (.string (jn (S c) y)) ∧ Below w0.heap.size w0 w') := fun w0 => sjoin_any _ _ w0 (by omega) (by omega)
                have HP2 : Hid (pr (jn (S c) y) (p / 2) (hf s) S (c + 1) = Z) := by
                  show _ = _
                  rw [← HP.out, Gt.pr_yes y p S c h1 hb, if_neg hev]
                have HZ2 : Hid ((jn (S c) y).size = 16) := Gt.jn_size _ _
                generalize jn (S c) y = z at HJ HP2 HZ2
                generalize S c = sc at HJ hcc
                generalize nb p = q at u4 hb'
                generalize p / 2 = p' at u5 u6 hlt2 HC2 HP2
                generalize hf s = s' at u8 u9 hlt2 HC2 HP2
                clear hev hb HP HC hs16
                go_wp2_with fail
                refine (HJ.out _).mono ?_
                rintro e w9 ⟨rfl, hb9⟩
                have hbw := hbel.trans (hb9.mono hbel.size)
                go_wp2
                go_roundw
                case rel => exact ⟨z, p', s', c + 1, by omega, by omega, HZ2.out, HC2, HP2, rfl, rfl, rfl, by go_num, hbw⟩
                case measure => simp [intOf]; omega
            · have HC2 : Hid (c + pl (p / 2) (hf s) = k) := by have := HC.out; rw [Gt.pl_no p h1 hb] at this; exact this
              have HP2 : Hid (pr y (p / 2) (hf s) S c = Z) := by have := HP.out; rw [Gt.pr_no y p S c h1 hb] at this; exact this
              have hb' : ¬ ((nb p : Nat) : Int) < (s : Int) := by omega
              generalize nb p = q at u4 hb'
              generalize p / 2 = p' at u5 u6 hlt2 HC2 HP2
              generalize hf s = s' at u8 u9 hlt2 HC2 HP2
              clear hb HP HC
              go_wp2
              go_roundw
              case rel => exact ⟨y, p', s', c, by omega, by omega, hy, HC2, HP2, rfl, rfl, rfl, rfl, hbel⟩
              case measure => simp [intOf]; omega
    exact main _ rfl
end Go.Proofs.YtgiegoamcfjfmaaGreat
/- Whether a proof leads to a root, in the program and in its model: what each answers. Conditions: at most 2^20 texts. -/
namespace Go.Proofs.YtgiegoamcfjfmaaGreat
set_option maxRecDepth 2000
open Go.ChangeShapes Go.WideShapes Go.ChangeAt Go.RowKit

/-- Whether a leaf and a proof are so and lead to a root. -/
def pvB (r x : ByteArray) (i n : Int) (k : Nat) (S : Nat → ByteArray) : Bool := prB x i n k S && decide (prS x i n k S = r)
set_option maxHeartbeats 1000000 in
theorem proved_any (r x : ByteArray) (i n : Int) (a : Option Addr) (k cap : Nat) (S : Nat → ByteArray) (w : World) (h : TxtAt w a k S) (hk : k ≤ 1048576) (hL : ∀ i, i < k → (S i).size ≤ maxLen) :
    Calls Tryz.prog 225 #[.string r, .string x, .int .i64 i, .int .i64 n, .slice a k cap] w fun e w' => e = .returned (.bool (pvB r x i n k S)) ∧ Below w.heap.size w w' := by
  have KP : Hid (Calls Tryz.prog 244 #[.string x, .int .i64 i, .int .i64 n, .slice a k cap] w fun e w' => e = .returned (.tuple #[.string (prS x i n k S), .bool (prB x i n k S)]) ∧ Below w.heap.size w w') := proofRoot_any x i n a k cap S w h hk hL
  unfold pvB
  clear h hL
  generalize prS x i n k S = z at KP
  generalize prB x i n k S = d at KP
  cases d with
  | false =>
    go_enter Tryz.func225, Tryz.ntmps225
    go_wp2_with fail
    refine KP.out.mono ?_
    rintro e w1 ⟨rfl, hb⟩
    go_wp2
    go_ret
    exact ⟨rfl, hb⟩
  | true =>
    by_cases hz : z = r
    · subst hz
      have hq := ba_beq z
      go_enter Tryz.func225, Tryz.ntmps225
      go_wp2_with fail
      refine KP.out.mono ?_
      rintro e w1 ⟨rfl, hb⟩
      go_wp2
      go_ret
      exact ⟨by simp, hb⟩
    · have hq := ba_ne hz
      have HZ : Hid (decide (z = r) = false) := by show _ = _; simpa using hz
      clear hz
      go_enter Tryz.func225, Tryz.ntmps225
      go_wp2_with fail
      refine KP.out.mono ?_
      rintro e w1 ⟨rfl, hb⟩
      go_wp2
      go_ret
      exact ⟨by rw [HZ.out]; rfl, hb⟩
set_option maxHeartbeats 1000000 in
theorem sProved_any (r x : ByteArray) (i n : Int) (a : Option Addr) (k cap : Nat) (S : Nat → ByteArray) (w : World) (h : TxtAt w a k S) (hk : k ≤ 1048576) (hL : ∀ i, i < k → (S i).size ≤ maxLen) :
    Calls Tryz.prog 176 #[.string r, .string x, .int .i64 i, .int .i64 n, .slice a k cap] w fun e w' => e = .returned (.bool (pvB r x i n k S)) ∧ Below w.heap.size w w' := by
  have KP : Hid (Calls Tryz.prog 199 #[.string x, .int .i64 i, .int .i64 n, .slice a k cap] w fun e w' => e = .returned (.tuple #[.string (prS x i n k S), .bool (prB x i n k S)]) ∧ Below w.heap.size w w') := sProofRoot_any x i n a k cap S w h hk hL
  unfold pvB
  clear h hL
  generalize prS x i n k S = z at KP
  generalize prB x i n k S = d at KP
  cases d with
  | false =>
    go_enter Tryz.func176, Tryz.ntmps176
    go_wp2_with fail
    refine KP.out.mono ?_
    rintro e w1 ⟨rfl, hb⟩
    go_wp2
    go_ret
    exact ⟨rfl, hb⟩
  | true =>
    by_cases hz : z = r
    · subst hz
      have hq := ba_beq z
      go_enter Tryz.func176, Tryz.ntmps176
      go_wp2_with fail
      refine KP.out.mono ?_
      rintro e w1 ⟨rfl, hb⟩
      go_wp2
      go_ret
      exact ⟨by simp, hb⟩
    · have hq := ba_ne hz
      have HZ : Hid (decide (z = r) = false) := by show _ = _; simpa using hz
      clear hz
      go_enter Tryz.func176, Tryz.ntmps176
      go_wp2_with fail
      refine KP.out.mono ?_
      rintro e w1 ⟨rfl, hb⟩
      go_wp2
      go_ret
      exact ⟨by rw [HZ.out]; rfl, hb⟩
end Go.Proofs.YtgiegoamcfjfmaaGreat
/- A piece that checks by itself, in the program and in its model: what each answers. Conditions: a proof of at most 2^20 texts; texts that a machine holds. -/
namespace Go.Proofs.YtgiegoamcfjfmaaGreat
set_option maxRecDepth 2000
open Go.ChangeShapes Go.WideShapes Go.ChangeAt Go.RowKit

def kOk (k n : Int) (b : ByteArray) : Prop := 1 ≤ k ∧ k ≤ n ∧ n ≤ 16 ∧ 1 ≤ b.size ∧ b.size ≤ 2002
instance (k n : Int) (b : ByteArray) : Decidable (kOk k n b) := by unfold kOk; exact inferInstance
noncomputable def okP (r : ByteArray) (k n i : Int) (b : ByteArray) (m : Nat) (S : Nat → ByteArray) : Bool := if kOk k n b then pvB r (plf k n i b) i n m S else false
theorem okP_no {r : ByteArray} {k n i : Int} {b : ByteArray} {m : Nat} {S : Nat → ByteArray} (h : ¬ kOk k n b) : okP r k n i b m S = false := if_neg h
theorem okP_yes {r : ByteArray} {k n i : Int} {b : ByteArray} {m : Nat} {S : Nat → ByteArray} (h : kOk k n b) : okP r k n i b m S = pvB r (plf k n i b) i n m S := if_pos h
theorem pvB_out {r x : ByteArray} {i n : Int} {m : Nat} {S : Nat → ByteArray} (h : ¬ (0 ≤ i ∧ i ≤ n - 1)) : pvB r x i n m S = false := by
  unfold pvB
  cases hB : prB x i n m S with
  | false => rfl
  | true =>
    obtain ⟨_, h2, _⟩ := prB_parts hB
    have := plI_in (i := i) (n := n) (by omega)
    simp [inT] at this
    omega
theorem sprOk_is {k n : Int} (h1 : 1 ≤ k) (h2 : k ≤ n) (h3 : n ≤ 16) : sprOk k n = true := by unfold sprOk side; simp; omega
set_option maxHeartbeats 4000000 in
theorem pieceOk_any (r : ByteArray) (k n i : Int) (b : ByteArray) (a : Option Addr) (m cap : Nat) (S : Nat → ByteArray) (w : World) (h : TxtAt w a m S) (hm : m ≤ 1048576) (hL : ∀ i, i < m → (S i).size ≤ maxLen) :
    Calls Tryz.prog 194 #[pcV r k n i b (.slice a m cap)] w fun e w' => e = .returned (.bool (okP r k n i b m S)) ∧ Below w.heap.size w w' := by
  obtain ⟨sz, hsz⟩ : ∃ sz, b.size = sz := ⟨_, rfl⟩
  have hb0 : Below w.heap.size w (w.alloc (.cells (pcC r k n i b (.slice a m cap)) 39)) := (Below.refl _ _).alloc (Nat.le_refl _) _
  have HB0 : Hid (Below w.heap.size w (w.alloc (.cells (pcC r k n i b (.slice a m cap)) 39))) := hb0
  by_cases c1 : k < 1
  · rw [okP_no (by unfold kOk; omega)]
    clear h hL hb0
    go_enter Tryz.func194, Tryz.ntmps194
    go_wp2
    go_ret
    exact ⟨rfl, HB0.out⟩
  by_cases c2 : n < k
  · rw [okP_no (by unfold kOk; omega)]
    clear h hL hb0
    go_enter Tryz.func194, Tryz.ntmps194
    go_wp2
    go_ret
    exact ⟨rfl, HB0.out⟩
  by_cases c3 : 16 < n
  · rw [okP_no (by unfold kOk; omega)]
    clear h hL hb0
    go_enter Tryz.func194, Tryz.ntmps194
    go_wp2
    go_ret
    exact ⟨rfl, HB0.out⟩
  by_cases c4 : (sz : Int) < 1
  · rw [okP_no (by unfold kOk; omega)]
    clear h hL hb0
    go_enter Tryz.func194, Tryz.ntmps194
    go_wp2
    go_ret
    exact ⟨rfl, HB0.out⟩
  by_cases c5 : 2002 < (sz : Int)
  · rw [okP_no (by unfold kOk; omega)]
    clear h hL hb0
    go_enter Tryz.func194, Tryz.ntmps194
    go_wp2
    go_ret
    exact ⟨rfl, HB0.out⟩
  rw [okP_yes (by unfold kOk; omega)]
  obtain ⟨w0, HW0⟩ : ∃ x, Hid (x = w.alloc (.cells (pcC r k n i b (.slice a m cap)) 39)) := ⟨_, rfl⟩
  obtain ⟨B, HB⟩ : ∃ x, Hid (x = w.heap.size) := ⟨_, rfl⟩
  rw [← HW0.out] at HB0 hb0
  have HR : Hid (Row w0 B 39 (pcC r k n i b (.slice a m cap))) := by show Row _ _ _ _; rw [HW0.out, HB.out]; exact Row.new w _ _
  have KL : Hid (∀ W, Calls Tryz.prog 185 #[.int .i64 k, .int .i64 n, .int .i64 i, .string b] W fun e w' => e = .returned (.string (plf k n i b)) ∧ Below W.heap.size W w') := fun W => pieceLeaf_any k n i b W (by omega)
  have KP : Hid (∀ W, Below w0.heap.size w0 W → Calls Tryz.prog 225 #[.string r, .string (plf k n i b), .int .i64 i, .int .i64 n, .slice a m cap] W fun e w' => e = .returned (.bool (pvB r (plf k n i b) i n m S)) ∧ Below W.heap.size W w') := fun W hW => proved_any r (plf k n i b) i n a m cap S W ((h.below hb0).below hW) hm hL
  generalize plf k n i b = x at KL KP ⊢
  generalize pvB r x i n m S = ans at KP ⊢
  have q0 := HR.out.cell 0
  have q1 := HR.out.cell 1
  have q2 := HR.out.cell 2
  have q3 := HR.out.cell 3
  have q4 := HR.out.cell 4
  have q5 := HR.out.cell 5
  have lB := HR.out.lt
  simp at q0 q1 q2 q3 q4 q5
  clear h hL hb0
  go_enter Tryz.func194, Tryz.ntmps194
  go_wp2_with fail
  rw [← HW0.out, ← HB.out]
  go_region_held3 (fun w' => w'.cell? ⟨B, 0, none⟩ = some (.string r) ∧ w'.cell? ⟨B, 1, none⟩ = some (.int .i64 k) ∧ w'.cell? ⟨B, 2, none⟩ = some (.int .i64 n) ∧ w'.cell? ⟨B, 3, none⟩ = some (.int .i64 i) ∧ w'.cell? ⟨B, 4, none⟩ = some (.string b) ∧ w'.cell? ⟨B, 5, none⟩ = some (.slice a m cap)) (go_keep) ((first | (go_at_call 185; refine Calls.mono (KL.out _) ?_; rintro e w5 ⟨rfl, hb5'⟩; have hb5 := below_of_drew hb5'; clear hb5'; have p0 := (hb5.cell (p := ⟨B, 0, none⟩) lB).trans q0; have p1 := (hb5.cell (p := ⟨B, 1, none⟩) lB).trans q1; have p2 := (hb5.cell (p := ⟨B, 2, none⟩) lB).trans q2; have p3 := (hb5.cell (p := ⟨B, 3, none⟩) lB).trans q3; have p4 := (hb5.cell (p := ⟨B, 4, none⟩) lB).trans q4; have p5 := (hb5.cell (p := ⟨B, 5, none⟩) lB).trans q5) | (guard_hyp hb5; go_at_call 225; refine Calls.mono (KP.out _ hb5) ?_; rintro e w6 ⟨rfl, hb6⟩; have hb56 := below2 hb5 hb6; have u0 := (hb56.cell (p := ⟨B, 0, none⟩) lB).trans q0; have u1 := (hb56.cell (p := ⟨B, 1, none⟩) lB).trans q1; have u2 := (hb56.cell (p := ⟨B, 2, none⟩) lB).trans q2; have u3 := (hb56.cell (p := ⟨B, 3, none⟩) lB).trans q3; have u4 := (hb56.cell (p := ⟨B, 4, none⟩) lB).trans q4; have u5 := (hb56.cell (p := ⟨B, 5, none⟩) lB).trans q5)))
  all_goals
    go_wp2
    go_ret
    exact ⟨rfl, HB0.out.trans ((below2 hb5 hb6).mono HB0.out.size)⟩
set_option maxHeartbeats 4000000 in
theorem sPieceOk_any (r : ByteArray) (k n i : Int) (b : ByteArray) (a : Option Addr) (m cap : Nat) (S : Nat → ByteArray) (w : World) (h : TxtAt w a m S) (hm : m ≤ 1048576) (hL : ∀ i, i < m → (S i).size ≤ maxLen) :
    Calls Tryz.prog 130 #[pcV r k n i b (.slice a m cap)] w fun e w' => e = .returned (.bool (okP r k n i b m S)) ∧ Below w.heap.size w w' := by
  obtain ⟨sz, hsz⟩ : ∃ sz, b.size = sz := ⟨_, rfl⟩
  have hb0 : Below w.heap.size w (w.alloc (.cells (pcC r k n i b (.slice a m cap)) 39)) := (Below.refl _ _).alloc (Nat.le_refl _) _
  have HB0 : Hid (Below w.heap.size w (w.alloc (.cells (pcC r k n i b (.slice a m cap)) 39))) := hb0
  have KO : Hid (∀ W, Calls Tryz.prog 175 #[.int .i64 k, .int .i64 n] W fun e w' => e = .returned (.bool (sprOk k n)) ∧ w' = W) := fun W => s4Ok_any k n W
  have KI : Hid (∀ x y z W, Calls Tryz.prog 65 #[.int .i64 x, .int .i64 y, .int .i64 z] W fun e w' => e = .returned (.bool (inB x y z)) ∧ w' = W) := fun x y z W => sIn_any x y z W
  cases c1 : sprOk k n with
  | false =>
    rw [okP_no (by unfold kOk; intro hk; rw [sprOk_is hk.1 hk.2.1 hk.2.2.1] at c1; cases c1)]
    rw [c1] at KO
    clear h hL hb0
    go_enter Tryz.func130, Tryz.ntmps130
    go_wp2_with (go_at_call 175; refine (KO.out _).mono ?_; rintro e w' ⟨rfl, hw⟩; obtain rfl := hw.symm)
    go_ret
    exact ⟨rfl, HB0.out⟩
  | true =>
  rw [c1] at KO
  obtain ⟨k1, k2, k3⟩ := sprOk_parts c1
  have hwn : IntKind.i64.wrap (n - 1) = n - 1 := by rw [IntKind.wrap_i64]; omega
  cases c2 : inB i 0 (n - 1) with
  | false =>
    rw [show okP r k n i b m S = false by unfold okP; rw [pvB_out (by simp [inB] at c2; omega)]; simp]
    have KI2 : Hid (∀ W, Calls Tryz.prog 65 #[.int .i64 i, .int .i64 0, .int .i64 (n - 1)] W fun e w' => e = .returned (.bool false) ∧ w' = W) := fun W => by have := KI.out i 0 (n - 1) W; rw [c2] at this; exact this
    clear h hL hb0 k1 k2 k3
    go_enter Tryz.func130, Tryz.ntmps130
    go_wp2_with (first | (go_at_call 175; refine (KO.out _).mono ?_; rintro e w' ⟨rfl, hw⟩; obtain rfl := hw.symm) | (go_at_call 65; refine (KI2.out _).mono ?_; rintro e w' ⟨rfl, hw⟩; obtain rfl := hw.symm))
    go_ret
    exact ⟨rfl, HB0.out⟩
  | true =>
  have KI2 : Hid (∀ W, Calls Tryz.prog 65 #[.int .i64 i, .int .i64 0, .int .i64 (n - 1)] W fun e w' => e = .returned (.bool true) ∧ w' = W) := fun W => by have := KI.out i 0 (n - 1) W; rw [c2] at this; exact this
  cases c3 : inB (sz : Int) 1 2002 with
  | false =>
    rw [okP_no (by unfold kOk; simp [inB] at c3; omega)]
    have KI3 : Hid (∀ W, Calls Tryz.prog 65 #[.int .i64 (sz : Int), .int .i64 1, .int .i64 2002] W fun e w' => e = .returned (.bool false) ∧ w' = W) := fun W => by have := KI.out (sz : Int) 1 2002 W; rw [c3] at this; exact this
    clear h hL hb0 k1 k2 k3
    go_enter Tryz.func130, Tryz.ntmps130
    go_wp2_with fail
    refine (KO.out _).mono ?_
    rintro e w' ⟨rfl, hw⟩
    obtain rfl := hw.symm
    clear hw
    go_wp2_with fail
    refine (KI2.out _).mono ?_
    rintro e w' ⟨rfl, hw⟩
    obtain rfl := hw.symm
    clear hw
    go_wp2_with fail
    refine (KI3.out _).mono ?_
    rintro e w' ⟨rfl, hw⟩
    obtain rfl := hw.symm
    clear hw
    go_wp2
    go_ret
    exact ⟨rfl, HB0.out⟩
  | true =>
  have KI3 : Hid (∀ W, Calls Tryz.prog 65 #[.int .i64 (sz : Int), .int .i64 1, .int .i64 2002] W fun e w' => e = .returned (.bool true) ∧ w' = W) := fun W => by have := KI.out (sz : Int) 1 2002 W; rw [c3] at this; exact this
  have c34 : 1 ≤ sz ∧ sz ≤ 2002 := by simp [inB] at c3; omega
  rw [okP_yes (by unfold kOk; omega)]
  obtain ⟨w0, HW0⟩ : ∃ x, Hid (x = w.alloc (.cells (pcC r k n i b (.slice a m cap)) 39)) := ⟨_, rfl⟩
  obtain ⟨B, HB⟩ : ∃ x, Hid (x = w.heap.size) := ⟨_, rfl⟩
  rw [← HW0.out] at HB0 hb0
  have HR : Hid (Row w0 B 39 (pcC r k n i b (.slice a m cap))) := by show Row _ _ _ _; rw [HW0.out, HB.out]; exact Row.new w _ _
  have KL : Hid (∀ W, Calls Tryz.prog 177 #[.int .i64 k, .int .i64 n, .int .i64 i, .string b] W fun e w' => e = .returned (.string (plf k n i b)) ∧ Below W.heap.size W w') := fun W => sPieceLeaf_any k n i b W (by omega)
  have KP : Hid (∀ W, Below w0.heap.size w0 W → Calls Tryz.prog 176 #[.string r, .string (plf k n i b), .int .i64 i, .int .i64 n, .slice a m cap] W fun e w' => e = .returned (.bool (pvB r (plf k n i b) i n m S)) ∧ Below W.heap.size W w') := fun W hW => sProved_any r (plf k n i b) i n a m cap S W ((h.below hb0).below hW) hm hL
  generalize plf k n i b = x at KL KP ⊢
  generalize pvB r x i n m S = ans at KP ⊢
  have q0 := HR.out.cell 0
  have q1 := HR.out.cell 1
  have q2 := HR.out.cell 2
  have q3 := HR.out.cell 3
  have q4 := HR.out.cell 4
  have q5 := HR.out.cell 5
  have lB := HR.out.lt
  simp at q0 q1 q2 q3 q4 q5
  clear h hL hb0 k1 k2 k3 c34 KI
  go_enter Tryz.func130, Tryz.ntmps130
  go_wp2_with fail
  refine (KO.out _).mono ?_
  rintro e w' ⟨rfl, hw⟩
  obtain rfl := hw.symm
  clear hw
  go_wp2_with fail
  refine (KI2.out _).mono ?_
  rintro e w' ⟨rfl, hw⟩
  obtain rfl := hw.symm
  clear hw
  go_wp2_with fail
  refine (KI3.out _).mono ?_
  rintro e w' ⟨rfl, hw⟩
  obtain rfl := hw.symm
  clear hw
  go_wp2_with fail
  rw [← HW0.out, ← HB.out]
  go_region_held3 (fun w' => w'.cell? ⟨B, 0, none⟩ = some (.string r) ∧ w'.cell? ⟨B, 1, none⟩ = some (.int .i64 k) ∧ w'.cell? ⟨B, 2, none⟩ = some (.int .i64 n) ∧ w'.cell? ⟨B, 3, none⟩ = some (.int .i64 i) ∧ w'.cell? ⟨B, 4, none⟩ = some (.string b) ∧ w'.cell? ⟨B, 5, none⟩ = some (.slice a m cap)) (go_keep) ((first | (go_at_call 177; refine Calls.mono (KL.out _) ?_; rintro e w5 ⟨rfl, hb5'⟩; have hb5 := below_of_drew hb5'; clear hb5'; have p0 := (hb5.cell (p := ⟨B, 0, none⟩) lB).trans q0; have p1 := (hb5.cell (p := ⟨B, 1, none⟩) lB).trans q1; have p2 := (hb5.cell (p := ⟨B, 2, none⟩) lB).trans q2; have p3 := (hb5.cell (p := ⟨B, 3, none⟩) lB).trans q3; have p4 := (hb5.cell (p := ⟨B, 4, none⟩) lB).trans q4; have p5 := (hb5.cell (p := ⟨B, 5, none⟩) lB).trans q5) | (guard_hyp hb5; go_at_call 176; refine Calls.mono (KP.out _ hb5) ?_; rintro e w6 ⟨rfl, hb6⟩; have hb56 := below2 hb5 hb6; have u0 := (hb56.cell (p := ⟨B, 0, none⟩) lB).trans q0; have u1 := (hb56.cell (p := ⟨B, 1, none⟩) lB).trans q1; have u2 := (hb56.cell (p := ⟨B, 2, none⟩) lB).trans q2; have u3 := (hb56.cell (p := ⟨B, 3, none⟩) lB).trans q3; have u4 := (hb56.cell (p := ⟨B, 4, none⟩) lB).trans q4; have u5 := (hb56.cell (p := ⟨B, 5, none⟩) lB).trans q5)))
  all_goals
    go_wp2
    go_ret
    exact ⟨rfl, HB0.out.trans ((below2 hb5 hb6).mono HB0.out.size)⟩
end Go.Proofs.YtgiegoamcfjfmaaGreat
/- One piece of a cutting, in the program. Conditions: at most 64 bodies; a place among them. -/
namespace Go.Proofs.YtgiegoamcfjfmaaGreat
set_option maxRecDepth 2000
open Go.ChangeShapes Go.WideShapes Go.ChangeAt Go.RowKit

end Go.Proofs.YtgiegoamcfjfmaaGreat
/- Pieces in memory: a list of pieces that is ours, and one that is read. No condition but what each says. -/
namespace Go.Proofs.YtgiegoamcfjfmaaGreat
set_option maxRecDepth 2000
open Go.ChangeShapes Go.WideShapes Go.ChangeAt Go.RowKit

/-- A piece by plain values: its proof has m texts S. -/
structure Pc where
  r : ByteArray
  k : Int
  n : Int
  i : Int
  b : ByteArray
  m : Nat
  S : Nat → ByteArray
def cel (p : Pc) (v : Value) : Nat → Value
  | 0 => .string p.r
  | 1 => .int .i64 p.k
  | 2 => .int .i64 p.n
  | 3 => .int .i64 p.i
  | 4 => .string p.b
  | _ => v
/-- The cells of n structs of six. -/
def gL (c : Nat → Nat → Value) (n : Nat) : List Value := (List.range (n * 6)).map fun j => c (j / 6) (j % 6)
theorem gL_len (c : Nat → Nat → Value) (n : Nat) : (gL c n).length = n * 6 := by simp [gL]
theorem gL_get (c : Nat → Nat → Value) (n i q : Nat) (hi : i < n) (hq : q < 6) : (gL c n)[i * 6 + q]? = some (c i q) := by
  have h : i * 6 + q < n * 6 := by omega
  simp [gL, h, show (i * 6 + q) / 6 = i by omega, show (i * 6 + q) % 6 = q by omega]
theorem gL_congr {c c' : Nat → Nat → Value} {n : Nat} (h : ∀ i q, i < n → q < 6 → c i q = c' i q) : gL c n = gL c' n := by
  unfold gL
  refine List.map_congr_left fun j hj => ?_
  have : j < n * 6 := by simpa using hj
  exact h _ _ (by omega) (by omega)
theorem gL_set (c : Nat → Nat → Value) (n i q : Nat) (v : Value) (hi : i < n) (hq : q < 6) : (gL c n).set (i * 6 + q) v = gL (fun i' q' => if i' = i ∧ q' = q then v else c i' q') n := by
  apply List.ext_getElem?
  intro j
  rw [List.getElem?_set]
  by_cases hj : j < n * 6
  · by_cases e : i * 6 + q = j
    · subst e
      rw [if_pos rfl, if_pos (by rw [gL_len]; omega), gL_get _ _ _ _ hi hq]
      simp
    · rw [if_neg e]
      have h1 := gL_get c n (j / 6) (j % 6) (by omega) (by omega)
      have h2 := gL_get (fun i' q' => if i' = i ∧ q' = q then v else c i' q') n (j / 6) (j % 6) (by omega) (by omega)
      rw [show j / 6 * 6 + j % 6 = j by omega] at h1 h2
      rw [h1, h2, if_neg (by omega)]
  · rw [if_neg (by omega)]
    rw [List.getElem?_eq_none (by rw [gL_len]; omega), List.getElem?_eq_none (by rw [gL_len]; omega)]
/-- A list of pieces that is ours, cell by cell. -/
def OwnC (w : World) (B : Nat) (a : Option Addr) (n cap : Nat) (c : Nat → Nat → Value) : Prop := w.ownsRow B 39 6 (.slice a n cap) n (gL c n)
theorem OwnC.congr {w : World} {B : Nat} {a : Option Addr} {n cap : Nat} {c c' : Nat → Nat → Value} (h : OwnC w B a n cap c) (e : ∀ i q, i < n → q < 6 → c i q = c' i q) : OwnC w B a n cap c' := by
  unfold OwnC
  rw [← gL_congr e]
  exact h
theorem OwnC.below {w w' : World} {B : Nat} {a : Option Addr} {n cap : Nat} {c : Nat → Nat → Value} (h : OwnC w B a n cap c) (hb : Below w.heap.size w w') : OwnC w' B a n cap c := ownsRow_below h hb
theorem OwnC.cell {w : World} {B g : Nat} {n cap : Nat} {c : Nat → Nat → Value} (h : OwnC w B (some ⟨g, 0, none⟩) n cap c) {i q : Nat} (hi : i < n) (hq : q < 6) : w.cell? ⟨g, i * 6 + q, none⟩ = some (c i q) := by
  have := World.ownsRow.cellAt h (i * 6 + q) (by omega)
  rw [this]
  exact gL_get _ _ _ _ hi hq
theorem OwnC.set {w : World} {B g : Nat} {n cap : Nat} {c : Nat → Nat → Value} (h : OwnC w B (some ⟨g, 0, none⟩) n cap c) {i q : Nat} (hi : i < n) (hq : q < 6) (v : Value) : OwnC (w.setCell ⟨g, i * 6 + q, none⟩ v) B (some ⟨g, 0, none⟩) n cap (fun i' q' => if i' = i ∧ q' = q then v else c i' q') := by
  have := World.ownsRow.stored h (i * 6 + q) v
  rw [gL_set _ _ _ _ _ hi hq] at this
  exact this.1
/-- A list of pieces that is ours, with all that it leads to; no two lists of it share memory. -/
def OwnP (w : World) (B : Nat) (a : Option Addr) (n cap : Nat) (A : Nat → Option Addr) (C : Nat → Nat) (P : Nat → Pc) : Prop :=
  OwnC w B a n cap (fun i => cel (P i) (.slice (A i) (P i).m (C i))) ∧ (∀ i, i < n → OwnT w B (A i) (P i).m (C i) (P i).S) ∧
  (∀ i j x y, i < j → j < n → A i = some x → A j = some y → x.block ≠ y.block) ∧ (∀ i x y, i < n → A i = some x → a = some y → x.block ≠ y.block)
theorem OwnP.below {w w' : World} {B : Nat} {a : Option Addr} {n cap : Nat} {A : Nat → Option Addr} {C : Nat → Nat} {P : Nat → Pc} (h : OwnP w B a n cap A C P) (hb : Below w.heap.size w w') : OwnP w' B a n cap A C P :=
  ⟨h.1.below hb, fun i hi => OwnT.below (h.2.1 i hi) hb, h.2.2⟩
/-- A list of pieces that is read. -/
def PiAt (w : World) (a : Option Addr) (n : Nat) (P : Nat → Pc) : Prop := ∀ i, i < n → ∃ b off ap cp, a = some ⟨b, off, none⟩ ∧ (∀ q, q < 6 → w.cell? ⟨b, off + (i * 6 + q), none⟩ = some (cel (P i) (.slice ap (P i).m cp) q)) ∧ TxtAt w ap (P i).m (P i).S
theorem PiAt.below {w w' : World} {a : Option Addr} {n : Nat} {P : Nat → Pc} (h : PiAt w a n P) (hb : Below w.heap.size w w') : PiAt w' a n P := fun i hi => by
  obtain ⟨b, off, ap, cp, e, hc, ht⟩ := h i hi
  refine ⟨b, off, ap, cp, e, fun q hq => ?_, ht.below hb⟩
  exact (hb.cell (p := ⟨b, off + (i * 6 + q), none⟩) (block_lt_of_cell (hc q hq))).trans (hc q hq)
theorem OwnP.at {w : World} {B : Nat} {a : Option Addr} {n cap : Nat} {A : Nat → Option Addr} {C : Nat → Nat} {P : Nat → Pc} (h : OwnP w B a n cap A C P) : PiAt w a n P := fun i hi => by
  have h1 := h.1
  obtain ⟨g, rfl⟩ : ∃ g, a = some ⟨g, 0, none⟩ := by
    rcases h1.2 with ⟨e, h0⟩ | ⟨g, cap', cur, e, _⟩
    · omega
    · cases e; exact ⟨g, rfl⟩
  refine ⟨g, 0, A i, C i, rfl, fun q hq => ?_, OwnT.at (h.2.1 i hi)⟩
  rw [Nat.zero_add]
  exact h1.cell hi hq
end Go.Proofs.YtgiegoamcfjfmaaGreat
/- Slots, nodes and sayings by plain values, and as the machine holds them. Definitions and lemmas; no walk. -/
namespace Go.Proofs.YtgiegoamcfjfmaaGreat
set_option maxRecDepth 2000
open Go.ChangeShapes Go.WideShapes Go.ChangeAt Go.RowKit

/-- A slot by plain values. -/
structure Sl where
  r : ByteArray
  p : Pc
  h : Bool
  e : Bool
  d : Bool
  o : Bool
  ze : List Int
  zr : List Int
def slD (s : Sl) : Nat → Dt
  | 0 => .val (.string s.r)
  | 1 => .val (.string s.p.r)
  | 2 => .val (.int .i64 s.p.k)
  | 3 => .val (.int .i64 s.p.n)
  | 4 => .val (.int .i64 s.p.i)
  | 5 => .val (.string s.p.b)
  | 6 => txD s.p.m s.p.S
  | 7 => .val (.bool s.h)
  | 8 => .val (.bool s.e)
  | 9 => .val (.bool s.d)
  | 10 => .val (.bool s.o)
  | 11 => inD s.ze
  | _ => inD s.zr
abbrev slC (s : Sl) (v6 v11 v12 : Value) : Array Value := #[.string s.r, .string s.p.r, .int .i64 s.p.k, .int .i64 s.p.n, .int .i64 s.p.i, .string s.p.b, v6, .bool s.h, .bool s.e, .bool s.d, .bool s.o, v11, v12]
abbrev slV (s : Sl) (v6 v11 v12 : Value) : Value := .agg (slC s v6 v11 v12)
/-- A saying by plain values. -/
structure Sy where
  k : Int
  f : Int
  t : Int
  r : ByteArray
  p : Pc
def syD (s : Sy) : Nat → Dt
  | 0 => .val (.int .i64 s.k)
  | 1 => .val (.int .i64 s.f)
  | 2 => .val (.int .i64 s.t)
  | 3 => .val (.string s.r)
  | 4 => .val (.string s.p.r)
  | 5 => .val (.int .i64 s.p.k)
  | 6 => .val (.int .i64 s.p.n)
  | 7 => .val (.int .i64 s.p.i)
  | 8 => .val (.string s.p.b)
  | _ => txD s.p.m s.p.S
abbrev syC (s : Sy) (v : Value) : Array Value := #[.int .i64 s.k, .int .i64 s.f, .int .i64 s.t, .string s.r, .string s.p.r, .int .i64 s.p.k, .int .i64 s.p.n, .int .i64 s.p.i, .string s.p.b, v]
abbrev syV (s : Sy) (v : Value) : Value := .agg (syC s v)
/-- A struct's value by its cells. -/
abbrev ag13 (y : Nat → Value) : Value := .agg #[y 0, y 1, y 2, y 3, y 4, y 5, y 6, y 7, y 8, y 9, y 10, y 11, y 12]
abbrev ag10 (y : Nat → Value) : Value := .agg #[y 0, y 1, y 2, y 3, y 4, y 5, y 6, y 7, y 8, y 9]
/-- Lists of slots and of sayings. -/
def slsD (n : Nat) (S : Nat → Sl) : Dt := .lst 62 13 n fun i => slD (S i)
def sysD (n : Nat) (S : Nat → Sy) : Dt := .lst 41 10 n fun i => syD (S i)
/-- A slot that is read, with its cells. -/
theorem slot_row {w : World} {n : Nat} {S : Nat → Sl} {a : Option Addr} {cap : Nat} (h : Rd w (slsD n S) (.slice a n cap)) {i : Nat} (hi : i < n) :
    ∃ (b off : Nat) (y : Nat → Value) (a6 a11 a12 : Option Addr) (c6 c11 c12 : Nat), a = some ⟨b, off, none⟩ ∧ (∀ q, q < 13 → w.cell? ⟨b, off + (i * 13 + q), none⟩ = some (y q)) ∧ ag13 y = slV (S i) (.slice a6 (S i).p.m c6) (.slice a11 (S i).ze.length c11) (.slice a12 (S i).zr.length c12) ∧ TxtAt w a6 (S i).p.m (S i).p.S ∧ IntsAt w a11 (S i).ze.length (S i).ze ∧ IntsAt w a12 (S i).zr.length (S i).zr := by
  obtain ⟨b, off, y, ea, hc, hr⟩ := h.row hi
  obtain ⟨a6, c6, e6⟩ := (hr 6 (by omega)).shape
  have r6 : Rd w (txD (S i).p.m (S i).p.S) (y 6) := hr 6 (by omega)
  rw [e6] at r6
  obtain ⟨a11, c11, e11⟩ := (hr 11 (by omega)).shape
  have r11 : Rd w (inD (S i).ze) (y 11) := hr 11 (by omega)
  rw [e11] at r11
  obtain ⟨a12, c12, e12⟩ := (hr 12 (by omega)).shape
  have r12 : Rd w (inD (S i).zr) (y 12) := hr 12 (by omega)
  rw [e12] at r12
  have g0 := hr 0 (by omega)
  have g1 := hr 1 (by omega)
  have g2 := hr 2 (by omega)
  have g3 := hr 3 (by omega)
  have g4 := hr 4 (by omega)
  have g5 := hr 5 (by omega)
  have g7 := hr 7 (by omega)
  have g8 := hr 8 (by omega)
  have g9 := hr 9 (by omega)
  have g10 := hr 10 (by omega)
  simp only [Rd, slD] at g0 g1 g2 g3 g4 g5 g7 g8 g9 g10
  exact ⟨b, off, y, a6, a11, a12, c6, c11, c12, ea, hc, by simp only [ag13, slV, slC, g0, g1, g2, g3, g4, g5, g7, g8, g9, g10, e6, e11, e12], rd_txt.1 r6, rd_ints.1 r11, rd_ints.1 r12⟩
/-- A saying that is read, with its cells. -/
theorem say_row {w : World} {n : Nat} {S : Nat → Sy} {a : Option Addr} {cap : Nat} (h : Rd w (sysD n S) (.slice a n cap)) {i : Nat} (hi : i < n) :
    ∃ (b off : Nat) (y : Nat → Value) (a9 : Option Addr) (c9 : Nat), a = some ⟨b, off, none⟩ ∧ (∀ q, q < 10 → w.cell? ⟨b, off + (i * 10 + q), none⟩ = some (y q)) ∧ ag10 y = syV (S i) (.slice a9 (S i).p.m c9) ∧ TxtAt w a9 (S i).p.m (S i).p.S := by
  obtain ⟨b, off, y, ea, hc, hr⟩ := h.row hi
  obtain ⟨a9, c9, e9⟩ := (hr 9 (by omega)).shape
  have r9 : Rd w (txD (S i).p.m (S i).p.S) (y 9) := hr 9 (by omega)
  rw [e9] at r9
  have g0 := hr 0 (by omega)
  have g1 := hr 1 (by omega)
  have g2 := hr 2 (by omega)
  have g3 := hr 3 (by omega)
  have g4 := hr 4 (by omega)
  have g5 := hr 5 (by omega)
  have g6 := hr 6 (by omega)
  have g7 := hr 7 (by omega)
  have g8 := hr 8 (by omega)
  simp only [Rd, syD] at g0 g1 g2 g3 g4 g5 g6 g7 g8
  exact ⟨b, off, y, a9, c9, ea, hc, by simp only [ag10, syV, syC, g0, g1, g2, g3, g4, g5, g6, g7, g8, e9], rd_txt.1 r9⟩
theorem range13 {w : World} {b o : Nat} {y : Nat → Value} (h : ∀ q, q < 13 → w.cell? ⟨b, o + q, none⟩ = some (y q)) : w.rangeAt b o [y 0, y 1, y 2, y 3, y 4, y 5, y 6, y 7, y 8, y 9, y 10, y 11, y 12] := fun j v hv => by
  have hj : j < 13 := (List.getElem?_eq_some_iff.1 hv).1
  rw [h j hj, ← hv]
  match j, hj with
  | 0, _ | 1, _ | 2, _ | 3, _ | 4, _ | 5, _ | 6, _ | 7, _ | 8, _ | 9, _ | 10, _ | 11, _ | 12, _ => rfl
theorem Tryz.infoSl : (Tryz.prog.info? 62).map (·.size) = some 13 := by kernel_rfl
theorem Tryz.infoNd : (Tryz.prog.info? 34).map (·.size) = some 3 := by kernel_rfl
theorem Tryz.infoSy : (Tryz.prog.info? 41).map (·.size) = some 10 := by kernel_rfl
end Go.Proofs.YtgiegoamcfjfmaaGreat
