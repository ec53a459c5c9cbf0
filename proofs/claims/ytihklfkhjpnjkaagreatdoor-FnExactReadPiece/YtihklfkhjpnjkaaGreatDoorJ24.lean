import Derived.Test.YtihklfkhjpnjkaaGreatDoorJ23
set_option maxHeartbeats 8000000
set_option maxRecDepth 2000
open Go.ChangeShapes Go.WideShapes Go.ChangeAt Go.RowKit
namespace Go.Proofs.YtihklfkhjpnjkaaGreatDoor
open Gt (nb hf nm pl pr jn)
theorem prB_parts {x : ByteArray} {i n : Int} {k : Nat} {S : Nat → ByteArray} (h : prB x i n k S = true) : x.size = 16 ∧ (k : Int) = plI i n ∧ ∀ j, j < k → (S j).size = 16 := by
 unfold prB at h
 simp only [Bool.and_eq_true, decide_eq_true_eq, aS_iff] at h
 exact ⟨h.1.1, h.1.2, h.2⟩
theorem plI_in {i n : Int} (h : 0 ≤ plI i n) : inT i n = true := by
 unfold plI at h
 by_cases e : inT i n = true
 ·exact e
 ·rw [if_neg e] at h; omega
theorem proofRoot_any (x : ByteArray) (i n : Int) (a : Option Addr) (k cap : Nat) (S : Nat → ByteArray) (w : World) (h : TxtAt w a k S) (hk : k ≤ 1048576) (hL : ∀ i, i < k → (S i).size ≤ maxLen) :
  Calls Tryz.prog 80 #[.string x, .int .i64 i, .int .i64 n, .slice a k cap] w fun e w' => e = .returned (.tuple #[.string (prS x i n k S), .bool (prB x i n k S)]) ∧ Below w.heap.size w w' := by
 unfold prS
 cases hB : prB x i n k S with
 | false => exact proofRoot_no x i n a k cap S w h hk hL hB
 | true =>
  obtain ⟨h1, h2, h3⟩ := prB_parts hB
  have hin := plI_in (i := i) (n := n) (by omega)
  obtain ⟨i', rfl⟩ : ∃ i' : Nat, i = (i' : Int) := ⟨i.toNat, by simp [inT] at hin; omega⟩
  obtain ⟨n', rfl⟩ : ∃ n' : Nat, n = (n' : Int) := ⟨n.toNat, by simp [inT] at hin; omega⟩
  exact proofRoot_in x i' n' a k cap S w h hin h1 (by unfold plI at h2; rw [if_pos hin] at h2; simp at h2; omega) h3
theorem sProofRoot_any (x : ByteArray) (i n : Int) (a : Option Addr) (k cap : Nat) (S : Nat → ByteArray) (w : World) (h : TxtAt w a k S) (hk : k ≤ 1048576) (hL : ∀ i, i < k → (S i).size ≤ maxLen) :
  Calls Tryz.prog 95 #[.string x, .int .i64 i, .int .i64 n, .slice a k cap] w fun e w' => e = .returned (.tuple #[.string (prS x i n k S), .bool (prB x i n k S)]) ∧ Below w.heap.size w w' := by
 have KP : Hid (∀ w0, Calls Tryz.prog 136 #[.int .i64 i, .int .i64 n] w0 fun e w' => e = .returned (.int .i64 (plI i n)) ∧ w' = w0) := fun w0 => sProofLen_any i n w0
 have KV : Hid (Calls Tryz.prog 114 #[.slice a k cap] w fun e w' => e = .returned (.bool (lvB k S)) ∧ w' = w) := sLeaves_any a k cap S w h hk hL
 unfold prS
 obtain ⟨r, hr⟩ : ∃ r, plI i n = r := ⟨_, rfl⟩
 rw [hr] at KP
 cases hB : prB x i n k S with
 | false =>
  have hB' := hB
  unfold prB at hB'
  rw [hr] at hB'
  by_cases h0 : r < 0
  ·clear hB' hr h
   go_enter Tryz.func95, Tryz.ntmps95
   go_wp2_with (go_at_call 136; refine (KP.out _).mono ?_; rintro e w' ⟨rfl, hw⟩; obtain rfl := hw.symm)
   go_ret2
   exact ⟨rfl, Below.refl _ _⟩
  ·have h0' : decide (r < 0) = false := by simpa using h0
   by_cases h16 : x.size = 16
   ·have h16' : ((x.size : Int) != 16) = false := by simp; omega
    by_cases hkr : (k : Int) = r
    ·subst hkr
     have haS : aS k S = false := by simpa [h16] using hB'
     have hk0 : (0 : Int) < (k : Int) := by
      by_cases e : k = 0
      ·subst e; simp [aS] at haS
      ·omega
     have hlv : lvB k S = false := by unfold lvB; rw [haS]; rfl
     rw [hlv] at KV
     have hkk : ((k : Int) != (k : Int)) = false := by simp
     clear hB' hr h hlv haS h16 h0 hB
     go_enter Tryz.func95, Tryz.ntmps95
     go_wp2_with (first | (go_at_call 136; refine (KP.out _).mono ?_; rintro e w' ⟨rfl, hw⟩; obtain rfl := hw.symm) | (go_at_call 114; refine KV.out.mono ?_; rintro e w' ⟨rfl, hw⟩; obtain rfl := hw.symm))
     go_ret2
     exact ⟨rfl, Below.refl _ _⟩
    ·have hkr' : ((k : Int) != r) = true := by simp; exact hkr
     clear hB' hr h hkr h16 h0 hB
     go_enter Tryz.func95, Tryz.ntmps95
     go_wp2_with (go_at_call 136; refine (KP.out _).mono ?_; rintro e w' ⟨rfl, hw⟩; obtain rfl := hw.symm)
     go_ret2
     exact ⟨rfl, Below.refl _ _⟩
   ·have h16' : ((x.size : Int) != 16) = true := by simp; omega
    clear hB' hr h h16 h0 hB
    go_enter Tryz.func95, Tryz.ntmps95
    go_wp2_with (go_at_call 136; refine (KP.out _).mono ?_; rintro e w' ⟨rfl, hw⟩; obtain rfl := hw.symm)
    go_ret2
    exact ⟨rfl, Below.refl _ _⟩
 | true =>
  obtain ⟨h1, h2, h3⟩ := prB_parts hB
  have hin := plI_in (i := i) (n := n) (by omega)
  obtain ⟨i', rfl⟩ : ∃ i' : Nat, i = (i' : Int) := ⟨i.toNat, by simp [inT] at hin; omega⟩
  obtain ⟨n', rfl⟩ : ∃ n' : Nat, n = (n' : Int) := ⟨n.toNat, by simp [inT] at hin; omega⟩
  have hin2 : i' < n' ∧ n' ≤ 64 := by simp [inT] at hin; omega
  have hkp : Hid (k = pl i' n') := by show _ = _; unfold plI at h2; rw [if_pos hin] at h2; simp at h2; omega
  have hk6 : k ≤ 6 := by rw [hkp.out]; exact Gt.pl_le 6 _ _ (by omega)
  rw [hr] at h2
  subst h2
  have hlv : 0 < k → lvB k S = true := fun h0 => by unfold lvB; rw [aS_yes h3, inB_true (by omega)]; rfl
  have h16' : ((x.size : Int) != 16) = false := by simp; omega
  have hkk : ((k : Int) != (k : Int)) = false := by simp
  have h0' : decide ((k : Int) < 0) = false := by simp
  have K3 : Hid (∀ j, j < k → (S j).size = 16) := h3
  have KH : Hid (TxtAt w a k S) := h
  have Hx : Hid (x.size = 16) := h1
  rw [if_pos rfl]
  simp only [Int.toNat_natCast]
  clear hB hr hin h h1 h3 hL hk
  have main : ∀ (Z : ByteArray), Z = pr x i' n' S 0 → Calls Tryz.prog 95 #[.string x, .int .i64 (i' : Int), .int .i64 (n' : Int), .slice a k cap] w fun e w' => e = .returned (.tuple #[.string Z, .bool true]) ∧ Below w.heap.size w w' := by
   intro Z hZ
   have HZ : Hid (Z = pr x i' n' S 0) := hZ
   clear hZ
   go_enter Tryz.func95, Tryz.ntmps95
   by_cases hk0 : (0 : Int) < (k : Int)
   ·have KV2 : Hid (Calls Tryz.prog 114 #[.slice a k cap] w fun e w' => e = .returned (.bool true) ∧ w' = w) := by
     have := KV.out
     rw [hlv (by omega)] at this
     exact this
    clear KV hlv
    go_wp2_with (first | (go_at_call 136; refine (KP.out _).mono ?_; rintro e w' ⟨rfl, hw⟩; obtain rfl := hw.symm) | (go_at_call 114; refine KV2.out.mono ?_; rintro e w' ⟨rfl, hw⟩; obtain rfl := hw.symm))
    go_loopw [0, 1, 2, 11] (fun vx vi vn vc wr => ∃ (y : ByteArray) (p s c : Nat), p < s ∧ s ≤ 64 ∧ y.size = 16 ∧ Hid (c + pl p s = k) ∧ Hid (pr y p s S c = Z) ∧ vx = .string y ∧ vi = .int .i64 (p : Int) ∧ vn = .int .i64 (s : Int) ∧ vc = .int .i64 (c : Int) ∧ Below w.heap.size w wr) (fun _ _ vn _ _ => (intOf vn).toNat)
    case atStart => exact ⟨x, i', n', 0, hin2.1, hin2.2, Hx.out, by show 0 + _ = _; rw [Nat.zero_add]; exact hkp.out.symm, HZ.out.symm, rfl, rfl, rfl, rfl, Below.refl _ _⟩
    case round =>
     obtain ⟨y, p, s, c, hp, hs, hy, HC, HP, rfl, rfl, rfl, rfl, hbel⟩ := hrel
     clear h16' hkk h0'
     by_cases h1 : s ≤ 1
     ·have h1' : ¬ (1 : Int) < (s : Int) := by omega
      have HE : Hid (y = Z) := by have := HP.out; rw [Gt.pr_one _ _ _ _ h1] at this; exact this
      go_wp2
      go_ret2
      exact ⟨by rw [← HE.out]; rfl, hbel⟩
     ·have h1' : (1 : Int) < (s : Int) := by omega
      obtain ⟨u1, u2, u3, u4, u5, u6, u7, u8, u9⟩ := up_nums p s hp hs
      have hlt2 : p / 2 < hf s ∧ hf s < s := by unfold hf; omega
      by_cases hb : nb p < s
      ·have HC2 : Hid (c + 1 + pl (p / 2) (hf s) = k) := by have := HC.out; rw [Gt.pl_yes p h1 hb] at this; show _ = _; omega
       have hck : c < k := by have := HC2.out; omega
       have hcki : (c : Int) < (k : Int) := by omega
       have hb' : ((nb p : Nat) : Int) < (s : Int) := by omega
       have hs16 := K3.out c hck
       obtain ⟨b', off, rfl, hcc⟩ := (KH.out.below hbel) c hck
       by_cases hev : p % 2 = 0
       ·have hev' : ((p : Int) % 2 == 0) = true := by simp; omega
        have HJ : Hid (∀ w0, Calls Tryz.prog 137 #[.string y, .string (S c)] w0 fun e w' => e = .returned (.string (jn y (S c))) ∧ Below w0.heap.size w0 w') := fun w0 => sjoin_any _ _ w0 (by omega) (by omega)
        have HP2 : Hid (pr (jn y (S c)) (p / 2) (hf s) S (c + 1) = Z) := by
         show _ = _
         rw [← HP.out, Gt.pr_yes y p S c h1 hb, if_pos hev]
        have HZ2 : Hid ((jn y (S c)).size = 16) := Gt.jn_size _ _
        generalize jn y (S c) = z at HJ HP2 HZ2
        generalize S c = sc at HJ hcc
        generalize nb p = q at u4 hb'
        generalize p / 2 = p' at u5 u6 hlt2 HC2 HP2
        generalize hf s = s' at u8 u9 hlt2 HC2 HP2
        clear hev hb HP HC hs16
        go_wp2_with fail
        refine (HJ.out _).mono ?_
        rintro e w9 ⟨rfl, hb9⟩
        have hbw := hbel.trans (hb9.mono hbel.size)
        go_wp2
        go_roundw
        case rel => exact ⟨z, p', s', c + 1, by omega, by omega, HZ2.out, HC2, HP2, rfl, rfl, rfl, by go_num, hbw⟩
        case measure => simp [intOf]; omega
       ·have hev' : ((p : Int) % 2 == 0) = false := by simp; omega
        have HJ : Hid (∀ w0, Calls Tryz.prog 137 #[.string (S c), .string y] w0 fun e w' => e = .returned (.string (jn (S c) y)) ∧ Below w0.heap.size w0 w') := fun w0 => sjoin_any _ _ w0 (by omega) (by omega)
        have HP2 : Hid (pr (jn (S c) y) (p / 2) (hf s) S (c + 1) = Z) := by
         show _ = _
         rw [← HP.out, Gt.pr_yes y p S c h1 hb, if_neg hev]
        have HZ2 : Hid ((jn (S c) y).size = 16) := Gt.jn_size _ _
        generalize jn (S c) y = z at HJ HP2 HZ2
        generalize S c = sc at HJ hcc
        generalize nb p = q at u4 hb'
        generalize p / 2 = p' at u5 u6 hlt2 HC2 HP2
        generalize hf s = s' at u8 u9 hlt2 HC2 HP2
        clear hev hb HP HC hs16
        go_wp2_with fail
        refine (HJ.out _).mono ?_
        rintro e w9 ⟨rfl, hb9⟩
        have hbw := hbel.trans (hb9.mono hbel.size)
        go_wp2
        go_roundw
        case rel => exact ⟨z, p', s', c + 1, by omega, by omega, HZ2.out, HC2, HP2, rfl, rfl, rfl, by go_num, hbw⟩
        case measure => simp [intOf]; omega
      ·have HC2 : Hid (c + pl (p / 2) (hf s) = k) := by have := HC.out; rw [Gt.pl_no p h1 hb] at this; exact this
       have HP2 : Hid (pr y (p / 2) (hf s) S c = Z) := by have := HP.out; rw [Gt.pr_no y p S c h1 hb] at this; exact this
       have hb' : ¬ ((nb p : Nat) : Int) < (s : Int) := by omega
       generalize nb p = q at u4 hb'
       generalize p / 2 = p' at u5 u6 hlt2 HC2 HP2
       generalize hf s = s' at u8 u9 hlt2 HC2 HP2
       clear hb HP HC
       go_wp2
       go_roundw
       case rel => exact ⟨y, p', s', c, by omega, by omega, hy, HC2, HP2, rfl, rfl, rfl, rfl, hbel⟩
       case measure => simp [intOf]; omega
   ·clear KV hlv
    go_wp2_with (go_at_call 136; refine (KP.out _).mono ?_; rintro e w' ⟨rfl, hw⟩; obtain rfl := hw.symm)
    go_loopw [0, 1, 2, 11] (fun vx vi vn vc wr => ∃ (y : ByteArray) (p s c : Nat), p < s ∧ s ≤ 64 ∧ y.size = 16 ∧ Hid (c + pl p s = k) ∧ Hid (pr y p s S c = Z) ∧ vx = .string y ∧ vi = .int .i64 (p : Int) ∧ vn = .int .i64 (s : Int) ∧ vc = .int .i64 (c : Int) ∧ Below w.heap.size w wr) (fun _ _ vn _ _ => (intOf vn).toNat)
    case atStart => exact ⟨x, i', n', 0, hin2.1, hin2.2, Hx.out, by show 0 + _ = _; rw [Nat.zero_add]; exact hkp.out.symm, HZ.out.symm, rfl, rfl, rfl, rfl, Below.refl _ _⟩
    case round =>
     obtain ⟨y, p, s, c, hp, hs, hy, HC, HP, rfl, rfl, rfl, rfl, hbel⟩ := hrel
     clear h16' hkk h0'
     by_cases h1 : s ≤ 1
     ·have h1' : ¬ (1 : Int) < (s : Int) := by omega
      have HE : Hid (y = Z) := by have := HP.out; rw [Gt.pr_one _ _ _ _ h1] at this; exact this
      go_wp2
      go_ret2
      exact ⟨by rw [← HE.out]; rfl, hbel⟩
     ·have h1' : (1 : Int) < (s : Int) := by omega
      obtain ⟨u1, u2, u3, u4, u5, u6, u7, u8, u9⟩ := up_nums p s hp hs
      have hlt2 : p / 2 < hf s ∧ hf s < s := by unfold hf; omega
      by_cases hb : nb p < s
      ·have HC2 : Hid (c + 1 + pl (p / 2) (hf s) = k) := by have := HC.out; rw [Gt.pl_yes p h1 hb] at this; show _ = _; omega
       have hck : c < k := by have := HC2.out; omega
       have hcki : (c : Int) < (k : Int) := by omega
       have hb' : ((nb p : Nat) : Int) < (s : Int) := by omega
       have hs16 := K3.out c hck
       obtain ⟨b', off, rfl, hcc⟩ := (KH.out.below hbel) c hck
       by_cases hev : p % 2 = 0
       ·have hev' : ((p : Int) % 2 == 0) = true := by simp; omega
        have HJ : Hid (∀ w0, Calls Tryz.prog 137 #[.string y, .string (S c)] w0 fun e w' => e = .returned (.string (jn y (S c))) ∧ Below w0.heap.size w0 w') := fun w0 => sjoin_any _ _ w0 (by omega) (by omega)
        have HP2 : Hid (pr (jn y (S c)) (p / 2) (hf s) S (c + 1) = Z) := by
         show _ = _
         rw [← HP.out, Gt.pr_yes y p S c h1 hb, if_pos hev]
        have HZ2 : Hid ((jn y (S c)).size = 16) := Gt.jn_size _ _
        generalize jn y (S c) = z at HJ HP2 HZ2
        generalize S c = sc at HJ hcc
        generalize nb p = q at u4 hb'
        generalize p / 2 = p' at u5 u6 hlt2 HC2 HP2
        generalize hf s = s' at u8 u9 hlt2 HC2 HP2
        clear hev hb HP HC hs16
        go_wp2_with fail
        refine (HJ.out _).mono ?_
        rintro e w9 ⟨rfl, hb9⟩
        have hbw := hbel.trans (hb9.mono hbel.size)
        go_wp2
        go_roundw
        case rel => exact ⟨z, p', s', c + 1, by omega, by omega, HZ2.out, HC2, HP2, rfl, rfl, rfl, by go_num, hbw⟩
        case measure => simp [intOf]; omega
       ·have hev' : ((p : Int) % 2 == 0) = false := by simp; omega
        have HJ : Hid (∀ w0, Calls Tryz.prog 137 #[.string (S c), .string y] w0 fun e w' => e = .returned (.string (jn (S c) y)) ∧ Below w0.heap.size w0 w') := fun w0 => sjoin_any _ _ w0 (by omega) (by omega)
        have HP2 : Hid (pr (jn (S c) y) (p / 2) (hf s) S (c + 1) = Z) := by
         show _ = _
         rw [← HP.out, Gt.pr_yes y p S c h1 hb, if_neg hev]
        have HZ2 : Hid ((jn (S c) y).size = 16) := Gt.jn_size _ _
        generalize jn (S c) y = z at HJ HP2 HZ2
        generalize S c = sc at HJ hcc
        generalize nb p = q at u4 hb'
        generalize p / 2 = p' at u5 u6 hlt2 HC2 HP2
        generalize hf s = s' at u8 u9 hlt2 HC2 HP2
        clear hev hb HP HC hs16
        go_wp2_with fail
        refine (HJ.out _).mono ?_
        rintro e w9 ⟨rfl, hb9⟩
        have hbw := hbel.trans (hb9.mono hbel.size)
        go_wp2
        go_roundw
        case rel => exact ⟨z, p', s', c + 1, by omega, by omega, HZ2.out, HC2, HP2, rfl, rfl, rfl, by go_num, hbw⟩
        case measure => simp [intOf]; omega
      ·have HC2 : Hid (c + pl (p / 2) (hf s) = k) := by have := HC.out; rw [Gt.pl_no p h1 hb] at this; exact this
       have HP2 : Hid (pr y (p / 2) (hf s) S c = Z) := by have := HP.out; rw [Gt.pr_no y p S c h1 hb] at this; exact this
       have hb' : ¬ ((nb p : Nat) : Int) < (s : Int) := by omega
       generalize nb p = q at u4 hb'
       generalize p / 2 = p' at u5 u6 hlt2 HC2 HP2
       generalize hf s = s' at u8 u9 hlt2 HC2 HP2
       clear hb HP HC
       go_wp2
       go_roundw
       case rel => exact ⟨y, p', s', c, by omega, by omega, hy, HC2, HP2, rfl, rfl, rfl, rfl, hbel⟩
       case measure => simp [intOf]; omega
  exact main _ rfl
end Go.Proofs.YtihklfkhjpnjkaaGreatDoor
namespace Go.Proofs.YtihklfkhjpnjkaaGreatDoor
def pvB (r x : ByteArray) (i n : Int) (k : Nat) (S : Nat → ByteArray) : Bool := prB x i n k S && decide (prS x i n k S = r)
theorem proved_any (r x : ByteArray) (i n : Int) (a : Option Addr) (k cap : Nat) (S : Nat → ByteArray) (w : World) (h : TxtAt w a k S) (hk : k ≤ 1048576) (hL : ∀ i, i < k → (S i).size ≤ maxLen) :
  Calls Tryz.prog 36 #[.string r, .string x, .int .i64 i, .int .i64 n, .slice a k cap] w fun e w' => e = .returned (.bool (pvB r x i n k S)) ∧ Below w.heap.size w w' := by
 have KP : Hid (Calls Tryz.prog 80 #[.string x, .int .i64 i, .int .i64 n, .slice a k cap] w fun e w' => e = .returned (.tuple #[.string (prS x i n k S), .bool (prB x i n k S)]) ∧ Below w.heap.size w w') := proofRoot_any x i n a k cap S w h hk hL
 unfold pvB
 clear h hL
 generalize prS x i n k S = z at KP
 generalize prB x i n k S = d at KP
 cases d with
 | false =>
  go_enter Tryz.func36, Tryz.ntmps36
  go_wp2_with fail
  refine KP.out.mono ?_
  rintro e w1 ⟨rfl, hb⟩
  go_wp2
  go_ret
  exact ⟨rfl, hb⟩
 | true =>
  by_cases hz : z = r
  ·subst hz
   have hq := ba_beq z
   go_enter Tryz.func36, Tryz.ntmps36
   go_wp2_with fail
   refine KP.out.mono ?_
   rintro e w1 ⟨rfl, hb⟩
   go_wp2
   go_ret
   exact ⟨by simp, hb⟩
  ·have hq := ba_ne hz
   have HZ : Hid (decide (z = r) = false) := by show _ = _; simpa using hz
   clear hz
   go_enter Tryz.func36, Tryz.ntmps36
   go_wp2_with fail
   refine KP.out.mono ?_
   rintro e w1 ⟨rfl, hb⟩
   go_wp2
   go_ret
   exact ⟨by rw [HZ.out]; rfl, hb⟩
theorem sProved_any (r x : ByteArray) (i n : Int) (a : Option Addr) (k cap : Nat) (S : Nat → ByteArray) (w : World) (h : TxtAt w a k S) (hk : k ≤ 1048576) (hL : ∀ i, i < k → (S i).size ≤ maxLen) :
  Calls Tryz.prog 61 #[.string r, .string x, .int .i64 i, .int .i64 n, .slice a k cap] w fun e w' => e = .returned (.bool (pvB r x i n k S)) ∧ Below w.heap.size w w' := by
 have KP : Hid (Calls Tryz.prog 95 #[.string x, .int .i64 i, .int .i64 n, .slice a k cap] w fun e w' => e = .returned (.tuple #[.string (prS x i n k S), .bool (prB x i n k S)]) ∧ Below w.heap.size w w') := sProofRoot_any x i n a k cap S w h hk hL
 unfold pvB
 clear h hL
 generalize prS x i n k S = z at KP
 generalize prB x i n k S = d at KP
 cases d with
 | false =>
  go_enter Tryz.func61, Tryz.ntmps61
  go_wp2_with fail
  refine KP.out.mono ?_
  rintro e w1 ⟨rfl, hb⟩
  go_wp2
  go_ret
  exact ⟨rfl, hb⟩
 | true =>
  by_cases hz : z = r
  ·subst hz
   have hq := ba_beq z
   go_enter Tryz.func61, Tryz.ntmps61
   go_wp2_with fail
   refine KP.out.mono ?_
   rintro e w1 ⟨rfl, hb⟩
   go_wp2
   go_ret
   exact ⟨by simp, hb⟩
  ·have hq := ba_ne hz
   have HZ : Hid (decide (z = r) = false) := by show _ = _; simpa using hz
   clear hz
   go_enter Tryz.func61, Tryz.ntmps61
   go_wp2_with fail
   refine KP.out.mono ?_
   rintro e w1 ⟨rfl, hb⟩
   go_wp2
   go_ret
   exact ⟨by rw [HZ.out]; rfl, hb⟩
end Go.Proofs.YtihklfkhjpnjkaaGreatDoor
