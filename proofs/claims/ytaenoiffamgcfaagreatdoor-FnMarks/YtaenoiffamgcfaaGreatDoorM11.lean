import Derived.Test.YtaenoiffamgcfaaGreatDoorM7
import Derived.Test.YtaenoiffamgcfaaGreatDoorM9
import Derived.Laws.StandIn
import Derived.Test.YtaenoiffamgcfaaGreatDoorM8
import Derived.Deep.AppendLies
import Derived.Deep.RegionHeld3
import Derived.Deep.RegionLaw
import Derived.Test.YtaenoiffamgcfaaGreatDoorM6
set_option maxHeartbeats 8000000
set_option maxRecDepth 2000
open Go.ChangeShapes Go.WideShapes Go.ChangeAt Go.RowKit
namespace Go.Proofs.YtaenoiffamgcfaaGreatDoor
abbrev HXD : ByteArray := ⟨#[48, 49, 50, 51, 52, 53, 54, 55, 56, 57, 97, 98, 99, 100, 101, 102]⟩
def dg (k : Nat) : Nat := if k < 10 then 48 + k else 87 + k
theorem dg_lt {k : Nat} (h : k < 16) : dg k < 256 := by unfold dg; split <;> omega
theorem hxd_at : ∀ k : Nat, k < 16 → (HXD.data.toList.getD k 0).toNat = dg k := by decide +kernel
theorem hxd_get (k : Nat) (h : k < (⟨#[48, 49, 50, 51, 52, 53, 54, 55, 56, 57, 97, 98, 99, 100, 101, 102]⟩ : ByteArray).size) : (⟨#[48, 49, 50, 51, 52, 53, 54, 55, 56, 57, 97, 98, 99, 100, 101, 102]⟩ : ByteArray)[k].toNat = dg k :=
 (tat_in HXD k h).symm.trans (hxd_at k h)
def hxAt (T : Nat → Nat) (i : Nat) : Nat := if i % 2 = 0 then dg (T (i / 2) / 16) else dg (T (i / 2) % 16)
def hxL (T : Nat → Nat) (n : Nat) : List Int := (List.range n).map fun i => ((hxAt T i : Nat) : Int)
theorem hxL_len (T : Nat → Nat) (n : Nat) : (hxL T n).length = n := by simp [hxL]
theorem hxL_snoc (T : Nat → Nat) (k : Nat) : hxL T (2 * (k + 1)) = hxL T (2 * k) ++ [((dg (T k / 16) : Nat) : Int), ((dg (T k % 16) : Nat) : Int)] := by
 unfold hxL
 rw [show 2 * (k + 1) = 2 * k + 1 + 1 by omega, List.range_succ, List.range_succ]
 simp [hxAt, show (2 * k + 1) / 2 = k by omega, show (2 * k) / 2 = k by omega]
def hexT (s : ByteArray) : ByteArray := strOfNums (hxL (tat s) (2 * s.size))
theorem and15 (c : Nat) (h : c < 256) : bits .and .u8 (c : Int) 15 = ((c % 16 : Nat) : Int) := by
 have := u8_and_nat c 15 h (by omega)
 rw [show ((15 : Nat) : Int) = 15 from rfl] at this
 rw [this, show (15 : Nat) = 2 ^ 4 - 1 from rfl, Nat.and_two_pow_sub_one_eq_mod]
theorem hexText_any (s : ByteArray) (w : World) (hs : s.size ≤ 1048576) :
  Calls Tryz.prog 31 #[.string s] w fun e w' => e = .returned (.string (hexT s)) ∧ Below w.heap.size w w' := by
 obtain ⟨i0, hi, hz0, hz1, hz2⟩ := info_parts Tryz.infoByte
 obtain ⟨n, hn⟩ : ∃ n, s.size = n := ⟨_, rfl⟩
 have HS : Hid (hexT s = strOfNums (hxL (tat s) (2 * n))) := by show _ = _; rw [hexT, hn]
 have h2n : IntKind.i64.wrap (2 * (n : Int)) = ((2 * n : Nat) : Int) := by rw [IntKind.wrap_i64]; omega
 go_enter Tryz.func31, Tryz.ntmps31
 go_wp2_with (at_make; refine wpList_make_own _ rfl _ _ 22 rfl w.heap.size 5 i0 (.int .u8 0) 1 Tryz.underlying22 hi hz0 hz1 .i64 .i64 _ (2 * n) rfl rfl (by first | rfl | assumption | (simp; done)) (by rw [hz2]; omega) (by unfold maxLen; omega) (Nat.le_refl _) ?_; intro w1 hown hgrow)
 have hb1 : Below w.heap.size w w1 := (Below.refl _ _).grown hgrow (Nat.le_refl _) (by simp)
 have K1 : Hid (w1.ownsRow w.heap.size 5 1 (.slice (some ⟨w.heap.size, 0, none⟩) 0 (2 * n)) 0 ((hxL (tat s) (2 * 0)).map (Value.int .u8))) := hown
 have KB1 : Hid (Below w.heap.size w w1) := hb1
 clear hown hgrow hb1 h2n
 go_loopw [3, 11] (fun v i wr => ∃ (k gg cap2 : Nat), k ≤ n ∧ i = .int .i64 k ∧ v = .slice (some ⟨gg, 0, none⟩) (2 * k) cap2 ∧ wr.ownsRow w.heap.size 5 1 (.slice (some ⟨gg, 0, none⟩) (2 * k) cap2) (2 * k) ((hxL (tat s) (2 * k)).map (Value.int .u8)) ∧ Below w.heap.size w wr) (fun _ i _ => n - (intOf i).toNat)
 case atStart => exact ⟨0, _, _, Nat.zero_le _, rfl, rfl, K1.out, KB1.out⟩
 case round =>
  obtain ⟨k, gg, cap2, hk, rfl, rfl, hown, hbel⟩ := hrel
  clear K1 KB1
  by_cases hlt : k < n
  ·have hlti : (k : Int) < (n : Int) := by omega
   have hks : k < s.size := by omega
   obtain ⟨c, hc⟩ : ∃ c, s[k].toNat = c := ⟨_, rfl⟩
   have hcl : c < 256 := by rw [← hc]; exact u8_lt _
   have HT : Hid (tat s k = c) := (tat_in s k hks).trans hc
   obtain ⟨p, HP⟩ : ∃ p, Hid (p = c / 16) := ⟨_, rfl⟩
   obtain ⟨q, HQ⟩ : ∃ q, Hid (q = c % 16) := ⟨_, rfl⟩
   have hp : p < 16 := by have := HP.out; omega
   have hq : q < 16 := by have := HQ.out; omega
   have e1 : (c : Int) / 16 = (p : Int) := by have := HP.out; omega
   have e2 : (c : Int) % 16 = (q : Int) := by have := HQ.out; omega
   have e3 : (c : Int).tdiv 16 = (p : Int) := by rw [Int.tdiv_eq_ediv_of_nonneg (by omega)]; exact e1
   have e4 : (c : Int).tmod 16 = (q : Int) := by rw [Int.tmod_eq_emod_of_nonneg (by omega)]; exact e2
   have e5 : bits .and .u8 (c : Int) 15 = (q : Int) := by rw [and15 c hcl, HQ.out]
   have e6 : IntKind.u8.wrap (p : Int) = (p : Int) := by rw [IntKind.wrap_u8]; omega
   have e7 : IntKind.u8.wrap (q : Int) = (q : Int) := by rw [IntKind.wrap_u8]; omega
   have d1 := hxd_get p hp
   have d2 := hxd_get q hq
   have HE : Hid (hxL (tat s) (2 * (k + 1)) = hxL (tat s) (2 * k) ++ [((dg p : Nat) : Int), ((dg q : Nat) : Int)]) := by show _ = _; rw [hxL_snoc, HT.out, ← HP.out, ← HQ.out]
   have x1 := dg_lt hp
   have x2 := dg_lt hq
   generalize dg p = y at d1 HE x1
   generalize dg q = z at d2 HE x2
   go_wp2_with fail
   have KO : Hid (wr.ownsRow w.heap.size 5 1 (.slice (some ⟨gg, 0, none⟩) (2 * k) cap2) (2 * k) ((hxL (tat s) (2 * k)).map (Value.int .u8))) := hown
   have KB : Hid (Below w.heap.size w wr) := hbel
   have hs2 := hbel.size
   have hgl := (World.ownsRow.lt KO.out _ rfl).1
   clear hown hbel
   have hpi : (p : Int) < 16 := by omega
   have hqi : (q : Int) < 16 := by omega
   have KA : Hid ((wr.drew.alloc (.cells #[.int .u8 (y : Int), .int .u8 (z : Int)] 5)).ownsRow w.heap.size 5 1 (.slice (some ⟨gg, 0, none⟩) (2 * k) cap2) (2 * k) ((hxL (tat s) (2 * k)).map (Value.int .u8))) := World.ownsRow.alloc (ownsRow_below KO.out (below_drew wr)) _
   have KW : Hid (∀ j u, [Value.int .u8 (y : Int), .int .u8 (z : Int)][j]? = some u → (wr.drew.alloc (.cells #[.int .u8 (y : Int), .int .u8 (z : Int)] 5)).cell? ((⟨wr.heap.size, 0, none⟩ : Addr).add j) = some u) := World.news_of_block (cs := #[.int .u8 (y : Int), .int .u8 (z : Int)]) (t := 5) (fr := (0, 0)) (heap_alloc_new wr.drew _)
   have KG : Hid (Below w.heap.size w (wr.drew.alloc (.cells #[.int .u8 (y : Int), .int .u8 (z : Int)] 5))) := KB.out.drew.alloc hs2 _
   go_region_held3 (fun _ => True) (trivial) ((refine step_append_row _ (by rfl) _ _ _ (by rfl) w.heap.size 5 i0 _ 1 1 Tryz.underlying22 hi hz0 hz1 hz2 rfl (by omega) gg (2 * k) cap2 _ (by rfl) KA.out ⟨wr.heap.size, 0, none⟩ 2 2 [.int .u8 (y : Int), .int .u8 (z : Int)] (by rfl) (by rfl) KW.out (by simp [Value.oneCell']) (by unfold maxLen; omega) (by omega) (by simp; omega) ?_; intro g3 cap3 w3 hown3 hgrow3; have KO3 : Hid (w3.ownsRow w.heap.size 5 1 (.slice (some ⟨g3, 0, none⟩) (2 * k + 2) cap3) (2 * k + 2) ((hxL (tat s) (2 * k)).map (Value.int .u8) ++ [.int .u8 (y : Int), .int .u8 (z : Int)])) := hown3; have KB3 : Hid (Below w.heap.size w w3) := KG.out.grown hgrow3 (by simp; omega) (fun j hj => by cases hj; exact hgl); clear hown3 hgrow3))
   all_goals
    have HO : Hid (w3.ownsRow w.heap.size 5 1 (.slice (some ⟨g3, 0, none⟩) (2 * k + 2) cap3) (2 * (k + 1)) ((hxL (tat s) (2 * (k + 1))).map (Value.int .u8))) := by
     rw [HE.out, List.map_append]
     exact KO3.out
    clear KO3 KO KA KW KG KB
    go_wp2
    go_roundw
    case rel => exact ⟨k + 1, g3, cap3, by omega, by go_num, rfl, HO.out, KB3.out⟩
    case measure => simp [intOf]; omega
  ·have e : k = n := by omega
   subst e
   have HL : Hid ((hxL (tat s) (2 * k)).length = 2 * k) := hxL_len _ _
   have hcv := run_convert_bytes_arg (P := Tryz.prog) wr 22 5 Tryz.underlying22 Tryz.underlying5 gg 0 (2 * k) cap2 (hxL (tat s) (2 * k)) HL.out (fun i hi => by
    rw [Nat.zero_add, hown.cellAt i (by omega)]
    simp [HL.out, hi]) 9 Tryz.underlying9
   go_wp2
   go_ret
   exact ⟨ret_str (by rw [HS.out]), hbel⟩
theorem sHexText_any (s : ByteArray) (w : World) (hs : s.size ≤ 1048576) :
  Calls Tryz.prog 35 #[.string s] w fun e w' => e = .returned (.string (hexT s)) ∧ Below w.heap.size w w' := by
 obtain ⟨i0, hi, hz0, hz1, hz2⟩ := info_parts Tryz.infoByte
 obtain ⟨n, hn⟩ : ∃ n, s.size = n := ⟨_, rfl⟩
 have HS : Hid (hexT s = strOfNums (hxL (tat s) (2 * n))) := by show _ = _; rw [hexT, hn]
 have K1 : Hid ((w.alloc (.cells #[] 5)).ownsRow w.heap.size 5 1 (.slice (some ⟨w.heap.size, 0, none⟩) 0 0) 0 ((hxL (tat s) (2 * 0)).map (Value.int .u8))) :=
  World.ownsRow_lit w #[] 0 (Nat.le_refl _) (by unfold maxLen; omega) rfl
 have KB1 : Hid (Below w.heap.size w (w.alloc (.cells #[] 5))) := (Below.refl _ _).alloc (Nat.le_refl _) _
 go_enter Tryz.func35, Tryz.ntmps35
 go_wp2
 go_loopw [3, 4] (fun v i wr => ∃ (k gg cap2 : Nat), k ≤ n ∧ i = .int .i64 k ∧ v = .slice (some ⟨gg, 0, none⟩) (2 * k) cap2 ∧ wr.ownsRow w.heap.size 5 1 (.slice (some ⟨gg, 0, none⟩) (2 * k) cap2) (2 * k) ((hxL (tat s) (2 * k)).map (Value.int .u8)) ∧ Below w.heap.size w wr) (fun _ i _ => n - (intOf i).toNat)
 case atStart => exact ⟨0, _, _, Nat.zero_le _, rfl, rfl, K1.out, KB1.out⟩
 case round =>
  obtain ⟨k, gg, cap2, hk, rfl, rfl, hown, hbel⟩ := hrel
  clear K1 KB1
  by_cases hlt : k < n
  ·have hlti : (k : Int) < (n : Int) := by omega
   have hks : k < s.size := by omega
   obtain ⟨c, hc⟩ : ∃ c, s[k].toNat = c := ⟨_, rfl⟩
   have hcl : c < 256 := by rw [← hc]; exact u8_lt _
   have HT : Hid (tat s k = c) := (tat_in s k hks).trans hc
   obtain ⟨p, HP⟩ : ∃ p, Hid (p = c / 16) := ⟨_, rfl⟩
   obtain ⟨q, HQ⟩ : ∃ q, Hid (q = c % 16) := ⟨_, rfl⟩
   have hp : p < 16 := by have := HP.out; omega
   have hq : q < 16 := by have := HQ.out; omega
   have e1 : (c : Int) / 16 = (p : Int) := by have := HP.out; omega
   have e2 : (c : Int) % 16 = (q : Int) := by have := HQ.out; omega
   have e3 : (c : Int).tdiv 16 = (p : Int) := by rw [Int.tdiv_eq_ediv_of_nonneg (by omega)]; exact e1
   have e4 : (c : Int).tmod 16 = (q : Int) := by rw [Int.tmod_eq_emod_of_nonneg (by omega)]; exact e2
   have e5 : bits .and .u8 (c : Int) 15 = (q : Int) := by rw [and15 c hcl, HQ.out]
   have e6 : IntKind.u8.wrap (p : Int) = (p : Int) := by rw [IntKind.wrap_u8]; omega
   have e7 : IntKind.u8.wrap (q : Int) = (q : Int) := by rw [IntKind.wrap_u8]; omega
   have d1 := hxd_get p hp
   have d2 := hxd_get q hq
   have HE : Hid (hxL (tat s) (2 * (k + 1)) = hxL (tat s) (2 * k) ++ [((dg p : Nat) : Int), ((dg q : Nat) : Int)]) := by show _ = _; rw [hxL_snoc, HT.out, ← HP.out, ← HQ.out]
   have x1 := dg_lt hp
   have x2 := dg_lt hq
   generalize dg p = y at d1 HE x1
   generalize dg q = z at d2 HE x2
   go_wp2_with fail
   have KO : Hid (wr.ownsRow w.heap.size 5 1 (.slice (some ⟨gg, 0, none⟩) (2 * k) cap2) (2 * k) ((hxL (tat s) (2 * k)).map (Value.int .u8))) := hown
   have KB : Hid (Below w.heap.size w wr) := hbel
   have hs2 := hbel.size
   have hgl := (World.ownsRow.lt KO.out _ rfl).1
   clear hown hbel
   have hpi : (p : Int) < 16 := by omega
   have hqi : (q : Int) < 16 := by omega
   have KA : Hid ((wr.drew.alloc (.cells #[.int .u8 (y : Int), .int .u8 (z : Int)] 5)).ownsRow w.heap.size 5 1 (.slice (some ⟨gg, 0, none⟩) (2 * k) cap2) (2 * k) ((hxL (tat s) (2 * k)).map (Value.int .u8))) := World.ownsRow.alloc (ownsRow_below KO.out (below_drew wr)) _
   have KW : Hid (∀ j u, [Value.int .u8 (y : Int), .int .u8 (z : Int)][j]? = some u → (wr.drew.alloc (.cells #[.int .u8 (y : Int), .int .u8 (z : Int)] 5)).cell? ((⟨wr.heap.size, 0, none⟩ : Addr).add j) = some u) := World.news_of_block (cs := #[.int .u8 (y : Int), .int .u8 (z : Int)]) (t := 5) (fr := (0, 0)) (heap_alloc_new wr.drew _)
   have KG : Hid (Below w.heap.size w (wr.drew.alloc (.cells #[.int .u8 (y : Int), .int .u8 (z : Int)] 5))) := KB.out.drew.alloc hs2 _
   go_region_held3 (fun _ => True) (trivial) ((refine step_append_row _ (by rfl) _ _ _ (by rfl) w.heap.size 5 i0 _ 1 1 Tryz.underlying22 hi hz0 hz1 hz2 rfl (by omega) gg (2 * k) cap2 _ (by rfl) KA.out ⟨wr.heap.size, 0, none⟩ 2 2 [.int .u8 (y : Int), .int .u8 (z : Int)] (by rfl) (by rfl) KW.out (by simp [Value.oneCell']) (by unfold maxLen; omega) (by omega) (by simp; omega) ?_; intro g3 cap3 w3 hown3 hgrow3; have KO3 : Hid (w3.ownsRow w.heap.size 5 1 (.slice (some ⟨g3, 0, none⟩) (2 * k + 2) cap3) (2 * k + 2) ((hxL (tat s) (2 * k)).map (Value.int .u8) ++ [.int .u8 (y : Int), .int .u8 (z : Int)])) := hown3; have KB3 : Hid (Below w.heap.size w w3) := KG.out.grown hgrow3 (by simp; omega) (fun j hj => by cases hj; exact hgl); clear hown3 hgrow3))
   all_goals
    have HO : Hid (w3.ownsRow w.heap.size 5 1 (.slice (some ⟨g3, 0, none⟩) (2 * k + 2) cap3) (2 * (k + 1)) ((hxL (tat s) (2 * (k + 1))).map (Value.int .u8))) := by
     rw [HE.out, List.map_append]
     exact KO3.out
    clear KO3 KO KA KW KG KB
    go_wp2
    go_roundw
    case rel => exact ⟨k + 1, g3, cap3, by omega, by go_num, rfl, HO.out, KB3.out⟩
    case measure => simp [intOf]; omega
  ·have e : k = n := by omega
   subst e
   have HL : Hid ((hxL (tat s) (2 * k)).length = 2 * k) := hxL_len _ _
   have hcv := run_convert_bytes_arg (P := Tryz.prog) wr 22 5 Tryz.underlying22 Tryz.underlying5 gg 0 (2 * k) cap2 (hxL (tat s) (2 * k)) HL.out (fun i hi => by
    rw [Nat.zero_add, hown.cellAt i (by omega)]
    simp [HL.out, hi]) 9 Tryz.underlying9
   go_wp2
   go_ret
   exact ⟨ret_str (by rw [HS.out]), hbel⟩
def hxd (s : ByteArray) : ByteArray := if s.size = 0 then ⟨#[45]⟩ else hexT s
def dsh (s : ByteArray) : ByteArray := if s.size = 0 then ⟨#[45]⟩ else s
theorem hexT_sz (s : ByteArray) : (hexT s).size = 2 * s.size := by unfold hexT; rw [strOfNums_size, hxL_len]
theorem dsh_hex (s : ByteArray) : dsh (hexT s) = hxd s := by
 unfold dsh hxd
 rw [hexT_sz]
 by_cases h : s.size = 0
 ·rw [if_pos (by omega), if_pos h]
 ·rw [if_neg (by omega), if_neg h]
theorem hxd_size (s : ByteArray) : (hxd s).size ≤ 2 * s.size + 1 := by
 unfold hxd
 split
 ·show 1 ≤ _; omega
 ·rw [hexT_sz]; omega
def pts (r : ByteArray) (k n i : Int) (b : ByteArray) (m : Nat) (S : Nat → ByteArray) : Nat → ByteArray
 | 0 => hxd r
 | 1 => its k
 | 2 => its n
 | 3 => its i
 | 4 => hxd b
 | 5 => its (m : Int)
 | j + 6 => hxd (S j)
def jp (P : Nat → ByteArray) : Nat → ByteArray
 | 0 => ByteArray.empty
 | n + 1 => if n = 0 then P 0 else jp P n ++ ⟨#[32]⟩ ++ P n
theorem jp_s (P : Nat → ByteArray) (n : Nat) (h : n ≠ 0) : jp P (n + 1) = jp P n ++ ⟨#[32]⟩ ++ P n := by show (if n = 0 then _ else _) = _; rw [if_neg h]
theorem join_jp (P : Nat → ByteArray) (n : Nat) : [32].intercalate ((List.range n).map fun i => (P i).data.toList) = (jp P n).data.toList := by
 induction n with
 | zero => rfl
 | succ n ih =>
  rw [List.range_succ, List.map_append, List.map_cons, List.map_nil, inter_snoc, ih]
  by_cases h : n = 0
  ·subst h
   rw [if_pos (show List.map (fun i => (P i).data.toList) (List.range 0) = [] from rfl)]
   rfl
  ·rw [if_neg (by simp; omega), jp_s _ _ h]
   simp [ByteArray.data_append]
noncomputable def pieceT (r : ByteArray) (k n i : Int) (b : ByteArray) (m : Nat) (S : Nat → ByteArray) : ByteArray := jp (pts r k n i b m S) (6 + m)
theorem jp6 (P : Nat → ByteArray) : jp P 6 = P 0 ++ ⟨#[32]⟩ ++ P 1 ++ ⟨#[32]⟩ ++ P 2 ++ ⟨#[32]⟩ ++ P 3 ++ ⟨#[32]⟩ ++ P 4 ++ ⟨#[32]⟩ ++ P 5 := by
 rw [jp_s _ 5 (by omega), jp_s _ 4 (by omega), jp_s _ 3 (by omega), jp_s _ 2 (by omega), jp_s _ 1 (by omega)]
 rfl
theorem jp_size {r : ByteArray} {k n i : Int} {b : ByteArray} {m : Nat} {S : Nat → ByteArray} (hk : (its k).size ≤ 21) (hn : (its n).size ≤ 21) (hi : (its i).size ≤ 21) (hm : (its (m : Int)).size ≤ 21) (c : Nat) :
  (jp (pts r k n i b m S) (6 + c)).size ≤ 2 * r.size + 2 * b.size + 2 * tot (fun i => (S i).size) c + 2 * c + 100 := by
 induction c with
 | zero =>
  rw [jp6]
  have h1 := hxd_size r
  have h2 := hxd_size b
  simp only [ByteArray.size_append, pts]
  have e : (⟨#[32]⟩ : ByteArray).size = 1 := rfl
  rw [e]
  simp only [tot]
  omega
 | succ c ih =>
  rw [show 6 + (c + 1) = (6 + c) + 1 by omega, jp_s _ _ (by omega)]
  simp only [ByteArray.size_append]
  have e : (⟨#[32]⟩ : ByteArray).size = 1 := rfl
  have h1 : (pts r k n i b m S (6 + c)).size ≤ 2 * (S c).size + 1 := by rw [show 6 + c = c + 6 by omega]; exact hxd_size _
  rw [e]
  show _ ≤ 2 * r.size + 2 * b.size + 2 * (tot (fun i => (S i).size) c + (S c).size) + 2 * (c + 1) + 100
  omega
theorem sHex07_any (s : ByteArray) (w : World) (hs : s.size ≤ 1048576) : Calls Tryz.prog 68 #[.string s] w fun e w' => e = .returned (.string (hxd s)) ∧ Below w.heap.size w w' := by
 by_cases h : s.size = 0
 ·have HE : Hid (hxd s = ⟨#[45]⟩) := if_pos h
  obtain rfl : s = ⟨#[]⟩ := by
   apply ByteArray.ext
   exact Array.eq_empty_of_size_eq_zero h
  rw [HE.out]
  clear hs h HE
  go_enter Tryz.func68, Tryz.ntmps68
  go_wp2
  go_ret
  exact ⟨rfl, Below.refl _ _⟩
 ·have HE : Hid (hxd s = hexT s) := if_neg h
  have KH : Hid (Calls Tryz.prog 35 #[.string s] w fun e w' => e = .returned (.string (hexT s)) ∧ Below w.heap.size w w') := sHexText_any s w hs
  have hne : s.toList.isEmpty = false := by
   rw [ByteArray.toList_eq]
   cases hd : s.data.toList with
   | nil =>
    refine absurd ?_ h
    show s.data.size = 0
    rw [← Array.length_toList, hd]
    rfl
   | cons x xs => rfl
  rw [HE.out]
  clear HE
  generalize hexT s = u at KH
  go_enter Tryz.func68, Tryz.ntmps68
  go_wp2_with fail
  refine Calls.mono KH.out ?_
  rintro e w1 ⟨rfl, b1⟩
  go_wp2
  go_ret
  exact ⟨rfl, b1⟩
theorem from_B {P : Program} {fn : FuncId} {args : Array Value} {v : Ending} {w0 w : World} (h0 : Below w0.heap.size w0 w)
  (h : Calls P fn args w fun e w' => e = v ∧ Below w.heap.size w w') : Calls P fn args w fun e w' => e = v ∧ Below w0.heap.size w0 w' :=
 h.mono fun _ _ ⟨he, hb⟩ => ⟨he, h0.trans (hb.mono h0.size)⟩
theorem tot_mono (L : Nat → Nat) {i n : Nat} (h : i ≤ n) : tot L i ≤ tot L n := by
 by_cases e : i = n
 ·subst e; exact Nat.le_refl _
 ·have := tot_le L (show i < n by omega); omega
theorem sPieceText_any (r : ByteArray) (k n i : Int) (b : ByteArray) (a : Option Addr) (m cap : Nat) (S : Nat → ByteArray) (w : World) (h : TxtAt w a m S) (hsum : r.size + b.size + (m + tot (fun i => (S i).size) m) ≤ 1048576)
  (hk : -9223372036854775808 ≤ k ∧ k ≤ 9223372036854775807) (hn : -9223372036854775808 ≤ n ∧ n ≤ 9223372036854775807) (hi : -9223372036854775808 ≤ i ∧ i ≤ 9223372036854775807) :
  Calls Tryz.prog 37 #[pcV r k n i b (.slice a m cap)] w fun e w' => e = .returned (.string (pieceT r k n i b m S)) ∧ Below w.heap.size w w' := by
 obtain ⟨w0, HW0⟩ : ∃ x, Hid (x = w.alloc (.cells (pcC r k n i b (.slice a m cap)) 32)) := ⟨_, rfl⟩
 obtain ⟨B, HB⟩ : ∃ x, Hid (x = w.heap.size) := ⟨_, rfl⟩
 have HR : Hid (Row w0 B 32 (pcC r k n i b (.slice a m cap))) := by show Row _ _ _ _; rw [HW0.out, HB.out]; exact Row.new w _ _
 have hb0 : Below w.heap.size w w0 := by rw [HW0.out]; exact (Below.refl _ _).alloc (Nat.le_refl _) _
 have KB0 : Hid (Below w.heap.size w w0) := hb0
 have KT : Hid (TxtAt w0 a m S) := h.below hb0
 have lB := HR.out.lt
 have q0 := HR.out.cell 0
 have q1 := HR.out.cell 1
 have q2 := HR.out.cell 2
 have q3 := HR.out.cell 3
 have q4 := HR.out.cell 4
 have q5 := HR.out.cell 5
 simp at q0 q1 q2 q3 q4 q5
 have KS : Hid (∀ W, Below w0.heap.size w0 W → W.cell? ⟨B, 0, none⟩ = some (.string r) ∧ W.cell? ⟨B, 1, none⟩ = some (.int .i64 k) ∧ W.cell? ⟨B, 2, none⟩ = some (.int .i64 n) ∧ W.cell? ⟨B, 3, none⟩ = some (.int .i64 i) ∧ W.cell? ⟨B, 4, none⟩ = some (.string b) ∧ W.cell? ⟨B, 5, none⟩ = some (.slice a m cap)) := fun W hW => ⟨(hW.cell (p := ⟨B, 0, none⟩) lB).trans q0, (hW.cell (p := ⟨B, 1, none⟩) lB).trans q1, (hW.cell (p := ⟨B, 2, none⟩) lB).trans q2, (hW.cell (p := ⟨B, 3, none⟩) lB).trans q3, (hW.cell (p := ⟨B, 4, none⟩) lB).trans q4, (hW.cell (p := ⟨B, 5, none⟩) lB).trans q5⟩
 have hz : Below w0.heap.size w0 w0.drew := ⟨rfl, rfl, rfl, Nat.le_refl _, fun _ _ => rfl⟩
 have KH : Hid (∀ (s : ByteArray) W, s.size ≤ 1048576 → Below w0.heap.size w0 W → Calls Tryz.prog 68 #[.string s] W fun e w' => e = .returned (.string (hxd s)) ∧ Below w0.heap.size w0 w') := fun s W hs hW => from_B hW (sHex07_any s W hs)
 have KD : Hid (∀ (z : Int) W, (-9223372036854775808 ≤ z ∧ z ≤ 9223372036854775807) → Below w0.heap.size w0 W → Calls Tryz.prog 54 #[.int .i64 z] W fun e w' => e = .returned (.string (its z)) ∧ Below w0.heap.size w0 w') := fun z W hz hW => (sDecI_any z W hz.1 hz.2).mono fun e w' ⟨he, hw⟩ => ⟨he, hw ▸ hW⟩
 have hr : r.size ≤ 1048576 := by omega
 have hbz : b.size ≤ 1048576 := by omega
 have hm : m ≤ 1048576 := by omega
 have hmi : -9223372036854775808 ≤ (m : Int) ∧ (m : Int) ≤ 9223372036854775807 := by omega
 have HJ : Hid (∀ c, c ≤ m → (jp (pts r k n i b m S) (6 + c)).size ≤ 5000000) := fun c hc => by
  have h1 := jp_size (r := r) (b := b) (S := S) (its_size k hk.1 hk.2).1 (its_size n hn.1 hn.2).1 (its_size i hi.1 hi.2).1 (its_size (m : Int) hmi.1 hmi.2).1 c
  have h2 : tot (fun i => (S i).size) c ≤ tot (fun i => (S i).size) m := tot_mono _ hc
  omega
 have HS : Hid (∀ c, c < m → (S c).size ≤ 1048576) := fun c hc => by have := tot_le (fun i => (S i).size) hc; show _ ≤ _; omega
 have HPS : Hid (∀ c, pts r k n i b m S (6 + c) = hxd (S c)) := fun c => by rw [show 6 + c = c + 6 by omega]; rfl
 obtain ⟨A, hA⟩ : ∃ x, hxd r = x := ⟨_, rfl⟩
 obtain ⟨K, hK⟩ : ∃ x, its k = x := ⟨_, rfl⟩
 obtain ⟨N, hN⟩ : ∃ x, its n = x := ⟨_, rfl⟩
 obtain ⟨I, hI⟩ : ∃ x, its i = x := ⟨_, rfl⟩
 obtain ⟨C, hC⟩ : ∃ x, hxd b = x := ⟨_, rfl⟩
 obtain ⟨M, hM⟩ : ∃ x, its (m : Int) = x := ⟨_, rfl⟩
 have HP6 : Hid (jp (pts r k n i b m S) 6 = A ++ ⟨#[32]⟩ ++ K ++ ⟨#[32]⟩ ++ N ++ ⟨#[32]⟩ ++ I ++ ⟨#[32]⟩ ++ C ++ ⟨#[32]⟩ ++ M) := by
  show _ = _
  rw [jp6, ← hA, ← hK, ← hN, ← hI, ← hC, ← hM]
  rfl
 have z0 : A.size ≤ 2097153 := by rw [← hA]; have := hxd_size r; omega
 have z1 : K.size ≤ 21 := by rw [← hK]; exact (its_size k hk.1 hk.2).1
 have z2 : N.size ≤ 21 := by rw [← hN]; exact (its_size n hn.1 hn.2).1
 have z3 : I.size ≤ 21 := by rw [← hI]; exact (its_size i hi.1 hi.2).1
 have z4 : C.size ≤ 2097153 := by rw [← hC]; have := hxd_size b; omega
 have z5 : M.size ≤ 21 := by rw [← hM]; exact (its_size (m : Int) hmi.1 hmi.2).1
 obtain ⟨a0, e0⟩ : ∃ x, A.size = x := ⟨_, rfl⟩
 obtain ⟨a1, e1⟩ : ∃ x, K.size = x := ⟨_, rfl⟩
 obtain ⟨a2, e2⟩ : ∃ x, N.size = x := ⟨_, rfl⟩
 obtain ⟨a3, e3⟩ : ∃ x, I.size = x := ⟨_, rfl⟩
 obtain ⟨a4, e4⟩ : ∃ x, C.size = x := ⟨_, rfl⟩
 obtain ⟨a5, e5⟩ : ∃ x, M.size = x := ⟨_, rfl⟩
 rw [e0] at z0
 rw [e1] at z1
 rw [e2] at z2
 rw [e3] at z3
 rw [e4] at z4
 rw [e5] at z5
 have sp : (⟨#[32]⟩ : ByteArray).size = 1 := rfl
 have t0 : (A ++ ⟨#[32]⟩ : ByteArray).size = a0 + 1 := by simp only [ByteArray.size_append, sp]; omega
 have c1 : (9223372036854775807 < a0 + 1) = False := by simp; omega
 have t2 : (A ++ ⟨#[32]⟩ ++ K : ByteArray).size = a0 + 1 + a1 := by simp only [ByteArray.size_append, sp]; omega
 have c3 : (9223372036854775807 < a0 + 1 + a1) = False := by simp; omega
 have t4 : (A ++ ⟨#[32]⟩ ++ K ++ ⟨#[32]⟩ : ByteArray).size = a0 + 1 + a1 + 1 := by simp only [ByteArray.size_append, sp]; omega
 have c5 : (9223372036854775807 < a0 + 1 + a1 + 1) = False := by simp; omega
 have t6 : (A ++ ⟨#[32]⟩ ++ K ++ ⟨#[32]⟩ ++ N : ByteArray).size = a0 + 1 + a1 + 1 + a2 := by simp only [ByteArray.size_append, sp]; omega
 have c7 : (9223372036854775807 < a0 + 1 + a1 + 1 + a2) = False := by simp; omega
 have t8 : (A ++ ⟨#[32]⟩ ++ K ++ ⟨#[32]⟩ ++ N ++ ⟨#[32]⟩ : ByteArray).size = a0 + 1 + a1 + 1 + a2 + 1 := by simp only [ByteArray.size_append, sp]; omega
 have c9 : (9223372036854775807 < a0 + 1 + a1 + 1 + a2 + 1) = False := by simp; omega
 have t10 : (A ++ ⟨#[32]⟩ ++ K ++ ⟨#[32]⟩ ++ N ++ ⟨#[32]⟩ ++ I : ByteArray).size = a0 + 1 + a1 + 1 + a2 + 1 + a3 := by simp only [ByteArray.size_append, sp]; omega
 have c11 : (9223372036854775807 < a0 + 1 + a1 + 1 + a2 + 1 + a3) = False := by simp; omega
 have t12 : (A ++ ⟨#[32]⟩ ++ K ++ ⟨#[32]⟩ ++ N ++ ⟨#[32]⟩ ++ I ++ ⟨#[32]⟩ : ByteArray).size = a0 + 1 + a1 + 1 + a2 + 1 + a3 + 1 := by simp only [ByteArray.size_append, sp]; omega
 have c13 : (9223372036854775807 < a0 + 1 + a1 + 1 + a2 + 1 + a3 + 1) = False := by simp; omega
 have t14 : (A ++ ⟨#[32]⟩ ++ K ++ ⟨#[32]⟩ ++ N ++ ⟨#[32]⟩ ++ I ++ ⟨#[32]⟩ ++ C : ByteArray).size = a0 + 1 + a1 + 1 + a2 + 1 + a3 + 1 + a4 := by simp only [ByteArray.size_append, sp]; omega
 have c15 : (9223372036854775807 < a0 + 1 + a1 + 1 + a2 + 1 + a3 + 1 + a4) = False := by simp; omega
 have t16 : (A ++ ⟨#[32]⟩ ++ K ++ ⟨#[32]⟩ ++ N ++ ⟨#[32]⟩ ++ I ++ ⟨#[32]⟩ ++ C ++ ⟨#[32]⟩ : ByteArray).size = a0 + 1 + a1 + 1 + a2 + 1 + a3 + 1 + a4 + 1 := by simp only [ByteArray.size_append, sp]; omega
 have c17 : (9223372036854775807 < a0 + 1 + a1 + 1 + a2 + 1 + a3 + 1 + a4 + 1) = False := by simp; omega
 have t18 : (A ++ ⟨#[32]⟩ ++ K ++ ⟨#[32]⟩ ++ N ++ ⟨#[32]⟩ ++ I ++ ⟨#[32]⟩ ++ C ++ ⟨#[32]⟩ ++ M : ByteArray).size = a0 + 1 + a1 + 1 + a2 + 1 + a3 + 1 + a4 + 1 + a5 := by simp only [ByteArray.size_append, sp]; omega
 have c19 : (9223372036854775807 < a0 + 1 + a1 + 1 + a2 + 1 + a3 + 1 + a4 + 1 + a5) = False := by simp; omega
 unfold pieceT
 generalize HPd : pts r k n i b m S = P at HJ HPS HP6 ⊢
 clear HPd hb0 h hsum
 go_enter Tryz.func37, Tryz.ntmps37
 go_wp2_with fail
 rw [← HW0.out, ← HB.out]
 go_region_held3 (fun w' => w'.cell? ⟨B, 0, none⟩ = some (.string r) ∧ w'.cell? ⟨B, 1, none⟩ = some (.int .i64 k) ∧ w'.cell? ⟨B, 2, none⟩ = some (.int .i64 n) ∧ w'.cell? ⟨B, 3, none⟩ = some (.int .i64 i) ∧ w'.cell? ⟨B, 4, none⟩ = some (.string b) ∧ w'.cell? ⟨B, 5, none⟩ = some (.slice a m cap)) (first | exact ⟨q0, q1, q2, q3, q4, q5⟩ | exact KS.out _ (by assumption)) ((first | (go_at_call 68; refine Calls.mono (KH.out _ _ (by assumption) (by assumption)) ?_; rintro e w' ⟨rfl, hz⟩) | (go_at_call 54; refine Calls.mono (KD.out _ _ (by assumption) (by assumption)) ?_; rintro e w' ⟨rfl, hz⟩)))
 rw [← HP6.out]
 have hBz : Hid (Below w0.heap.size w0 w') := hz
 clear t0 c1 t2 c3 t4 c5 t6 c7 t8 c9 t10 c11 t12 c13 t14 c15 t16 c17 t18 c19 e0 e1 e2 e3 e4 e5 z0 z1 z2 z3 z4 z5 hA hK hN hI hC hM hz q0 q1 q2 q3 q4 q5 HP6
 go_wp2
 go_loopw [3, 4] (fun vo vi wr => ∃ c : Nat, c ≤ m ∧ vo = .string (jp P (6 + c)) ∧ vi = .int .i64 (c : Int) ∧ Below w0.heap.size w0 wr) (fun _ vi _ => m - (intOf vi).toNat)
 case atStart => exact ⟨0, Nat.zero_le _, rfl, rfl, hBz.out⟩
 case round =>
  obtain ⟨c, hcm, rfl, rfl, hbel⟩ := hrel
  have q5 := (KS.out _ hbel).2.2.2.2.2
  by_cases hlt : c < m
  ·have hci : (c : Int) < (m : Int) := by omega
   obtain ⟨b1, f1, rfl, hc1⟩ := (KT.out.below hbel) c hlt
   have hsc := HS.out c hlt
   have hj := HJ.out c hcm
   have HN : Hid (jp P (6 + (c + 1)) = jp P (6 + c) ++ ⟨#[32]⟩ ++ hxd (S c)) := by show _ = _; rw [show 6 + (c + 1) = (6 + c) + 1 by omega, jp_s _ _ (by omega), HPS.out]
   generalize S c = sc at hc1 hsc HN
   have hu := hxd_size sc
   generalize jp P (6 + c) = J at hj HN
   obtain ⟨za, hza⟩ : ∃ x, J.size = x := ⟨_, rfl⟩
   rw [hza] at hj
   have t1 : (J ++ ⟨#[32]⟩ : ByteArray).size = za + 1 := by simp only [ByteArray.size_append, sp]; omega
   have KC : Hid (Calls Tryz.prog 68 #[.string sc] wr fun e w' => e = .returned (.string (hxd sc)) ∧ Below w0.heap.size w0 w') := KH.out sc wr hsc hbel
   generalize hxd sc = u at hu HN KC
   obtain ⟨zu, hzu⟩ : ∃ x, u.size = x := ⟨_, rfl⟩
   rw [hzu] at hu
   clear hbel
   go_wp2_with fail
   refine Calls.mono KC.out ?_
   rintro e w2 ⟨rfl, b2⟩
   have B2 : Hid (Below w0.heap.size w0 w2) := b2
   clear b2 q5 hc1 KC
   go_wp2
   go_roundw
   case rel => exact ⟨c + 1, by omega, by rw [HN.out], by go_num, B2.out⟩
   case measure => simp [intOf]; omega
  ·obtain rfl : c = m := by omega
   have HB2 : Hid (Below w.heap.size w wr) := below2 KB0.out hbel
   clear hbel
   go_wp2
   go_ret
   exact ⟨rfl, HB2.out⟩
theorem orDash_any (s : ByteArray) (w : World) : Calls Tryz.prog 59 #[.string s] w fun e w' => e = .returned (.string (dsh s)) ∧ w' = w := by
 by_cases h : s.size = 0
 ·have HE : Hid (dsh s = ⟨#[45]⟩) := if_pos h
  obtain rfl : s = ⟨#[]⟩ := by
   apply ByteArray.ext
   exact Array.eq_empty_of_size_eq_zero h
  rw [HE.out]
  clear h HE
  go_enter Tryz.func59, Tryz.ntmps59
  go_wp2
  go_ret
  exact ⟨rfl, rfl⟩
 ·have HE : Hid (dsh s = s) := if_neg h
  have hne : s.toList.isEmpty = false := by
   rw [ByteArray.toList_eq]
   cases hd : s.data.toList with
   | nil =>
    refine absurd ?_ h
    show s.data.size = 0
    rw [← Array.length_toList, hd]
    rfl
   | cons x xs => rfl
  rw [HE.out]
  clear HE h
  go_enter Tryz.func59, Tryz.ntmps59
  go_wp2
  go_ret
  exact ⟨rfl, rfl⟩
theorem lit6 (w : World) (B : Nat) (P : Nat → ByteArray) (hB : B ≤ w.heap.size) : OwnT (w.alloc (.cells #[.string (P 0), .string (P 1), .string (P 2), .string (P 3), .string (P 4), .string (P 5)] 9)) B (some ⟨w.heap.size, 0, none⟩) 6 6 P := by
 have := World.ownsRow_lit (e := 9) (size := 1) w #[.string (P 0), .string (P 1), .string (P 2), .string (P 3), .string (P 4), .string (P 5)] 6 hB (by unfold maxLen; omega) rfl
 exact this
theorem pieceText_any (r : ByteArray) (k n i : Int) (b : ByteArray) (a : Option Addr) (m cap : Nat) (S : Nat → ByteArray) (w : World) (h : TxtAt w a m S) (hsum : r.size + b.size + (m + tot (fun i => (S i).size) m) ≤ 1048576)
  (hk : -9223372036854775808 ≤ k ∧ k ≤ 9223372036854775807) (hn : -9223372036854775808 ≤ n ∧ n ≤ 9223372036854775807) (hi : -9223372036854775808 ≤ i ∧ i ≤ 9223372036854775807) (htab : TabOk w) :
  Calls Tryz.prog 33 #[pcV r k n i b (.slice a m cap)] w fun e w' => e = .returned (.string (pieceT r k n i b m S)) ∧ Below w.heap.size w w' := by
 obtain ⟨i0, hi0, hz0, hz1, hz2⟩ := info_parts Tryz.infoStr
 obtain ⟨w0, HW0⟩ : ∃ x, Hid (x = w.alloc (.cells (pcC r k n i b (.slice a m cap)) 32)) := ⟨_, rfl⟩
 obtain ⟨B, HB⟩ : ∃ x, Hid (x = w.heap.size) := ⟨_, rfl⟩
 have HR : Hid (Row w0 B 32 (pcC r k n i b (.slice a m cap))) := by show Row _ _ _ _; rw [HW0.out, HB.out]; exact Row.new w _ _
 have hb0 : Below w.heap.size w w0 := by rw [HW0.out]; exact (Below.refl _ _).alloc (Nat.le_refl _) _
 have KB0 : Hid (Below w.heap.size w w0) := hb0
 have KT : Hid (TxtAt w0 a m S) := h.below hb0
 have lB := HR.out.lt
 have q0 := HR.out.cell 0
 have q1 := HR.out.cell 1
 have q2 := HR.out.cell 2
 have q3 := HR.out.cell 3
 have q4 := HR.out.cell 4
 have q5 := HR.out.cell 5
 simp at q0 q1 q2 q3 q4 q5
 have KS : Hid (∀ W, Below w0.heap.size w0 W → W.cell? ⟨B, 0, none⟩ = some (.string r) ∧ W.cell? ⟨B, 1, none⟩ = some (.int .i64 k) ∧ W.cell? ⟨B, 2, none⟩ = some (.int .i64 n) ∧ W.cell? ⟨B, 3, none⟩ = some (.int .i64 i) ∧ W.cell? ⟨B, 4, none⟩ = some (.string b) ∧ W.cell? ⟨B, 5, none⟩ = some (.slice a m cap)) := fun W hW => ⟨(hW.cell (p := ⟨B, 0, none⟩) lB).trans q0, (hW.cell (p := ⟨B, 1, none⟩) lB).trans q1, (hW.cell (p := ⟨B, 2, none⟩) lB).trans q2, (hW.cell (p := ⟨B, 3, none⟩) lB).trans q3, (hW.cell (p := ⟨B, 4, none⟩) lB).trans q4, (hW.cell (p := ⟨B, 5, none⟩) lB).trans q5⟩
 have hz : Below w0.heap.size w0 w0.drew := ⟨rfl, rfl, rfl, Nat.le_refl _, fun _ _ => rfl⟩
 have HTb : Hid (TabOk w0) := htab.below hb0
 have KH : Hid (∀ (s : ByteArray) W, s.size ≤ 1048576 → Below w0.heap.size w0 W → Calls Tryz.prog 31 #[.string s] W fun e w' => e = .returned (.string (hexT s)) ∧ Below w0.heap.size w0 w') := fun s W hs hW => from_B hW (hexText_any s W hs)
 have KO : Hid (∀ (s : ByteArray) W, Below w0.heap.size w0 W → Calls Tryz.prog 59 #[.string s] W fun e w' => e = .returned (.string (dsh s)) ∧ Below w0.heap.size w0 w') := fun s W hW => (orDash_any s W).mono fun e w' ⟨he, hw⟩ => ⟨he, hw ▸ hW⟩
 have KD : Hid (∀ (z : Int) W, (-9223372036854775808 ≤ z ∧ z ≤ 9223372036854775807) → Below w0.heap.size w0 W → Calls Tryz.prog 60 #[.int .i64 z] W fun e w' => e = .returned (.string (its z)) ∧ Below w0.heap.size w0 w') := fun z W hz hW => (Tryz.strconv_Itoa z hz.1 hz.2 W (HTb.out.below hW)).mono fun e w' ⟨he, q, os, hw⟩ => ⟨he, hW.trans (by rw [hw]; exact (below_growD W _ _).mono hW.size)⟩
 have hr : r.size ≤ 1048576 := by omega
 have hbz : b.size ≤ 1048576 := by omega
 have hm : m ≤ 1048576 := by omega
 have hmi : -9223372036854775808 ≤ (m : Int) ∧ (m : Int) ≤ 9223372036854775807 := by omega
 have HJ : Hid ((jp (pts r k n i b m S) (6 + m)).size ≤ 5000000) := by
  have h1 := jp_size (r := r) (b := b) (S := S) (its_size k hk.1 hk.2).1 (its_size n hn.1 hn.2).1 (its_size i hi.1 hi.2).1 (its_size (m : Int) hmi.1 hmi.2).1 m
  show _ ≤ _
  omega
 have HS : Hid (∀ c, c < m → (S c).size ≤ 1048576) := fun c hc => by have := tot_le (fun i => (S i).size) hc; show _ ≤ _; omega
 have HPS : Hid (∀ c, pts r k n i b m S (6 + c) = hxd (S c)) := fun c => by rw [show 6 + c = c + 6 by omega]; rfl
 have HP6 : Hid (hxd r = pts r k n i b m S 0 ∧ its k = pts r k n i b m S 1 ∧ its n = pts r k n i b m S 2 ∧ its i = pts r k n i b m S 3 ∧ hxd b = pts r k n i b m S 4 ∧ its (m : Int) = pts r k n i b m S 5) := ⟨rfl, rfl, rfl, rfl, rfl, rfl⟩
 have hdr := dsh_hex r
 have hdb := dsh_hex b
 rw [HP6.out.1] at hdr
 rw [HP6.out.2.2.2.2.1] at hdb
 have i1 := HP6.out.2.1
 have i2 := HP6.out.2.2.1
 have i3 := HP6.out.2.2.2.1
 have i5 := HP6.out.2.2.2.2.2
 unfold pieceT
 generalize HPd : pts r k n i b m S = P at HJ HPS HP6 hdr hdb i1 i2 i3 i5 ⊢
 clear HPd hb0 h hsum htab HP6
 go_enter Tryz.func33, Tryz.ntmps33
 go_wp2_with fail
 rw [← HW0.out, ← HB.out]
 go_region_held3 (fun w' => w'.cell? ⟨B, 0, none⟩ = some (.string r) ∧ w'.cell? ⟨B, 1, none⟩ = some (.int .i64 k) ∧ w'.cell? ⟨B, 2, none⟩ = some (.int .i64 n) ∧ w'.cell? ⟨B, 3, none⟩ = some (.int .i64 i) ∧ w'.cell? ⟨B, 4, none⟩ = some (.string b) ∧ w'.cell? ⟨B, 5, none⟩ = some (.slice a m cap)) (first | exact ⟨q0, q1, q2, q3, q4, q5⟩ | exact KS.out _ (by assumption) | exact KS.out _ ((show Below w0.heap.size w0 _ by assumption).alloc (Below.size (by assumption)) _)) ((first | (go_at_call 31; refine Calls.mono (KH.out _ _ (by assumption) (by assumption)) ?_; rintro e w' ⟨rfl, hz⟩) | (go_at_call 59; refine Calls.mono (KO.out _ _ (by assumption)) ?_; rintro e w' ⟨rfl, hz⟩) | (go_at_call 60; refine Calls.mono (KD.out _ _ (by assumption) (by assumption)) ?_; rintro e w' ⟨rfl, hz⟩)))
 have hsw := hz.size
 obtain ⟨w1, HW1⟩ : ∃ x, Hid (x = w'.alloc (.cells #[.string (P 0), .string (P 1), .string (P 2), .string (P 3), .string (P 4), .string (P 5)] 9)) := ⟨_, rfl⟩
 obtain ⟨D, HD⟩ : ∃ x, Hid (x = w'.heap.size) := ⟨_, rfl⟩
 have HO1 : Hid (OwnT w1 w0.heap.size (some ⟨D, 0, none⟩) 6 6 P) := by show OwnT _ _ _ _ _ _; rw [HW1.out, HD.out]; exact lit6 w' _ P hsw
 have HB1 : Hid (Below w0.heap.size w0 w1) := by show Below _ _ _; rw [HW1.out]; exact hz.alloc hsw _
 have q5' := (KS.out _ HB1.out).2.2.2.2.2
 rw [← HW1.out, ← HD.out]
 clear hz q0 q1 q2 q3 q4 q5 hsw hdr hdb i1 i2 i3 i5
 go_wp2
 go_loopw [3, 31] (fun v vi wr => ∃ c g cc : Nat, c ≤ m ∧ v = .slice (some ⟨g, 0, none⟩) (6 + c) cc ∧ vi = .int .i64 (c : Int) ∧ OwnT wr w0.heap.size (some ⟨g, 0, none⟩) (6 + c) cc P ∧ Below w0.heap.size w0 wr) (fun _ vi _ => m - (intOf vi).toNat)
 case atStart => exact ⟨0, D, 6, Nat.zero_le _, rfl, rfl, HO1.out, HB1.out⟩
 case round =>
  obtain ⟨c, g, cc, hcm, rfl, rfl, ho, hbel⟩ := hrel
  clear HO1 HB1 q5'
  have KO2 : Hid (OwnT wr w0.heap.size (some ⟨g, 0, none⟩) (6 + c) cc P ∧ Below w0.heap.size w0 wr) := ⟨ho, hbel⟩
  by_cases hlt : c < m
  ·have hci : (c : Int) < (m : Int) := by omega
   obtain ⟨b1, f1, rfl, hc1⟩ := (KT.out.below hbel) c hlt
   have hsc := HS.out c hlt
   have HN : Hid (dsh (hexT (S c)) = P (6 + c)) := by show _ = _; rw [dsh_hex, HPS.out]
   generalize S c = sc at hc1 hsc HN
   have lg := World.ownsRow.lt ho _ rfl
   have K1 : Hid (Calls Tryz.prog 31 #[.string sc] wr fun e w' => e = .returned (.string (hexT sc)) ∧ Below w0.heap.size w0 w' ∧ Below wr.heap.size wr w') := (hexText_any sc wr hsc).mono fun e w' ⟨he, hb⟩ => ⟨he, hbel.trans (hb.mono hbel.size), hb⟩
   clear ho hbel
   generalize hexT sc = u at HN K1
   go_wp2_with fail
   refine Calls.mono K1.out ?_
   rintro e w2 ⟨rfl, b2, b2'⟩
   have O2 : Hid (OwnT w2 w0.heap.size (some ⟨g, 0, none⟩) (6 + c) cc P) := OwnT.below KO2.out.1 b2'
   clear b2' K1
   obtain ⟨z, HZ⟩ : ∃ z, Hid (P (6 + c) = z) := ⟨_, rfl⟩
   have K3 : Hid (Calls Tryz.prog 59 #[.string u] w2 fun e w' => e = .returned (.string z) ∧ w' = w2) := by
    have := orDash_any u w2
    rw [HN.out, HZ.out] at this
    exact this
   go_wp2_with fail
   refine Calls.mono K3.out ?_
   rintro e w' ⟨rfl, hw⟩
   obtain rfl := hw.symm
   have hs2 := b2.size
   clear hw K3
   go_wp2_with (at_builtin; refine wpList_append_all _ (by rfl) _ _ 30 (by rfl) w0.heap.size 9 i0 (.string ByteArray.empty) 1 16 Tryz.underlying30 hi0 hz0 hz1 hz2 rfl (by decide) g (6 + c) cc _ (by rfl) (World.ownsRow.alloc O2.out _) ⟨w2.heap.size, 0, none⟩ 1 1 [.string z] (by rfl) (by rfl) (World.news_of_block (cs := #[.string z]) (t := 9) (fr := (0, 0)) (heap_alloc_new w2 _)) (by simp [Value.oneCell']) (by unfold maxLen; omega) (by omega) (by simp; omega) ?_; intro g3 cap3 w7 hown3 hgrow3)
   have HL7 : Hid (OwnT w7 w0.heap.size (some ⟨g3, 0, none⟩) (6 + (c + 1)) cap3 P ∧ Below w0.heap.size w0 w7) := by
    refine ⟨?_, (b2.alloc hs2 _).grown (show World.grownBy _ w7 (some g) from hgrow3) (by simp; omega) (fun j hj => by cases hj; exact lg.1)⟩
    show World.ownsRow _ _ _ _ _ _ _
    rw [show 6 + (c + 1) = (6 + c) + 1 by omega, sL_snoc, HZ.out]
    exact hown3
   clear hown3 hgrow3 O2 b2
   go_roundw
   case rel => exact ⟨c + 1, g3, cap3, by omega, rfl, by go_num, HL7.out.1, HL7.out.2⟩
   case measure => simp [intOf]; omega
  ·obtain rfl : c = m := by omega
   have hcells : ∀ (j : Nat) x, ((List.range (6 + c)).map P)[j]? = some x → wr.cell? ⟨g, 0 + j, none⟩ = some (.string x) := by
    intro j x hx
    by_cases hj : j < 6 + c
    ·rw [Nat.zero_add, World.ownsRow.cellAt ho j (by omega), sL_get _ _ _ hj]
     simp [hj] at hx
     rw [hx]
    ·rw [List.getElem?_eq_none (by simp; omega)] at hx
     cases hx
   have hgl := (World.ownsRow.lt ho g rfl).2
   have hln : ((List.range (6 + c)).map P).length = 6 + c := by simp
   have hcc : 6 + c ≤ cc := by
    rcases ho.2 with ⟨e, _⟩ | ⟨g', c', cu, e, _, _, hn', _⟩
    ·cases e
    ·cases e; exact hn'
   have hjn : Lib.join (((List.range (6 + c)).map P).map (·.data.toList)) (⟨#[32]⟩ : ByteArray).data.toList = (jp P (6 + c)).data.toList := by
    rw [List.map_map]
    exact join_jp P (6 + c)
   have hJ := Tryz.strings_Join g 0 cc ((List.range (6 + c)).map P) ⟨#[32]⟩ wr hcells hgl (by rw [hln]; omega) (by rw [hln]; exact hcc) (by rw [hjn]; have := HJ.out; show _ ≤ _; rw [Array.length_toList]; exact Nat.le_trans this (by omega))
   rw [hln, hjn] at hJ
   have KJ : Hid (Calls Tryz.prog 61 #[.slice (some ⟨g, 0, none⟩) (6 + c) cc, .string ⟨#[32]⟩] wr fun e w' => e = .returned (.string (jp P (6 + c))) ∧ Below wr.heap.size wr w') := hJ
   have HB2 : Hid (Below w.heap.size w wr) := below2 KB0.out hbel
   clear hJ hcells hln hjn ho hbel hcc
   go_wp2_with fail
   refine Calls.mono KJ.out ?_
   rintro e w3 ⟨rfl, b3⟩
   go_wp2
   go_ret
   exact ⟨rfl, below2 HB2.out b3⟩
end Go.Proofs.YtaenoiffamgcfaaGreatDoor
