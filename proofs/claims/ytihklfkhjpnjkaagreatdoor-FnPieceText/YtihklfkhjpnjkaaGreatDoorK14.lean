import Derived.Test.YtihklfkhjpnjkaaGreatDoorK8
import Derived.Test.YtihklfkhjpnjkaaGreatDoorK9
import Derived.Laws.StandIn
import Derived.Deep.RegionHeld3
import Derived.Deep.AppendLies
import Derived.Deep.RegionLaw
set_option maxHeartbeats 8000000
set_option maxRecDepth 2000
open Go.ChangeShapes Go.WideShapes Go.ChangeAt Go.RowKit
namespace Go.Proofs.YtihklfkhjpnjkaaGreatDoor
abbrev HXD : ByteArray := ⟨#[48, 49, 50, 51, 52, 53, 54, 55, 56, 57, 97, 98, 99, 100, 101, 102]⟩
def dg (k : Nat) : Nat := if k < 10 then 48 + k else 87 + k
def ix (c : Nat) : Int := if 48 ≤ c ∧ c ≤ 57 then (c : Int) - 48 else if 97 ≤ c ∧ c ≤ 102 then (c : Int) - 87 else -1
theorem dg_lt {k : Nat} (h : k < 16) : dg k < 256 := by unfold dg; split <;> omega
theorem ix_dg {k : Nat} (h : k < 16) : ix (dg k) = (k : Int) := by unfold ix dg; split <;> split <;> omega
theorem ix_no {c : Nat} (h : ∀ j, j < 16 → dg j ≠ c) : ix c = -1 := by
 unfold ix
 split
 ·exact absurd (by unfold dg; split <;> omega) (h (c - 48) (by omega))
 ·split
  ·exact absurd (by unfold dg; split <;> omega) (h (c - 87) (by omega))
  ·rfl
theorem ix_lt (c : Nat) : ix c < 16 := by unfold ix; split <;> (try split) <;> omega
theorem hxd_at : ∀ k : Nat, k < 16 → (HXD.data.toList.getD k 0).toNat = dg k := by decide +kernel
theorem hxd_get (k : Nat) (h : k < (⟨#[48, 49, 50, 51, 52, 53, 54, 55, 56, 57, 97, 98, 99, 100, 101, 102]⟩ : ByteArray).size) : (⟨#[48, 49, 50, 51, 52, 53, 54, 55, 56, 57, 97, 98, 99, 100, 101, 102]⟩ : ByteArray)[k].toNat = dg k :=
 (tat_in HXD k h).symm.trans (hxd_at k h)
theorem first_ix : ∀ c : Nat, c < 256 → firstIdx HXD c.toUInt8 = ix c := by decide +kernel
theorem idx_run (c : Nat) (hc : c < 256) (w : World) : (callFunc 190 #[.string HXD, .int .u8 (c : Int)]).run Tryz.prog w = .ok (.value (.int .i64 (ix c))) w := by
 rw [run_callFunc_indexByte Tryz.func190 (by kernel_rfl) (by kernel_rfl) (by kernel_rfl) (by kernel_rfl), run_indexByte_string]
 simp only [Int.toNat_natCast, first_ix c hc, Result.andThen]
theorem lite_any (c : Nat) (hc : c < 256) (w : World) : Calls Tryz.prog 172 #[.string HXD, .int .u8 (c : Int)] w fun e w' => e = .returned (.int .i64 (ix c)) ∧ w' = w := by
 have hr := idx_run c hc
 go_enter Tryz.func172, Tryz.ntmps172
 go_wp2
 go_ret
 exact ⟨rfl, rfl⟩
theorem indexByte_any (c : Nat) (hc : c < 256) (w : World) : Calls Tryz.prog 151 #[.string HXD, .int .u8 (c : Int)] w fun e w' => e = .returned (.int .i64 (ix c)) ∧ w' = w := by
 go_enter Tryz.func151, Tryz.ntmps151
 go_wp2_with fail
 refine (lite_any c hc _).mono ?_
 rintro e w' ⟨rfl, hw⟩
 obtain rfl := hw.symm
 go_wp2
 go_ret
 exact ⟨rfl, rfl⟩
theorem digit_any (c : Nat) (w : World) : Calls Tryz.prog 135 #[.int .u8 (c : Int)] w fun e w' => e = .returned (.int .i64 (ix c)) ∧ w' = w := by
 go_enter Tryz.func135, Tryz.ntmps135
 go_wp2
 go_loop [3] (fun i => ∃ k : Nat, k ≤ 16 ∧ i = .int .i64 k ∧ ∀ j, j < k → dg j ≠ c) (fun i => 16 - (intOf i).toNat)
 case atStart => exact ⟨0, Nat.zero_le _, rfl, fun j hj => absurd hj (Nat.not_lt_zero _)⟩
 case round =>
  obtain ⟨k, hk, rfl, hno⟩ := hrel
  have KN : Hid (∀ j, j < k → dg j ≠ c) := hno
  clear hno
  by_cases hlt : k < 16
  ·have hd := hxd_get k hlt
   have hlti : (k : Int) < 16 := by omega
   by_cases he : dg k = c
   ·have hx : ix c = (k : Int) := by rw [← he]; exact ix_dg hlt
    have hc : (((dg k : Nat) : Int) == (c : Int)) = true := by simp [he]
    clear he
    go_wp2
    go_ret
    exact ⟨rfl, rfl⟩
   ·have hc : (((dg k : Nat) : Int) == (c : Int)) = false := by simp; omega
    have KM : Hid (∀ j, j < k + 1 → dg j ≠ c) := by
     intro j hj
     by_cases hjk : j = k
     ·rw [hjk]; exact he
     ·exact KN.out j (by omega)
    clear he
    go_wp2
    exact ⟨⟨k + 1, by omega, by go_num, KM.out⟩, by simp [intOf]; omega⟩
  ·obtain rfl : k = 16 := by omega
   have hx := ix_no KN.out
   go_wp2
   go_ret
   exact ⟨rfl, rfl⟩
def RowT (w : World) (B E : Nat) (a : Option Addr) (n cap : Nat) (S : Nat → ByteArray) : Prop := OwnT w B a n cap S ∧ ∀ x, a = some x → B ≤ x.block ∧ x.block < E
theorem OwnT.row {w : World} {B : Nat} {a : Option Addr} {n cap : Nat} {S : Nat → ByteArray} (h : OwnT w B a n cap S) : RowT w B w.heap.size a n cap S := by
 refine ⟨h, fun x e => ?_⟩
 subst e
 exact World.ownsRow.lt h x.block rfl
theorem ResT.row {w w' : World} {v : Value} {n : Nat} {S : Nat → ByteArray} (h : ResT w w' v n S) : ∃ a cap, v = .slice a n cap ∧ RowT w' w.heap.size w'.heap.size a n cap S := by
 obtain ⟨a, cap, rfl, ho⟩ := h
 exact ⟨a, cap, rfl, ho.row⟩
theorem RowT.below {w w' : World} {B E : Nat} {a : Option Addr} {n cap : Nat} {S : Nat → ByteArray} (h : RowT w B E a n cap S) (hb : Below w.heap.size w w') : RowT w' B E a n cap S := ⟨h.1.below hb, h.2⟩
theorem RowT.at {w : World} {B E : Nat} {a : Option Addr} {n cap : Nat} {S : Nat → ByteArray} (h : RowT w B E a n cap S) : TxtAt w a n S := h.1.at
theorem RowT.turned {w w' : World} {B E B' E' : Nat} {a : Option Addr} {n cap : Nat} {S : Nat → ByteArray} (h : RowT w B E a n cap S) (ht : TurnM w w' B' E') (hd : E ≤ B' ∨ E' ≤ B) : RowT w' B E a n cap S :=
 ⟨own_turn2 h.1 ht (fun x e hx => by have := h.2 x e; omega), h.2⟩
theorem TurnM.set (w : World) {B E g : Nat} (j : Nat) (v : Value) (hB : B ≤ g) (hE : g < E) : TurnM w (w.setCell ⟨g, j, none⟩ v) B E := ⟨rfl, rfl, rfl, by simp, fun i _ hi => heap_setCell_other w ⟨g, j, none⟩ i v (fun e => by have e' : i = g := e; omega)⟩
def hxAt (T : Nat → Nat) (i : Nat) : Nat := if i % 2 = 0 then dg (T (i / 2) / 16) else dg (T (i / 2) % 16)
def hxL (T : Nat → Nat) (n : Nat) : List Int := (List.range n).map fun i => ((hxAt T i : Nat) : Int)
theorem hxL_len (T : Nat → Nat) (n : Nat) : (hxL T n).length = n := by simp [hxL]
theorem hxL_snoc (T : Nat → Nat) (k : Nat) : hxL T (2 * (k + 1)) = hxL T (2 * k) ++ [((dg (T k / 16) : Nat) : Int), ((dg (T k % 16) : Nat) : Int)] := by
 unfold hxL
 rw [show 2 * (k + 1) = 2 * k + 1 + 1 by omega, List.range_succ, List.range_succ]
 simp [hxAt, show (2 * k + 1) / 2 = k by omega, show (2 * k) / 2 = k by omega]
def hexT (s : ByteArray) : ByteArray := strOfNums (hxL (tat s) (2 * s.size))
theorem and15 (c : Nat) (h : c < 256) : bits .and .u8 (c : Int) 15 = ((c % 16 : Nat) : Int) := by
 have := u8_and_nat c 15 h (by omega)
 rw [show ((15 : Nat) : Int) = 15 from rfl] at this
 rw [this, show (15 : Nat) = 2 ^ 4 - 1 from rfl, Nat.and_two_pow_sub_one_eq_mod]
theorem hexText_any (s : ByteArray) (w : World) (hs : s.size ≤ 1048576) :
  Calls Tryz.prog 42 #[.string s] w fun e w' => e = .returned (.string (hexT s)) ∧ Below w.heap.size w w' := by
 obtain ⟨i0, hi, hz0, hz1, hz2⟩ := info_parts Tryz.infoByte
 obtain ⟨n, hn⟩ : ∃ n, s.size = n := ⟨_, rfl⟩
 have HS : Hid (hexT s = strOfNums (hxL (tat s) (2 * n))) := by show _ = _; rw [hexT, hn]
 have h2n : IntKind.i64.wrap (2 * (n : Int)) = ((2 * n : Nat) : Int) := by rw [IntKind.wrap_i64]; omega
 go_enter Tryz.func42, Tryz.ntmps42
 go_wp2_with (at_make; refine wpList_make_own _ rfl _ _ 22 rfl w.heap.size 5 i0 (.int .u8 0) 1 Tryz.underlying22 hi hz0 hz1 .i64 .i64 _ (2 * n) rfl rfl (by first | rfl | assumption | (simp; done)) (by rw [hz2]; omega) (by unfold maxLen; omega) (Nat.le_refl _) ?_; intro w1 hown hgrow)
 have hb1 : Below w.heap.size w w1 := (Below.refl _ _).grown hgrow (Nat.le_refl _) (by simp)
 have K1 : Hid (w1.ownsRow w.heap.size 5 1 (.slice (some ⟨w.heap.size, 0, none⟩) 0 (2 * n)) 0 ((hxL (tat s) (2 * 0)).map (Value.int .u8))) := hown
 have KB1 : Hid (Below w.heap.size w w1) := hb1
 clear hown hgrow hb1 h2n
 go_loopw [3, 11] (fun v i wr => ∃ (k gg cap2 : Nat), k ≤ n ∧ i = .int .i64 k ∧ v = .slice (some ⟨gg, 0, none⟩) (2 * k) cap2 ∧ wr.ownsRow w.heap.size 5 1 (.slice (some ⟨gg, 0, none⟩) (2 * k) cap2) (2 * k) ((hxL (tat s) (2 * k)).map (Value.int .u8)) ∧ Below w.heap.size w wr) (fun _ i _ => n - (intOf i).toNat)
 case atStart => exact ⟨0, _, _, Nat.zero_le _, rfl, rfl, K1.out, KB1.out⟩
 case round =>
  obtain ⟨k, gg, cap2, hk, rfl, rfl, hown, hbel⟩ := hrel
  clear K1 KB1
  by_cases hlt : k < n
  ·have hlti : (k : Int) < (n : Int) := by omega
   have hks : k < s.size := by omega
   obtain ⟨c, hc⟩ : ∃ c, s[k].toNat = c := ⟨_, rfl⟩
   have hcl : c < 256 := by rw [← hc]; exact u8_lt _
   have HT : Hid (tat s k = c) := (tat_in s k hks).trans hc
   obtain ⟨p, HP⟩ : ∃ p, Hid (p = c / 16) := ⟨_, rfl⟩
   obtain ⟨q, HQ⟩ : ∃ q, Hid (q = c % 16) := ⟨_, rfl⟩
   have hp : p < 16 := by have := HP.out; omega
   have hq : q < 16 := by have := HQ.out; omega
   have e1 : (c : Int) / 16 = (p : Int) := by have := HP.out; omega
   have e2 : (c : Int) % 16 = (q : Int) := by have := HQ.out; omega
   have e3 : (c : Int).tdiv 16 = (p : Int) := by rw [Int.tdiv_eq_ediv_of_nonneg (by omega)]; exact e1
   have e4 : (c : Int).tmod 16 = (q : Int) := by rw [Int.tmod_eq_emod_of_nonneg (by omega)]; exact e2
   have e5 : bits .and .u8 (c : Int) 15 = (q : Int) := by rw [and15 c hcl, HQ.out]
   have e6 : IntKind.u8.wrap (p : Int) = (p : Int) := by rw [IntKind.wrap_u8]; omega
   have e7 : IntKind.u8.wrap (q : Int) = (q : Int) := by rw [IntKind.wrap_u8]; omega
   have d1 := hxd_get p hp
   have d2 := hxd_get q hq
   have HE : Hid (hxL (tat s) (2 * (k + 1)) = hxL (tat s) (2 * k) ++ [((dg p : Nat) : Int), ((dg q : Nat) : Int)]) := by show _ = _; rw [hxL_snoc, HT.out, ← HP.out, ← HQ.out]
   have x1 := dg_lt hp
   have x2 := dg_lt hq
   generalize dg p = y at d1 HE x1
   generalize dg q = z at d2 HE x2
   go_wp2_with fail
   have KO : Hid (wr.ownsRow w.heap.size 5 1 (.slice (some ⟨gg, 0, none⟩) (2 * k) cap2) (2 * k) ((hxL (tat s) (2 * k)).map (Value.int .u8))) := hown
   have KB : Hid (Below w.heap.size w wr) := hbel
   have hs2 := hbel.size
   have hgl := (World.ownsRow.lt KO.out _ rfl).1
   clear hown hbel
   have hpi : (p : Int) < 16 := by omega
   have hqi : (q : Int) < 16 := by omega
   have KA : Hid ((wr.drew.alloc (.cells #[.int .u8 (y : Int), .int .u8 (z : Int)] 5)).ownsRow w.heap.size 5 1 (.slice (some ⟨gg, 0, none⟩) (2 * k) cap2) (2 * k) ((hxL (tat s) (2 * k)).map (Value.int .u8))) := World.ownsRow.alloc (ownsRow_below KO.out (below_drew wr)) _
   have KW : Hid (∀ j u, [Value.int .u8 (y : Int), .int .u8 (z : Int)][j]? = some u → (wr.drew.alloc (.cells #[.int .u8 (y : Int), .int .u8 (z : Int)] 5)).cell? ((⟨wr.heap.size, 0, none⟩ : Addr).add j) = some u) := World.news_of_block (cs := #[.int .u8 (y : Int), .int .u8 (z : Int)]) (t := 5) (fr := (0, 0)) (heap_alloc_new wr.drew _)
   have KG : Hid (Below w.heap.size w (wr.drew.alloc (.cells #[.int .u8 (y : Int), .int .u8 (z : Int)] 5))) := KB.out.drew.alloc hs2 _
   go_region_held3 (fun _ => True) (trivial) ((refine step_append_row _ (by rfl) _ _ _ (by rfl) w.heap.size 5 i0 _ 1 1 Tryz.underlying22 hi hz0 hz1 hz2 rfl (by omega) gg (2 * k) cap2 _ (by rfl) KA.out ⟨wr.heap.size, 0, none⟩ 2 2 [.int .u8 (y : Int), .int .u8 (z : Int)] (by rfl) (by rfl) KW.out (by simp [Value.oneCell']) (by unfold maxLen; omega) (by omega) (by simp; omega) ?_; intro g3 cap3 w3 hown3 hgrow3; have KO3 : Hid (w3.ownsRow w.heap.size 5 1 (.slice (some ⟨g3, 0, none⟩) (2 * k + 2) cap3) (2 * k + 2) ((hxL (tat s) (2 * k)).map (Value.int .u8) ++ [.int .u8 (y : Int), .int .u8 (z : Int)])) := hown3; have KB3 : Hid (Below w.heap.size w w3) := KG.out.grown hgrow3 (by simp; omega) (fun j hj => by cases hj; exact hgl); clear hown3 hgrow3))
   all_goals
    have HO : Hid (w3.ownsRow w.heap.size 5 1 (.slice (some ⟨g3, 0, none⟩) (2 * k + 2) cap3) (2 * (k + 1)) ((hxL (tat s) (2 * (k + 1))).map (Value.int .u8))) := by
     rw [HE.out, List.map_append]
     exact KO3.out
    clear KO3 KO KA KW KG KB
    go_wp2
    go_roundw
    case rel => exact ⟨k + 1, g3, cap3, by omega, by go_num, rfl, HO.out, KB3.out⟩
    case measure => simp [intOf]; omega
  ·have e : k = n := by omega
   subst e
   have HL : Hid ((hxL (tat s) (2 * k)).length = 2 * k) := hxL_len _ _
   have hcv := run_convert_bytes_arg (P := Tryz.prog) wr 22 5 Tryz.underlying22 Tryz.underlying5 gg 0 (2 * k) cap2 (hxL (tat s) (2 * k)) HL.out (fun i hi => by
    rw [Nat.zero_add, hown.cellAt i (by omega)]
    simp [HL.out, hi]) 9 Tryz.underlying9
   go_wp2
   go_ret
   exact ⟨ret_str (by rw [HS.out]), hbel⟩
theorem sHexText_any (s : ByteArray) (w : World) (hs : s.size ≤ 1048576) :
  Calls Tryz.prog 94 #[.string s] w fun e w' => e = .returned (.string (hexT s)) ∧ Below w.heap.size w w' := by
 obtain ⟨i0, hi, hz0, hz1, hz2⟩ := info_parts Tryz.infoByte
 obtain ⟨n, hn⟩ : ∃ n, s.size = n := ⟨_, rfl⟩
 have HS : Hid (hexT s = strOfNums (hxL (tat s) (2 * n))) := by show _ = _; rw [hexT, hn]
 have K1 : Hid ((w.alloc (.cells #[] 5)).ownsRow w.heap.size 5 1 (.slice (some ⟨w.heap.size, 0, none⟩) 0 0) 0 ((hxL (tat s) (2 * 0)).map (Value.int .u8))) :=
  World.ownsRow_lit w #[] 0 (Nat.le_refl _) (by unfold maxLen; omega) rfl
 have KB1 : Hid (Below w.heap.size w (w.alloc (.cells #[] 5))) := (Below.refl _ _).alloc (Nat.le_refl _) _
 go_enter Tryz.func94, Tryz.ntmps94
 go_wp2
 go_loopw [3, 4] (fun v i wr => ∃ (k gg cap2 : Nat), k ≤ n ∧ i = .int .i64 k ∧ v = .slice (some ⟨gg, 0, none⟩) (2 * k) cap2 ∧ wr.ownsRow w.heap.size 5 1 (.slice (some ⟨gg, 0, none⟩) (2 * k) cap2) (2 * k) ((hxL (tat s) (2 * k)).map (Value.int .u8)) ∧ Below w.heap.size w wr) (fun _ i _ => n - (intOf i).toNat)
 case atStart => exact ⟨0, _, _, Nat.zero_le _, rfl, rfl, K1.out, KB1.out⟩
 case round =>
  obtain ⟨k, gg, cap2, hk, rfl, rfl, hown, hbel⟩ := hrel
  clear K1 KB1
  by_cases hlt : k < n
  ·have hlti : (k : Int) < (n : Int) := by omega
   have hks : k < s.size := by omega
   obtain ⟨c, hc⟩ : ∃ c, s[k].toNat = c := ⟨_, rfl⟩
   have hcl : c < 256 := by rw [← hc]; exact u8_lt _
   have HT : Hid (tat s k = c) := (tat_in s k hks).trans hc
   obtain ⟨p, HP⟩ : ∃ p, Hid (p = c / 16) := ⟨_, rfl⟩
   obtain ⟨q, HQ⟩ : ∃ q, Hid (q = c % 16) := ⟨_, rfl⟩
   have hp : p < 16 := by have := HP.out; omega
   have hq : q < 16 := by have := HQ.out; omega
   have e1 : (c : Int) / 16 = (p : Int) := by have := HP.out; omega
   have e2 : (c : Int) % 16 = (q : Int) := by have := HQ.out; omega
   have e3 : (c : Int).tdiv 16 = (p : Int) := by rw [Int.tdiv_eq_ediv_of_nonneg (by omega)]; exact e1
   have e4 : (c : Int).tmod 16 = (q : Int) := by rw [Int.tmod_eq_emod_of_nonneg (by omega)]; exact e2
   have e5 : bits .and .u8 (c : Int) 15 = (q : Int) := by rw [and15 c hcl, HQ.out]
   have e6 : IntKind.u8.wrap (p : Int) = (p : Int) := by rw [IntKind.wrap_u8]; omega
   have e7 : IntKind.u8.wrap (q : Int) = (q : Int) := by rw [IntKind.wrap_u8]; omega
   have d1 := hxd_get p hp
   have d2 := hxd_get q hq
   have HE : Hid (hxL (tat s) (2 * (k + 1)) = hxL (tat s) (2 * k) ++ [((dg p : Nat) : Int), ((dg q : Nat) : Int)]) := by show _ = _; rw [hxL_snoc, HT.out, ← HP.out, ← HQ.out]
   have x1 := dg_lt hp
   have x2 := dg_lt hq
   generalize dg p = y at d1 HE x1
   generalize dg q = z at d2 HE x2
   go_wp2_with fail
   have KO : Hid (wr.ownsRow w.heap.size 5 1 (.slice (some ⟨gg, 0, none⟩) (2 * k) cap2) (2 * k) ((hxL (tat s) (2 * k)).map (Value.int .u8))) := hown
   have KB : Hid (Below w.heap.size w wr) := hbel
   have hs2 := hbel.size
   have hgl := (World.ownsRow.lt KO.out _ rfl).1
   clear hown hbel
   have hpi : (p : Int) < 16 := by omega
   have hqi : (q : Int) < 16 := by omega
   have KA : Hid ((wr.drew.alloc (.cells #[.int .u8 (y : Int), .int .u8 (z : Int)] 5)).ownsRow w.heap.size 5 1 (.slice (some ⟨gg, 0, none⟩) (2 * k) cap2) (2 * k) ((hxL (tat s) (2 * k)).map (Value.int .u8))) := World.ownsRow.alloc (ownsRow_below KO.out (below_drew wr)) _
   have KW : Hid (∀ j u, [Value.int .u8 (y : Int), .int .u8 (z : Int)][j]? = some u → (wr.drew.alloc (.cells #[.int .u8 (y : Int), .int .u8 (z : Int)] 5)).cell? ((⟨wr.heap.size, 0, none⟩ : Addr).add j) = some u) := World.news_of_block (cs := #[.int .u8 (y : Int), .int .u8 (z : Int)]) (t := 5) (fr := (0, 0)) (heap_alloc_new wr.drew _)
   have KG : Hid (Below w.heap.size w (wr.drew.alloc (.cells #[.int .u8 (y : Int), .int .u8 (z : Int)] 5))) := KB.out.drew.alloc hs2 _
   go_region_held3 (fun _ => True) (trivial) ((refine step_append_row _ (by rfl) _ _ _ (by rfl) w.heap.size 5 i0 _ 1 1 Tryz.underlying22 hi hz0 hz1 hz2 rfl (by omega) gg (2 * k) cap2 _ (by rfl) KA.out ⟨wr.heap.size, 0, none⟩ 2 2 [.int .u8 (y : Int), .int .u8 (z : Int)] (by rfl) (by rfl) KW.out (by simp [Value.oneCell']) (by unfold maxLen; omega) (by omega) (by simp; omega) ?_; intro g3 cap3 w3 hown3 hgrow3; have KO3 : Hid (w3.ownsRow w.heap.size 5 1 (.slice (some ⟨g3, 0, none⟩) (2 * k + 2) cap3) (2 * k + 2) ((hxL (tat s) (2 * k)).map (Value.int .u8) ++ [.int .u8 (y : Int), .int .u8 (z : Int)])) := hown3; have KB3 : Hid (Below w.heap.size w w3) := KG.out.grown hgrow3 (by simp; omega) (fun j hj => by cases hj; exact hgl); clear hown3 hgrow3))
   all_goals
    have HO : Hid (w3.ownsRow w.heap.size 5 1 (.slice (some ⟨g3, 0, none⟩) (2 * k + 2) cap3) (2 * (k + 1)) ((hxL (tat s) (2 * (k + 1))).map (Value.int .u8))) := by
     rw [HE.out, List.map_append]
     exact KO3.out
    clear KO3 KO KA KW KG KB
    go_wp2
    go_roundw
    case rel => exact ⟨k + 1, g3, cap3, by omega, by go_num, rfl, HO.out, KB3.out⟩
    case measure => simp [intOf]; omega
  ·have e : k = n := by omega
   subst e
   have HL : Hid ((hxL (tat s) (2 * k)).length = 2 * k) := hxL_len _ _
   have hcv := run_convert_bytes_arg (P := Tryz.prog) wr 22 5 Tryz.underlying22 Tryz.underlying5 gg 0 (2 * k) cap2 (hxL (tat s) (2 * k)) HL.out (fun i hi => by
    rw [Nat.zero_add, hown.cellAt i (by omega)]
    simp [HL.out, hi]) 9 Tryz.underlying9
   go_wp2
   go_ret
   exact ⟨ret_str (by rw [HS.out]), hbel⟩
end Go.Proofs.YtihklfkhjpnjkaaGreatDoor
