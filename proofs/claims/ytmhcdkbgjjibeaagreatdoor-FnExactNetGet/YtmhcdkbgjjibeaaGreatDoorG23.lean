import Derived.Test.YtmhcdkbgjjibeaaGreatDoorG19
import Derived.Test.YtmhcdkbgjjibeaaGreatDoorG5
import Derived.Test.YtmhcdkbgjjibeaaGreatDoorG6
import Derived.Test.YtmhcdkbgjjibeaaGreatDoorG10
import Derived.Deep.CutRange
set_option maxHeartbeats 8000000
set_option maxRecDepth 2000
open Go.ChangeShapes Go.WideShapes Go.ChangeAt Go.RowKit
namespace Go.Proofs.YtmhcdkbgjjibeaaGreatDoor
theorem ints_news {w : World} {b off n : Nat} {zs : List Int} (h : IntsAt w (some ⟨b, off, none⟩) n zs) : ∀ (j : Nat) (u : Value), (zs.map (Value.int .i64))[j]? = some u → w.cell? ((⟨b, off, none⟩ : Addr).add j) = some u := fun j u hu => by
 have hj : j < zs.length := by
  have := (List.getElem?_eq_some_iff.1 hu).1
  simpa using this
 obtain ⟨b', off', e, hc⟩ := h.2 j (by rw [← h.1]; exact hj)
 cases e
 have ea : (⟨b, off, none⟩ : Addr).add j = ⟨b, off + j, none⟩ := by unfold Addr.add; split <;> simp_all
 rw [ea, hc, ← hu]
 simp [hj]
theorem ints_spot {w : World} {a : Addr} {n : Nat} {zs : List Int} (h : IntsAt w (some a) n zs) (hn : 0 < n) : a = ⟨a.block, a.off, none⟩ := by
 obtain ⟨b, off, e, _⟩ := h.2 0 hn
 cases e
 rfl
theorem slice_none (n c : Nat) (w : World) : Sem.run Tryz.prog (binOp BinOp.eql 23 (.slice none n c) (.slice none 0 0)) w = .ok (.bool true) w := by rfl
theorem slice_some (x : Addr) (n c : Nat) (w : World) : Sem.run Tryz.prog (binOp BinOp.eql 23 (.slice (some x) n c) (.slice none 0 0)) w = .ok (.bool false) w := by rfl
theorem cloneI_any (a : Option Addr) (cap : Nat) (zs : List Int) (w : World) (h : IntsAt w a zs.length zs) (hn : zs.length ≤ 1048576) :
  Calls Tryz.prog 118 #[.slice a zs.length cap] w fun e w' => ∃ a' c', e = .returned (.slice a' zs.length c') ∧ Ow w' w.heap.size (inD zs) (.slice a' zs.length c') (rng w.heap.size w'.heap.size) ∧ Below w.heap.size w w' := by
 obtain ⟨i0, hi, hz0, hz1, hz2⟩ : ∃ i0, Tryz.prog.info? 3 = some i0 ∧ i0.zero = some (.int .i64 0) ∧ i0.size = 1 ∧ i0.bytes = 8 := ⟨_, rfl, rfl, rfl, rfl⟩
 obtain ⟨n, HN⟩ : ∃ x, Hid (zs.length = x) := ⟨_, rfl⟩
 rw [HN.out] at h hn ⊢
 match a, h with
 | none, h =>
  have e0 : n = 0 := by
   by_cases h0 : n = 0
   ·exact h0
   ·obtain ⟨b, off, e, _⟩ := h.2 0 (by omega)
    cases e
  subst e0
  have ez : zs = [] := List.length_eq_zero_iff.1 HN.out
  subst ez
  have hsn := slice_none
  go_enter Tryz.func118, Tryz.ntmps118
  go_wp2
  go_ret
  exact ⟨none, 0, rfl, ow_ints (zs := []) (World.ownsRow_nil _ _ _ _) (fun x e => by cases e), Below.refl _ _⟩
 | some ad, h =>
  obtain ⟨b, off, sp⟩ := ad
  have HNW : Hid (∀ (j : Nat) (u : Value), (zs.map (Value.int .i64))[j]? = some u → w.cell? ((⟨b, off, sp⟩ : Addr).add j) = some u) := fun j u hu => by
   have hj : 0 < n := by
    have := (List.getElem?_eq_some_iff.1 hu).1
    have := HN.out
    simp at *
    omega
   have e := ints_spot h hj
   simp at e
   subst e
   exact ints_news h j u hu
  have HLL : Hid ((zs.map (Value.int .i64)).length = n * 1) := by show _ = _; simp [HN.out]
  have HO : Hid ((w.alloc (.cells #[] 3)).ownsRow w.heap.size 3 1 (.slice (some ⟨w.heap.size, 0, none⟩) 0 0) 0 []) := by
   have := World.ownsRow_lit (e := 3) (size := 1) (base := w.heap.size) w #[] 0 (by simp) (by unfold maxLen; omega) (by simp)
   exact this
  have HNA : Hid (∀ (j : Nat) (u : Value), (zs.map (Value.int .i64))[j]? = some u → (w.alloc (.cells #[] 3)).cell? ((⟨b, off, sp⟩ : Addr).add j) = some u) := fun j u hu => by
   have := HNW.out j u hu
   rw [((Below.refl w.heap.size w).alloc (Nat.le_refl _) _).cell (block_lt_of_cell this)]
   exact this
  have HB0 : Hid (Below w.heap.size w (w.alloc (.cells #[] 3))) := (Below.refl _ _).alloc (Nat.le_refl _) _
  clear h
  have hss := slice_some
  go_enter Tryz.func118, Tryz.ntmps118
  go_wp2_with (at_builtin; refine wpList_append_all _ (by rfl) _ _ 23 (by rfl) w.heap.size 3 i0 (.int .i64 0) 1 8 Tryz.underlying23 hi hz0 hz1 hz2 rfl (by decide) w.heap.size 0 0 [] (by rfl) ?_ ⟨b, off, sp⟩ n cap (zs.map (Value.int .i64)) (by rfl) ?_ ?_ (by simp [Value.oneCell']) (by unfold maxLen; omega) (by omega) (by simp) ?_; exact HO.out; exact HLL.out; exact HNA.out; intro g3 cap3 w3 hown3 hgrow3)
  have HB3 : Hid (Below w.heap.size w w3) := HB0.out.grown hgrow3 (by simp) (fun x hx => by cases hx; exact Nat.le_refl _)
  have HO3 : Hid (w3.ownsRow w.heap.size 3 1 (.slice (some ⟨g3, 0, none⟩) zs.length cap3) zs.length (zs.map (Value.int .i64))) := by
   show World.ownsRow _ _ _ _ _ _ _
   rw [HN.out]
   simpa using hown3
  have lg := World.ownsRow.lt HO3.out g3 rfl
  clear hown3 hgrow3
  go_wp2
  go_ret
  refine ⟨some ⟨g3, 0, none⟩, cap3, by simp, ?_, HB3.out⟩
  have := ow_ints HO3.out (F := rng w.heap.size w3.heap.size) (fun x e => by cases e; exact lg)
  rw [HN.out] at this
  exact this
def slZ : Sl := ⟨ByteArray.empty, ⟨ByteArray.empty, 0, 0, 0, ByteArray.empty, 0, fun _ => ByteArray.empty⟩, false, false, false, false, [], []⟩
def zcS : List Value := [.string ByteArray.empty, .string ByteArray.empty, .int .i64 0, .int .i64 0, .int .i64 0, .string ByteArray.empty, .slice none 0 0, .bool false, .bool false, .bool false, .bool false, .slice none 0 0, .slice none 0 0]
theorem Tryz.infoSlZ : (Tryz.prog.info? 76).map (fun i => (i.zero, i.size, i.bytes)) = some (some (.agg zcS.toArray), 13, 152) := by kernel_rfl
def H3 (g6 g11 g12 q x : Nat) : Prop := (q = 6 ∧ x = g6) ∨ (q = 11 ∧ x = g11) ∨ (q = 12 ∧ x = g12)
theorem ow_slot {w : World} {B g6 g11 g12 : Nat} {s : Sl} {v6 v11 v12 : Value} (h6 : Ow w B (txD s.p.m s.p.S) v6 (fun g => g = g6)) (h11 : Ow w B (inD s.ze) v11 (fun g => g = g11)) (h12 : Ow w B (inD s.zr) v12 (fun g => g = g12)) (q : Nat) (hq : q < 13) :
  Ow w B (slD s q) ((slC s v6 v11 v12).toList.getD q undef) (H3 g6 g11 g12 q) := by
 match q, hq with
 | 0, _ | 1, _ | 2, _ | 3, _ | 4, _ | 5, _ | 7, _ | 8, _ | 9, _ | 10, _ => rfl
 | 6, _ => exact Ow.mono h6 fun g hg => .inl ⟨rfl, hg⟩
 | 11, _ => exact Ow.mono h11 fun g hg => .inr (.inl ⟨rfl, hg⟩)
 | 12, _ => exact Ow.mono h12 fun g hg => .inr (.inr ⟨rfl, hg⟩)
theorem ow_slZ (w : World) (B q : Nat) (hq : q < 13) : Ow w B (slD slZ q) (zcS.getD q undef) (fun _ => False) := by
 match q, hq with
 | 0, _ | 1, _ | 2, _ | 3, _ | 4, _ | 5, _ | 7, _ | 8, _ | 9, _ | 10, _ => rfl
 | 6, _ => exact Ow.nil _ _ _ _ _ _
 | 11, _ => exact Ow.nil _ _ _ _ _ _
 | 12, _ => exact Ow.nil _ _ _ _ _ _
theorem toSls_any (a : Option Addr) (n cap : Nat) (S : Nat → Sl) (w : World) (h : Rd w (slsD n S) (.slice a n cap)) (hn : n ≤ 1048576) (hs : ∀ i, i < n → SlS (S i)) :
  Calls Tryz.prog 63 #[.slice a n cap] w fun e w' => e = .returned (.slice (some ⟨w.heap.size, 0, none⟩) n n) ∧ Ow w' w.heap.size (slsD n S) (.slice (some ⟨w.heap.size, 0, none⟩) n n) (rng w.heap.size w'.heap.size) ∧ Below w.heap.size w w' := by
 obtain ⟨i0, hi, hz0, hz1, hz2⟩ := info_parts Tryz.infoSlZ
 have KH : Hid (Rd w (slsD n S) (.slice a n cap)) := h
 have HS : Hid (∀ i, i < n → SlS (S i)) := hs
 clear h hs
 go_enter Tryz.func63, Tryz.ntmps63
 go_wp2_with (at_make; refine wpList_make_full _ rfl _ _ 79 rfl w.heap.size 76 i0 (.agg zcS.toArray) 13 Tryz.underlying79 hi hz0 hz1 .i64 .i64 _ _ n rfl rfl rfl rfl (by rw [hz2]; omega) (by unfold maxLen; omega) (Nat.le_refl _) ?_; intro w1 hown hgrow)
 have hb1 : Below w.heap.size w w1 := (Below.refl _ _).grown hgrow (Nat.le_refl _) (by simp)
 obtain ⟨g, HG⟩ : ∃ x, Hid (x = w.heap.size) := ⟨_, rfl⟩
 have ho1 : Ow w1 w.heap.size (.lst 76 13 n (fun i => if i < 0 then slD (S i) else slD slZ)) (.slice (some ⟨g, 0, none⟩) n n) (rng w.heap.size w1.heap.size) := by
  have e : (madeCells (Value.agg zcS.toArray).cells (n * 13)).toList = cL 13 (fun _ q => zcS.getD q undef) n := made_cL (zs := zcS) (by simp [zcS])
  rw [e] at hown
  rw [HG.out]
  have := ow_made (F := rng w.heap.size w1.heap.size) hown (fun q hq => ow_slZ w1 w.heap.size q hq) ⟨Nat.le_refl _, (World.ownsRow.lt hown _ rfl).2⟩
  exact this.congr (fun i q _ _ => by simp)
 have gB : g = w.heap.size := HG.out
 rw [← HG.out]
 have HB : Hid (w.heap.size ≤ g) := by show _ ≤ _; omega
 clear hown hgrow gB
 go_loopw [4] (fun i wr => ∃ k : Nat, k ≤ n ∧ i = .int .i64 k ∧ Ow wr w.heap.size (.lst 76 13 n (fun i => if i < k then slD (S i) else slD slZ)) (.slice (some ⟨g, 0, none⟩) n n) (rng w.heap.size wr.heap.size) ∧ Below w.heap.size w wr) (fun i _ => n - (intOf i).toNat)
 case atStart => exact ⟨0, Nat.zero_le _, rfl, ho1, hb1⟩
 case round =>
  obtain ⟨c, hc, rfl, hown, hbel⟩ := hrel
  clear ho1 hb1
  by_cases hlt : c < n
  ·have hlti : (c : Int) < (n : Int) := by omega
   obtain ⟨b1, f1, y1, p6, p11, p12, q6, q11, q12, rfl, hc1, e1, ht1, he1, hz1'⟩ := slot_row (KH.out.below hbel) hlt
   have KT0 := toSl_any (S c) p6 p11 p12 q6 q11 q12 wr ht1 he1 hz1' (HS.out c hlt)
   rw [← e1] at KT0
   have KT : Hid _ := KT0
   clear KT0
   obtain ⟨_, x⟩ := one_row (sz := 12) wr (Below.refl _ _) hc1
   have R1 : Hid (wr.rangeAt b1 (f1 + c * 13) [y1 0, y1 1, y1 2, y1 3, y1 4, y1 5, y1 6, y1 7, y1 8, y1 9, y1 10, y1 11, y1 12]) := range13 x
   have KO : Hid (Ow wr w.heap.size (.lst 76 13 n (fun i => if i < c then slD (S i) else slD slZ)) (.slice (some ⟨g, 0, none⟩) n n) (rng w.heap.size wr.heap.size) ∧ Below w.heap.size w wr) := ⟨hown, hbel⟩
   have lg : g < wr.heap.size := by
    obtain ⟨a', cap', c', G', e', ho', _⟩ := hown
    cases e'
    exact (World.ownsRow.lt ho' g rfl).2
   clear hc1 e1 ht1 he1 hz1' x hbel hown
   go_wp2_with (refine wpList_load_mid (by rfl) 141 _ (by rfl) b1 (f1 + c * 13) (by rfl) [y1 0, y1 1, y1 2, y1 3, y1 4, y1 5, y1 6, y1 7, y1 8, y1 9, y1 10, y1 11, y1 12] _ ?_ Tryz.underlying141 (by rfl) Tryz.infoSlL ?_; exact R1.out)
   refine Calls.mono KT.out ?_
   rintro e w2 ⟨g6, g11, g12, rfl, l1, l2, l3, l4, o6, o11, o12, b2⟩
   have O2 := KO.out.1.below b2
   have TH : Hid (w2.there g (c * 13) 13) := by
    obtain ⟨a', cap', c', G', e', ho', _⟩ := O2
    cases e'
    intro j hj
    refine ⟨?_, World.ownsRow.frozenAt ho' _⟩
    rw [World.ownsRow.cellAt ho' _ (mid_lt hlt hj), cL_get _ _ _ _ _ hlt hj]
    rfl
   have hsz := KO.out.2.size
   have HO : Hid (Ow (w2.setCells g (c * 13) (slC (S c) (.slice (some ⟨g6, 0, none⟩) (S c).p.m (S c).p.m) (.slice (some ⟨g11, 0, none⟩) (S c).ze.length (S c).ze.length) (.slice (some ⟨g12, 0, none⟩) (S c).zr.length (S c).zr.length)).toList) w.heap.size (.lst 76 13 n (fun i => if i < c + 1 then slD (S i) else slD slZ)) (.slice (some ⟨g, 0, none⟩) n n) (rng w.heap.size (w2.setCells g (c * 13) (slC (S c) (.slice (some ⟨g6, 0, none⟩) (S c).p.m (S c).p.m) (.slice (some ⟨g11, 0, none⟩) (S c).ze.length (S c).ze.length) (.slice (some ⟨g12, 0, none⟩) (S c).zr.length (S c).zr.length)).toList).heap.size)) := by
    rw [size_setCells]
    refine Ow.congr (Ow.store (d := slD (S c)) O2 hlt rfl (fun q hq => ow_slot (o6.base hsz) (o11.base hsz) (o12.base hsz) q hq) ?_ ?_ ?_ ?_) ?_
    ·intro q x _ hx hf
     have h2 := hf.2
     rcases hx with ⟨_, rfl⟩ | ⟨_, rfl⟩ | ⟨_, rfl⟩ <;> omega
    ·intro q q' x _ _ hx hx'
     rcases hx with ⟨_, rfl⟩ | ⟨_, rfl⟩ | ⟨_, rfl⟩ <;> rcases hx' with ⟨_, h⟩ | ⟨_, h⟩ | ⟨_, h⟩ <;> omega
    ·intro x hx
     have := b2.size
     exact ⟨hx.1, by have := hx.2; omega⟩
    ·intro q x _ hx
     rcases hx with ⟨_, rfl⟩ | ⟨_, rfl⟩ | ⟨_, rfl⟩ <;> exact ⟨by omega, by omega⟩
    ·intro i q _ _
     by_cases e : i = c
     ·subst e; simp
     ·by_cases e2 : i < c
      ·simp [e, e2, show i < c + 1 by omega]
      ·simp [e, e2, show ¬ i < c + 1 by omega]
   have HBe : Hid (Below w.heap.size w (w2.setCells g (c * 13) (slC (S c) (.slice (some ⟨g6, 0, none⟩) (S c).p.m (S c).p.m) (.slice (some ⟨g11, 0, none⟩) (S c).ze.length (S c).ze.length) (.slice (some ⟨g12, 0, none⟩) (S c).zr.length (S c).zr.length)).toList)) := below_setCells (below2 KO.out.2 b2) HB.out _ _
   clear O2 b2 o6 o11 o12 KT R1 KO
   go_wp2_with (refine wpList_store_mid (by rfl) 76 _ _ (by rfl) g (c * 13) (slC (S c) (.slice (some ⟨g6, 0, none⟩) (S c).p.m (S c).p.m) (.slice (some ⟨g11, 0, none⟩) (S c).ze.length (S c).ze.length) (.slice (some ⟨g12, 0, none⟩) (S c).zr.length (S c).zr.length)) (by rfl) (by rfl) ?_ Tryz.infoSl (by simp [Value.oneCell']) ?_; exact TH.out)
   go_roundw
   case rel => exact ⟨c + 1, by omega, by go_num, HO.out, HBe.out⟩
   case measure => simp [intOf]; omega
  ·obtain rfl : c = n := by omega
   have HO : Hid (Ow wr w.heap.size (slsD c S) (.slice (some ⟨g, 0, none⟩) c c) (rng w.heap.size wr.heap.size)) := hown.congr (fun i q hi _ => by simp [hi])
   clear hown
   go_wp2
   go_ret
   exact ⟨by rw [← HG.out]; rfl, by rw [← HG.out]; rw [HG.out]; have := HO.out; rw [HG.out] at this; exact this, hbel⟩
theorem toNd_any (id f : Int) (a : Option Addr) (n cap : Nat) (S : Nat → Sl) (w : World) (h : Rd w (slsD n S) (.slice a n cap)) (hn : n ≤ 1048576) (hs : ∀ i, i < n → SlS (S i)) :
  Calls Tryz.prog 39 #[.agg #[.int .i64 id, .int .i64 f, .slice a n cap]] w fun e w' => ∃ g, e = .returned (.agg #[.int .i64 id, .int .i64 f, .slice (some ⟨g, 0, none⟩) n n]) ∧ Ow w' w.heap.size (slsD n S) (.slice (some ⟨g, 0, none⟩) n n) (rng w.heap.size w'.heap.size) ∧ Below w.heap.size w w' := by
 obtain ⟨A, HA⟩ : ∃ x, Hid (x = w.heap.size) := ⟨_, rfl⟩
 obtain ⟨D, HD⟩ : ∃ x, Hid (x = w.heap.size + 1) := ⟨_, rfl⟩
 obtain ⟨V, HV⟩ : ∃ x, Hid (x = w.heap.size + 1 + 1) := ⟨_, rfl⟩
 obtain ⟨w0, HW0⟩ : ∃ x, Hid (x = ((w.alloc (.cells #[.int .i64 id, .int .i64 f, .slice a n cap] 64)).alloc (.cells #[.int .i64 0, .int .i64 0, .slice none 0 0] 81)).alloc (.cells #[.int .i64 id, .int .i64 f, .slice none 0 0] 81)) := ⟨_, rfl⟩
 have RD : Hid (Row w0 D 81 #[.int .i64 0, .int .i64 0, .slice none 0 0]) := by
  show Row _ _ _ _
  rw [HW0.out, HD.out]
  have := Row.new (w.alloc (.cells #[.int .i64 id, .int .i64 f, .slice a n cap] 64)) #[.int .i64 0, .int .i64 0, .slice none 0 0] 81
  exact Row.alloc (by simpa using this) _
 have RV : Hid (Row w0 V 81 #[.int .i64 id, .int .i64 f, .slice none 0 0]) := by
  show Row _ _ _ _
  rw [HW0.out, HV.out]
  have := Row.new ((w.alloc (.cells #[.int .i64 id, .int .i64 f, .slice a n cap] 64)).alloc (.cells #[.int .i64 0, .int .i64 0, .slice none 0 0] 81)) #[.int .i64 id, .int .i64 f, .slice none 0 0] 81
  simpa using this
 have hb0 : Below w.heap.size w w0 := by rw [HW0.out]; exact (((Below.refl _ _).alloc (Nat.le_refl _) _).alloc (by simp) _).alloc (by simp; omega) _
 have hVD : Hid (V ≠ D ∧ w.heap.size ≤ D ∧ w.heap.size ≤ V ∧ V < w0.heap.size ∧ D < w0.heap.size) := by
  have h1 := HV.out; have h2 := HD.out
  exact ⟨by omega, by omega, by omega, RV.out.lt, RD.out.lt⟩
 have KB0 : Hid (Below w.heap.size w w0) := hb0
 have KT : Hid _ := toSls_any a n cap S w0 (h.below hb0) hn hs
 obtain ⟨g, HG⟩ : ∃ x, Hid (x = w0.heap.size) := ⟨_, rfl⟩
 clear h hs hb0
 go_enter Tryz.func39, Tryz.ntmps39
 go_wp2_with fail
 rw [← HW0.out, ← HV.out, ← HD.out, ← HA.out]
 refine Calls.mono KT.out ?_
 rintro e w1 ⟨rfl, O1, b1⟩
 rw [← HG.out] at O1
 rw [← HG.out]
 rw [HG.out] at O1
 have V1 := RV.out.below b1 RV.out.lt
 have D1 : Hid (Row w1 D 81 #[.int .i64 0, .int .i64 0, .slice none 0 0]) := RD.out.below b1 RD.out.lt
 have y2 := V1.cell 2
 have f2 := V1.free 2
 simp at y2
 obtain ⟨w2, HW2⟩ : ∃ x, Hid (x = w1.setCell ⟨V, 2, none⟩ (.slice (some ⟨g, 0, none⟩) n n)) := ⟨_, rfl⟩
 have V2 : Hid (Row w2 V 81 #[.int .i64 id, .int .i64 f, .slice (some ⟨g, 0, none⟩) n n]) := by show Row _ _ _ _; rw [HW2.out]; exact V1.set 2 _
 have D2 : Hid (Row w2 D 81 #[.int .i64 0, .int .i64 0, .slice none 0 0]) := by show Row _ _ _ _; rw [HW2.out]; exact D1.out.other 2 _ (Ne.symm hVD.out.1)
 obtain ⟨w3, HW3⟩ : ∃ x, Hid (x = w2.setRow D #[.int .i64 id, .int .i64 f, .slice (some ⟨g, 0, none⟩) n n]) := ⟨_, rfl⟩
 have D3 : Hid (Row w3 D 81 #[.int .i64 id, .int .i64 f, .slice (some ⟨g, 0, none⟩) n n]) := by show Row _ _ _ _; rw [HW3.out]; exact D2.out.row
 have B3 : Hid (Below w.heap.size w w3) := by
  show Below _ _ _
  rw [HW3.out, HW2.out]
  exact belowSetRow (Below.setCell (below2 KB0.out b1) hVD.out.2.2.1 _) hVD.out.2.1 _
 have O3 : Hid (Ow w3 w.heap.size (slsD n S) (.slice (some ⟨g, 0, none⟩) n n) (rng w.heap.size w3.heap.size)) := by
  have h1 : w3.heap.size = w1.heap.size := by rw [HW3.out, HW2.out]; simp
  have h2 := KB0.out.size
  have h3 := (O1.base h2).frame (w' := w3) (fun x hx _ => by
   have l1 := hx.1
   have l2 := hVD.out.2.2.2.1
   have l3 := hVD.out.2.2.2.2
   rw [HW3.out, setRow_other _ _ _ _ (by omega), HW2.out]
   exact heap_setCell_other w1 ⟨V, 2, none⟩ x _ (by show x ≠ V; omega))
  rw [HG.out]
  exact h3.mono (fun x hx => ⟨by have := hx.1; omega, by have := hx.2; omega⟩)
 clear V1 b1 O1
 go_wp2_with (first | (rw [← HW2.out]; refine wpList_load_row (by rfl) 81 _ (by rfl) V (by rfl) 81 _ (0, 0) _ V2.out Tryz.underlying81 (by rfl) Tryz.infoNd ?_; clear y2 f2) | (refine wpList_store_row (by rfl) 81 _ _ (by rfl) D #[.int .i64 id, .int .i64 f, .slice (some ⟨g, 0, none⟩) n n] (by rfl) (by rfl) 81 #[.int .i64 0, .int .i64 0, .slice none 0 0] ?_ Tryz.infoNd rfl (by simp [Value.oneCell']) ?_; exact D2.out; rw [← HW3.out]))
 refine bodyPost_ret (v := .agg #[.int .i64 id, .int .i64 f, .slice (some ⟨g, 0, none⟩) n n]) (results_cell_row Tryz.results39 _ _ D 81 _ (0, 0) _ (by rfl) D3.out Tryz.underlying81 (by rfl) Tryz.infoNd) rfl ⟨g, rfl, O3.out, B3.out⟩
theorem copiedP_any (r : ByteArray) (k n i : Int) (b : ByteArray) (a : Option Addr) (m c : Nat) (S : Nat → ByteArray) (w : World) (h : TxtAt w a m S) (hm : m ≤ 1048576) (hr : r.size ≤ 1048576) (hb : b.size ≤ 1048576) (hS : ∀ i, i < m → (S i).size ≤ 1048576) :
  Calls Tryz.prog 117 #[pcV r k n i b (.slice a m c)] w fun e w' => ∃ g, e = .returned (pcV r k n i b (.slice (some ⟨g, 0, none⟩) m m)) ∧ OwnT w' w.heap.size (some ⟨g, 0, none⟩) m m S ∧ Below w.heap.size w w' := by
 obtain ⟨i0, hi, hz0, hz1, hz2⟩ := info_parts Tryz.infoStr
 obtain ⟨A, HA⟩ : ∃ x, Hid (x = w.heap.size) := ⟨_, rfl⟩
 obtain ⟨D, HD⟩ : ∃ x, Hid (x = w.heap.size + 1) := ⟨_, rfl⟩
 obtain ⟨w0, HW0⟩ : ∃ x, Hid (x = (w.alloc (.cells (pcC r k n i b (.slice a m c)) 49)).alloc (.cells #[.string ⟨#[]⟩, .int .i64 0, .int .i64 0, .int .i64 0, .string ⟨#[]⟩, .slice none 0 0] 49)) := ⟨_, rfl⟩
 have RA : Hid (Row w0 A 49 (pcC r k n i b (.slice a m c))) := by show Row _ _ _ _; rw [HW0.out, HA.out]; exact Row.alloc (Row.new w _ _) _
 have RD : Hid (Row w0 D 49 #[.string ⟨#[]⟩, .int .i64 0, .int .i64 0, .int .i64 0, .string ⟨#[]⟩, .slice none 0 0]) := by
  show Row _ _ _ _
  rw [HW0.out, HD.out]
  have := Row.new (w.alloc (.cells (pcC r k n i b (.slice a m c)) 49)) #[.string ⟨#[]⟩, .int .i64 0, .int .i64 0, .int .i64 0, .string ⟨#[]⟩, .slice none 0 0] 49
  simpa using this
 have hb0 : Below w.heap.size w w0 := by rw [HW0.out]; exact ((Below.refl _ _).alloc (Nat.le_refl _) _).alloc (by simp) _
 have KB0 : Hid (Below w.heap.size w w0) := hb0
 have hAD : Hid (A ≠ D ∧ w.heap.size ≤ A ∧ w.heap.size ≤ D) := ⟨by have := HA.out; have := HD.out; omega, by have := HA.out; omega, by have := HD.out; omega⟩
 have KH : Hid (TxtAt w a m S) := h
 have KCr : Hid (∀ W, Calls Tryz.prog 116 #[.string r] W fun e w' => e = .returned (.string r) ∧ Below W.heap.size W w') := fun W => clone_any r W hr
 have KCb : Hid (∀ W, Calls Tryz.prog 116 #[.string b] W fun e w' => e = .returned (.string b) ∧ Below W.heap.size W w') := fun W => clone_any b W hb
 have KCS : Hid (∀ i, i < m → ∀ W, Calls Tryz.prog 116 #[.string (S i)] W fun e w' => e = .returned (.string (S i)) ∧ Below W.heap.size W w') := fun i hi W => clone_any (S i) W (hS i hi)
 clear h hb0 hr hb hS
 go_enter Tryz.func117, Tryz.ntmps117
 go_wp2_with fail
 rw [← HW0.out, ← HD.out, ← HA.out]
 go_cut [] from 6 to 13 (fun wx => Hid (Row wx A 49 (pcC r k n i b (.slice a m c)) ∧ Row wx D 49 #[.string ⟨#[]⟩, .int .i64 0, .int .i64 0, .int .i64 0, .string ⟨#[]⟩, .slice none 0 0] ∧ Below w.heap.size w wx))
 case first =>
  have lA := RA.out.lt
  have lD := RD.out.lt
  have q0 := RA.out.cell 0
  have q1 := RA.out.cell 1
  have q2 := RA.out.cell 2
  have q3 := RA.out.cell 3
  have q4 := RA.out.cell 4
  have q5 := RA.out.cell 5
  have f0 := RA.out.free 0
  have f4 := RA.out.free 4
  simp at q0 q1 q2 q3 q4 q5
  have KTW : Hid (∀ W, Below w0.heap.size w0 W → Row W A 49 (pcC r k n i b (.slice a m c)) ∧ Row W D 49 #[.string ⟨#[]⟩, .int .i64 0, .int .i64 0, .int .i64 0, .string ⟨#[]⟩, .slice none 0 0] ∧ Below w.heap.size w W) := fun W hW => ⟨RA.out.below hW lA, RD.out.below hW lD, below2 KB0.out hW⟩
  have KQ : Hid (∀ W, Below w0.heap.size w0 W → W.cell? ⟨A, 0, none⟩ = some (.string r) ∧ W.cell? ⟨A, 1, none⟩ = some (.int .i64 k) ∧ W.cell? ⟨A, 2, none⟩ = some (.int .i64 n) ∧ W.cell? ⟨A, 3, none⟩ = some (.int .i64 i) ∧ W.cell? ⟨A, 4, none⟩ = some (.string b) ∧ W.cell? ⟨A, 5, none⟩ = some (.slice a m c)) := fun W hW => by
   have := (KTW.out W hW).1
   have z0 := this.cell 0
   have z1 := this.cell 1
   have z2 := this.cell 2
   have z3 := this.cell 3
   have z4 := this.cell 4
   have z5 := this.cell 5
   simp at z0 z1 z2 z3 z4 z5
   exact ⟨z0, z1, z2, z3, z4, z5⟩
  have KF : Hid (∀ W, Below w0.heap.size w0 W → W.frozen? ⟨A, 0, none⟩ = false ∧ W.frozen? ⟨A, 4, none⟩ = false) := fun W hW => ⟨(KTW.out W hW).1.free 0, (KTW.out W hW).1.free 4⟩
  go_region_held3 (fun w' => w'.cell? ⟨A, 0, none⟩ = some (.string r) ∧ w'.cell? ⟨A, 1, none⟩ = some (.int .i64 k) ∧ w'.cell? ⟨A, 2, none⟩ = some (.int .i64 n) ∧ w'.cell? ⟨A, 3, none⟩ = some (.int .i64 i) ∧ w'.cell? ⟨A, 4, none⟩ = some (.string b) ∧ w'.cell? ⟨A, 5, none⟩ = some (.slice a m c)) (go_keep) ((first | (guard_hyp d1; go_at_call 116; refine Calls.mono (KCb.out _) ?_; rintro e w8 ⟨rfl, b8⟩; have b08 := below2 b07 b8; obtain ⟨t0, t1, t2, t3, t4, t5⟩ := KQ.out _ b08; have g0 := (KF.out _ b08).1; have g4 := (KF.out _ b08).2; have RB8 := (KTW.out _ b08).1.set 0 (.string r); have RC8 := RB8.set 4 (.string b); have s0 := RB8.cell 0; have v0 := RC8.cell 0; have s1 := RB8.cell 1; have v1 := RC8.cell 1; have s2 := RB8.cell 2; have v2 := RC8.cell 2; have s3 := RB8.cell 3; have v3 := RC8.cell 3; have s4 := RB8.cell 4; have v4 := RC8.cell 4; have s5 := RB8.cell 5; have v5 := RC8.cell 5; simp at s0 v0 s1 v1 s2 v2 s3 v3 s4 v4 s5 v5; clear RB8 RC8) | (go_at_call 116; refine Calls.mono (KCr.out _) ?_; rintro e w7 ⟨rfl, b7'⟩; have b07 := below_of_drew b7'; clear b7'; have d1 : Hid True := trivial; obtain ⟨p0, p1, p2, p3, p4, p5⟩ := KQ.out _ b07)))
  all_goals
   obtain ⟨RA8, RD8, B8⟩ := KTW.out _ b08
   go_wp2_with fail
   go_meet
   exact ⟨(RA8.set 0 _).set 4 _, (RD8.other 0 _ (Ne.symm hAD.out.1)).other 4 _ (Ne.symm hAD.out.1), (B8.setCell hAD.out.2.1 _).setCell hAD.out.2.1 _⟩
 obtain ⟨RAc, RDc, Bc⟩ := hcut.out
 clear hcut RA RD KB0 HW0 KCr KCb
 have RA : Hid (Row wc A 49 (pcC r k n i b (.slice a m c))) := RAc
 have RD : Hid (Row wc D 49 #[.string ⟨#[]⟩, .int .i64 0, .int .i64 0, .int .i64 0, .string ⟨#[]⟩, .slice none 0 0]) := RDc
 have KBc : Hid (Below w.heap.size w wc) := Bc
 have x5 := RAc.cell 5
 simp at x5
 obtain ⟨g, HG⟩ : ∃ x, Hid (x = wc.heap.size) := ⟨_, rfl⟩
 clear RAc RDc Bc
 go_wp2_with (at_make; refine wpList_make_full _ rfl _ _ 46 rfl wc.heap.size 9 i0 (.string ByteArray.empty) 1 Tryz.underlying46 hi hz0 hz1 .i64 .i64 _ _ m rfl rfl rfl rfl (by rw [hz2]; omega) (by unfold maxLen; omega) (Nat.le_refl _) ?_; intro w1 hown hgrow; have ho1 : OwnT w1 wc.heap.size (some ⟨wc.heap.size, 0, none⟩) m m (fun i => if i < 0 then S i else ByteArray.empty) := (by have e : sL (fun i => if i < 0 then S i else ByteArray.empty) m = List.replicate m (Value.string ByteArray.empty) := (by rw [← sL_empty]; exact sL_congr (fun i _ => by simp)); unfold OwnT; rw [e]; simpa [Value.cells, toList_madeCells_one] using hown); have hb1 : Below wc.heap.size wc w1 := (Below.refl _ _).grown hgrow (Nat.le_refl _) (by simp); have y5 := (hb1.cell (p := ⟨A, 5, none⟩) RA.out.lt).trans x5)
 rw [← HG.out] at ho1
 rw [← HG.out]
 clear hown hgrow
 go_loopw [21] (fun vi wr => ∃ q : Nat, q ≤ m ∧ vi = .int .i64 (q : Int) ∧ Hid (OwnT wr g (some ⟨g, 0, none⟩) m m (fun i => if i < q then S i else ByteArray.empty)) ∧ Below wc.heap.size wc wr) (fun vi _ => m - (intOf vi).toNat)
 case atStart => exact ⟨0, Nat.zero_le _, rfl, ho1, hb1⟩
 case round =>
  obtain ⟨q, hq, rfl, hown, hbel⟩ := hrel
  clear ho1 hb1 y5 x5
  by_cases hlt : q < m
  ·obtain ⟨b', off', rfl, hc⟩ := (KH.out.below KBc.out).below hbel q hlt
   have hlti : (q : Int) < (m : Int) := by omega
   have KC1 : Hid _ := KCS.out q hlt
   obtain ⟨s, HS⟩ : ∃ x, Hid (S q = x) := ⟨_, rfl⟩
   rw [HS.out] at hc KC1
   have KB1 : Hid (Below wc.heap.size wc wr) := hbel
   clear hbel
   go_wp2_with fail
   refine Calls.mono (KC1.out _) ?_
   rintro e w2 ⟨rfl, b2⟩
   have hown2 : OwnT w2 g (some ⟨g, 0, none⟩) m m (fun i => if i < q then S i else ByteArray.empty) := hown.out.below b2
   obtain ⟨old, hold⟩ : ∃ v, w2.cell? ⟨g, q, none⟩ = some v := by
    rw [World.ownsRow.cellAt hown2 q (by omega)]
    exact ⟨_, sL_get _ _ _ hlt⟩
   have hfr := World.ownsRow.frozenAt hown2 q
   have hst := World.ownsRow.stored hown2 q (.string s)
   rw [sL_set _ _ _ _ hlt] at hst
   have HO : Hid (OwnT (w2.setCell ⟨g, q, none⟩ (.string s)) g (some ⟨g, 0, none⟩) m m (fun i => if i < q + 1 then S i else ByteArray.empty)) := OwnT.congr hst.1 (fun i _ => by
    by_cases e : i = q
    ·simp [e, HS.out]
    ·by_cases e2 : i < q
     ·simp [e, e2, show i < q + 1 by omega]
     ·simp [e, e2, show ¬ i < q + 1 by omega])
   have hne : Below wc.heap.size wc (w2.setCell ⟨g, q, none⟩ (.string s)) := (below2 KB1.out b2).setCell (by rw [HG.out]; exact Nat.le_refl _) _
   have KNE : Hid _ := hne
   clear hst hown2 hown b2 hne hc
   go_wp2
   go_roundw
   case rel => exact ⟨q + 1, by omega, by go_num, HO, KNE.out⟩
   case measure => simp [intOf]; omega
  ·obtain rfl : q = m := by omega
   have HO : OwnT wr g (some ⟨g, 0, none⟩) q q S := hown.out.congr (fun i hi => if_pos hi)
   have RAr := RA.out.below hbel RA.out.lt
   have RDr := RD.out.below hbel RD.out.lt
   have hgA : A < g ∧ D < g := by rw [HG.out]; exact ⟨RA.out.lt, RD.out.lt⟩
   have HR3 : Hid (Row (((((((wr.setCell ⟨A, 5, none⟩ (.slice (some ⟨g, 0, none⟩) q q)).setCell ⟨D, 0, none⟩ (.string r)).setCell ⟨D, 1, none⟩ (.int .i64 k)).setCell ⟨D, 2, none⟩ (.int .i64 n)).setCell ⟨D, 3, none⟩ (.int .i64 i)).setCell ⟨D, 4, none⟩ (.string b)).setCell ⟨D, 5, none⟩ (.slice (some ⟨g, 0, none⟩) q q)) D 49 (pcC r k n i b (.slice (some ⟨g, 0, none⟩) q q))) := ((((((RDr.other 5 _ (Ne.symm hAD.out.1)).set 0 _).set 1 _).set 2 _).set 3 _).set 4 _).set 5 _
   have HO3 : Hid (OwnT (((((((wr.setCell ⟨A, 5, none⟩ (.slice (some ⟨g, 0, none⟩) q q)).setCell ⟨D, 0, none⟩ (.string r)).setCell ⟨D, 1, none⟩ (.int .i64 k)).setCell ⟨D, 2, none⟩ (.int .i64 n)).setCell ⟨D, 3, none⟩ (.int .i64 i)).setCell ⟨D, 4, none⟩ (.string b)).setCell ⟨D, 5, none⟩ (.slice (some ⟨g, 0, none⟩) q q)) w.heap.size (some ⟨g, 0, none⟩) q q S) := OwnT.base ((((((((HO.setFar hgA.1).setFar hgA.2).setFar hgA.2).setFar hgA.2).setFar hgA.2).setFar hgA.2).setFar hgA.2)) (by rw [HG.out]; exact KBc.out.size)
   have HB3 : Hid (Below w.heap.size w (((((((wr.setCell ⟨A, 5, none⟩ (.slice (some ⟨g, 0, none⟩) q q)).setCell ⟨D, 0, none⟩ (.string r)).setCell ⟨D, 1, none⟩ (.int .i64 k)).setCell ⟨D, 2, none⟩ (.int .i64 n)).setCell ⟨D, 3, none⟩ (.int .i64 i)).setCell ⟨D, 4, none⟩ (.string b)).setCell ⟨D, 5, none⟩ (.slice (some ⟨g, 0, none⟩) q q))) := (((((((below2 KBc.out hbel).setCell hAD.out.2.1 _).setCell hAD.out.2.2 _).setCell hAD.out.2.2 _).setCell hAD.out.2.2 _).setCell hAD.out.2.2 _).setCell hAD.out.2.2 _).setCell hAD.out.2.2 _
   have x0 := RAr.cell 0
   have x1 := RAr.cell 1
   have x2 := RAr.cell 2
   have x3 := RAr.cell 3
   have x4 := RAr.cell 4
   have x5 := RAr.cell 5
   have y0 := RDr.cell 0
   have y1 := RDr.cell 1
   have y2 := RDr.cell 2
   have y3 := RDr.cell 3
   have y4 := RDr.cell 4
   have y5 := RDr.cell 5
   have fA := RAr.free 5
   have f0 := RDr.free 0
   have f1 := RDr.free 1
   have f2 := RDr.free 2
   have f3 := RDr.free 3
   have f4 := RDr.free 4
   have f5 := RDr.free 5
   simp at x0 x1 x2 x3 x4 x5 y0 y1 y2 y3 y4 y5
   have hDA : ¬ D = A := fun e => hAD.out.1 e.symm
   have hAD' : ¬ A = D := hAD.out.1
   clear RAr RDr HO hbel hown
   go_wp2
   refine bodyPost_ret (v := pcV r k n i b (.slice (some ⟨g, 0, none⟩) q q)) (by
    have p0 := HR3.out.cell 0
    have p1 := HR3.out.cell 1
    have p2 := HR3.out.cell 2
    have p3 := HR3.out.cell 3
    have p4 := HR3.out.cell 4
    have p5 := HR3.out.cell 5
    simp at p0 p1 p2 p3 p4 p5
    simp [results, Tryz.results117, go_sem, p0, p1, p2, p3, p4, p5]) rfl ⟨g, rfl, HO3.out, HB3.out⟩
structure Nd where
 i : Int
 f : Int
 n : Nat
 S : Nat → Sl
def ndD (d : Nd) : Nat → Dt
 | 0 => .val (.int .i64 d.i)
 | 1 => .val (.int .i64 d.f)
 | _ => slsD d.n d.S
def ndsD (m : Nat) (N : Nat → Nd) : Dt := .lst 81 3 m fun i => ndD (N i)
structure NdB (d : Nd) : Prop where
 n : d.n ≤ maxLen
 s : ∀ i, i < d.n → SlB (d.S i)
structure NdS (d : Nd) : Prop where
 n : d.n ≤ 1048576
 s : ∀ i, i < d.n → SlS (d.S i)
theorem node_at {w : World} {m : Nat} {N : Nat → Nd} {a : Option Addr} {cap : Nat} (h : Rd w (ndsD m N) (.slice a m cap)) {c : Nat} (hc : c < m) :
  ∃ (b off : Nat) (an : Option Addr) (cn : Nat), a = some ⟨b, off, none⟩ ∧ (w.cell? ⟨b, off + c * 3, none⟩ = some (.int .i64 (N c).i) ∧ w.cell? ⟨b, off + c * 3 + 1, none⟩ = some (.int .i64 (N c).f) ∧ w.cell? ⟨b, off + c * 3 + 2, none⟩ = some (.slice an (N c).n cn)) ∧ w.rangeAt b (off + c * 3) [.int .i64 (N c).i, .int .i64 (N c).f, .slice an (N c).n cn] ∧ Rd w (slsD (N c).n (N c).S) (.slice an (N c).n cn) := by
 obtain ⟨b, off, y, ea, hy, hr⟩ := h.row hc
 have r2 : Rd w (slsD (N c).n (N c).S) (y 2) := hr 2 (by omega)
 obtain ⟨an, cn, e2⟩ := r2.shape
 rw [e2] at r2
 have g0 := hr 0 (by omega)
 have g1 := hr 1 (by omega)
 simp only [Rd, ndD] at g0 g1
 have c0 := hy 0 (by omega)
 have c1 := hy 1 (by omega)
 have c2 := hy 2 (by omega)
 rw [g0, ← Nat.add_assoc] at c0
 rw [g1, ← Nat.add_assoc] at c1
 rw [e2, ← Nat.add_assoc] at c2
 refine ⟨b, off, an, cn, ea, ⟨c0, c1, c2⟩, fun j v hv => ?_, r2⟩
 have hj : j < 3 := (List.getElem?_eq_some_iff.1 hv).1
 match j, hj with
 | 0, _ => rw [← hv]; exact c0
 | 1, _ => rw [← hv]; exact c1
 | 2, _ => rw [← hv]; exact c2
def wtN (d : Nd) : Nat := wtL d.n d.S
def wtNs (m : Nat) (N : Nat → Nd) : Nat := m + tot (fun i => wtN (N i)) m
theorem Tryz.infoNdLw : (Tryz.prog.info? 64).map (·.size) = some 3 := by kernel_rfl
theorem szNds_any (a : Option Addr) (n cap : Nat) (N : Nat → Nd) (l : Nat) (w : World) (h : Rd w (ndsD n N) (.slice a n cap)) (hl : l ≤ 1048576) (hn : n ≤ maxLen) (hL : ∀ i, i < n → NdB (N i)) :
  Calls Tryz.prog 12 #[.slice a n cap, .int .i64 (l : Int)] w fun e w' => e = .returned (.int .i64 (szN l (wtNs n N))) ∧ Below w.heap.size w w' := by
 unfold maxLen at hn
 by_cases h1 : n ≤ l
 ·obtain ⟨d, hd⟩ : ∃ d, l - n = d := ⟨_, rfl⟩
  have hw : IntKind.i64.wrap ((l : Int) - (n : Int)) = (d : Int) := by rw [IntKind.wrap_i64]; omega
  have h0 : ¬ ((d : Int) < 0) := by omega
  have KL : Hid (∀ i, i < n → NdB (N i)) := hL
  have KH : Hid (Rd w (ndsD n N) (.slice a n cap)) := h
  clear hL h
  go_enter Tryz.func12, Tryz.ntmps12
  go_wp2
  go_loopw [1, 5] (fun p i wr => ∃ c q : Nat, c ≤ n ∧ q ≤ 1048576 ∧ Hid (tot (fun i => wtN (N i)) c + q = d) ∧ p = .int .i64 (q : Int) ∧ i = .int .i64 (c : Int) ∧ Below w.heap.size w wr) (fun _ i _ => n - (intOf i).toNat)
  case atStart => exact ⟨0, d, Nat.zero_le _, by omega, by show 0 + d = d; omega, rfl, rfl, Below.refl _ _⟩
  case round =>
   obtain ⟨c, q, hc, hq, HT, rfl, rfl, hbel⟩ := hrel
   clear hw h0
   by_cases hlt : c < n
   ·obtain ⟨b1, f1, an, cn, rfl, _, R1', hr1⟩ := node_at (KH.out.below hbel) hlt
    have hti := tot_le (fun i => wtN (N i)) hlt
    have hlti : (c : Int) < (n : Int) := by omega
    have HT' := HT.out
    obtain ⟨lc, HLC⟩ : ∃ x, Hid (wtN (N c) = x) := ⟨_, rfl⟩
    have KTS : Hid (tot (fun i => wtN (N i)) (c + 1) = tot (fun i => wtN (N i)) c + lc) := by rw [← HLC.out]; rfl
    have hti' : tot (fun i => wtN (N i)) c + lc ≤ tot (fun i => wtN (N i)) n := by rw [← HLC.out]; exact hti
    have KZ : Hid (Calls Tryz.prog 31 #[.agg #[.int .i64 (N c).i, .int .i64 (N c).f, .slice an (N c).n cn], .int .i64 (q : Int)] wr fun e w' => e = .returned (.int .i64 (szN q lc)) ∧ Below wr.heap.size wr w') := by
     rw [← HLC.out]
     exact szNd_any (N c).i (N c).f an (N c).n cn (N c).S q wr hr1 hq (KL.out c hlt).n (KL.out c hlt).s
    have R1 : Hid (wr.rangeAt b1 (f1 + c * 3) [.int .i64 (N c).i, .int .i64 (N c).f, .slice an (N c).n cn]) := R1'
    have KB : Hid (Below w.heap.size w wr) := hbel
    clear hti R1' hr1 hbel
    by_cases h2 : lc ≤ q
    ·obtain ⟨q', hq'⟩ : ∃ q', q - lc = q' := ⟨_, rfl⟩
     have h3 : ¬ ((q' : Int) < 0) := by omega
     have HT2 : Hid (tot (fun i => wtN (N i)) (c + 1) + q' = d) := by show _ = _; rw [KTS.out]; omega
     have hq2 : q' ≤ 1048576 := by omega
     rw [szN_yes h2, hq'] at KZ
     clear HT HT' hti' KTS
     go_wp2_with (refine wpList_load_mid (by rfl) 64 _ (by rfl) b1 (f1 + c * 3) (by rfl) [.int .i64 (N c).i, .int .i64 (N c).f, .slice an (N c).n cn] _ ?_ Tryz.underlying64 (by rfl) Tryz.infoNdLw ?_; exact R1.out)
     refine Calls.mono KZ.out ?_
     rintro e w1 ⟨rfl, bb⟩
     have KB1 : Hid (Below w.heap.size w w1) := below2 KB.out bb
     clear bb KZ R1
     go_wp2
     go_roundw
     case rel => exact ⟨c + 1, q', by omega, hq2, HT2, rfl, by go_num, KB1.out⟩
     case measure => simp [intOf] <;> omega
    ·have HR : Hid (szN l (wtNs n N) = -1) := szN_no (by unfold wtNs; omega)
     rw [szN_no h2] at KZ
     clear HT HT' hti' KTS
     go_wp2_with (refine wpList_load_mid (by rfl) 64 _ (by rfl) b1 (f1 + c * 3) (by rfl) [.int .i64 (N c).i, .int .i64 (N c).f, .slice an (N c).n cn] _ ?_ Tryz.underlying64 (by rfl) Tryz.infoNdLw ?_; exact R1.out)
     refine Calls.mono KZ.out ?_
     rintro e w1 ⟨rfl, bb⟩
     have KB1 : Hid (Below w.heap.size w w1) := below2 KB.out bb
     clear bb KZ R1
     go_wp2
     go_ret
     exact ⟨ret_int HR.out.symm, KB1.out⟩
   ·obtain rfl : c = n := by omega
    have HR : Hid (szN l (wtNs c N) = (q : Int)) := by
     have := HT.out
     have e : l - (c + tot (fun i => wtN (N i)) c) = q := by omega
     exact (szN_yes (by unfold wtNs; omega)).trans (by unfold wtNs; rw [e])
    clear KH
    go_wp2
    go_ret
    exact ⟨ret_int HR.out.symm, hbel⟩
 ·have h0 : (l : Int) - (n : Int) < 0 := by omega
  have hw : IntKind.i64.wrap ((l : Int) - (n : Int)) = (l : Int) - (n : Int) := by rw [IntKind.wrap_i64]; omega
  have HR : Hid (szN l (wtNs n N) = -1) := szN_no (by unfold wtNs; omega)
  clear h hL
  go_enter Tryz.func12, Tryz.ntmps12
  go_wp2
  go_ret
  exact ⟨ret_int HR.out.symm, Below.refl _ _⟩
theorem eqNds_same (a b : Option Addr) (n ca cb : Nat) (N : Nat → Nd) (w : World) (ha : Rd w (ndsD n N) (.slice a n ca)) (hb : Rd w (ndsD n N) (.slice b n cb)) (hn : n ≤ 1048576) (hs : ∀ i, i < n → NdS (N i)) :
  Calls Tryz.prog 27 #[.slice a n ca, .slice b n cb] w fun e w' => e = .returned (.bool true) ∧ Below w.heap.size w w' := by
 have KH : Hid (Rd w (ndsD n N) (.slice a n ca) ∧ Rd w (ndsD n N) (.slice b n cb)) := ⟨ha, hb⟩
 have HS : Hid (∀ i, i < n → NdS (N i)) := hs
 have hnn : ((n : Int) != (n : Int)) = false := by simp
 clear ha hb hs
 go_enter Tryz.func27, Tryz.ntmps27
 go_wp2
 go_loopw [5] (fun vi wr => ∃ c : Nat, c ≤ n ∧ vi = .int .i64 (c : Int) ∧ Below w.heap.size w wr) (fun vi _ => n - (intOf vi).toNat)
 case atStart => exact ⟨0, Nat.zero_le _, rfl, Below.refl _ _⟩
 case round =>
  obtain ⟨c, hcn, rfl, hbel⟩ := hrel
  by_cases hlt : c < n
  ·have hki : (c : Int) < (n : Int) := by omega
   obtain ⟨b1, f1, an, cn, rfl, ⟨x0, x1, x2⟩, _, hr1⟩ := node_at (KH.out.1.below hbel) hlt
   obtain ⟨b2, f2, am, cm, rfl, ⟨y0, y1, y2⟩, _, hr2⟩ := node_at (KH.out.2.below hbel) hlt
   have hsc := HS.out c hlt
   have KT : Hid (∀ W, Below wr.heap.size wr W → Calls Tryz.prog 51 #[.agg #[.int .i64 (N c).i, .int .i64 (N c).f, .slice an (N c).n cn], .agg #[.int .i64 (N c).i, .int .i64 (N c).f, .slice am (N c).n cm]] W fun e w' => e = .returned (.bool true) ∧ Below W.heap.size W w') := fun W hW => eqNd_same (N c).i (N c).f an am (N c).n cn cm (N c).S W (hr1.below hW) (hr2.below hW) hsc.n hsc.s
   have KS : Hid (∀ W, Below wr.heap.size wr W → W.cell? ⟨b1, f1 + c * 3, none⟩ = some (.int .i64 (N c).i) ∧ W.cell? ⟨b1, f1 + c * 3 + 1, none⟩ = some (.int .i64 (N c).f) ∧ W.cell? ⟨b1, f1 + c * 3 + 2, none⟩ = some (.slice an (N c).n cn) ∧ W.cell? ⟨b2, f2 + c * 3, none⟩ = some (.int .i64 (N c).i) ∧ W.cell? ⟨b2, f2 + c * 3 + 1, none⟩ = some (.int .i64 (N c).f) ∧ W.cell? ⟨b2, f2 + c * 3 + 2, none⟩ = some (.slice am (N c).n cm)) := fun W hW => ⟨(hW.cell (block_lt_of_cell x0)).trans x0, (hW.cell (block_lt_of_cell x1)).trans x1, (hW.cell (block_lt_of_cell x2)).trans x2, (hW.cell (block_lt_of_cell y0)).trans y0, (hW.cell (block_lt_of_cell y1)).trans y1, (hW.cell (block_lt_of_cell y2)).trans y2⟩
   have KB : Hid (Below w.heap.size w wr) := hbel
   have hdr := below_drew wr
   clear hr1 hr2 hbel hsc x0 x1 x2 y0 y1 y2
   go_wp2_with fail
   go_region_held3 (fun w' => w'.cell? ⟨b1, f1 + c * 3, none⟩ = some (.int .i64 (N c).i) ∧ w'.cell? ⟨b1, f1 + c * 3 + 1, none⟩ = some (.int .i64 (N c).f) ∧ w'.cell? ⟨b1, f1 + c * 3 + 2, none⟩ = some (.slice an (N c).n cn) ∧ w'.cell? ⟨b2, f2 + c * 3, none⟩ = some (.int .i64 (N c).i) ∧ w'.cell? ⟨b2, f2 + c * 3 + 1, none⟩ = some (.int .i64 (N c).f) ∧ w'.cell? ⟨b2, f2 + c * 3 + 2, none⟩ = some (.slice am (N c).n cm)) (exact KS.out _ (by assumption)) ((go_at_call 51; refine Calls.mono (KT.out _ hdr) ?_; rintro e w7 ⟨rfl, b7'⟩; have b7 := below_of_drew b7'; clear b7'))
   all_goals
    have HB7 : Hid (Below w.heap.size w w7) := below2 KB.out b7
    clear b7
    go_wp2
    go_roundw
    case rel => exact ⟨c + 1, by omega, by go_num, HB7.out⟩
    case measure => simp [intOf]; omega
  ·go_wp2
   go_ret
   exact ⟨rfl, hbel⟩
def ndN : Nd := ⟨0, 0, 0, fun _ => slZ⟩
def zcN : List Value := [.int .i64 0, .int .i64 0, .slice none 0 0]
theorem Tryz.infoNdZ2 : (Tryz.prog.info? 81).map (fun i => (i.zero, i.size, i.bytes)) = some (some (.agg zcN.toArray), 3, 40) := by kernel_rfl
theorem ow_ndZ (w : World) (B q : Nat) (hq : q < 3) : Ow w B (ndD ndN q) (zcN.getD q undef) (fun _ => False) := by
 match q, hq with
 | 0, _ | 1, _ => rfl
 | 2, _ => exact Ow.nil _ _ _ _ _ _
theorem ow_node {w : World} {B : Nat} {d : Nd} {v : Value} {F : Nat → Prop} (h : Ow w B (slsD d.n d.S) v F) (q : Nat) (hq : q < 3) : Ow w B (ndD d q) ([Value.int .i64 d.i, .int .i64 d.f, v].getD q undef) (fun x => q = 2 ∧ F x) := by
 match q, hq with
 | 0, _ | 1, _ => rfl
 | 2, _ => exact Ow.mono h fun g hg => ⟨rfl, hg⟩
theorem toNds_any (a : Option Addr) (n cap : Nat) (N : Nat → Nd) (w : World) (h : Rd w (ndsD n N) (.slice a n cap)) (hn : n ≤ 1048576) (hs : ∀ i, i < n → NdS (N i)) :
  Calls Tryz.prog 19 #[.slice a n cap] w fun e w' => e = .returned (.slice (some ⟨w.heap.size, 0, none⟩) n n) ∧ Ow w' w.heap.size (ndsD n N) (.slice (some ⟨w.heap.size, 0, none⟩) n n) (rng w.heap.size w'.heap.size) ∧ Below w.heap.size w w' := by
 obtain ⟨i0, hi, hz0, hz1, hz2⟩ := info_parts Tryz.infoNdZ2
 have KH : Hid (Rd w (ndsD n N) (.slice a n cap)) := h
 have HS : Hid (∀ i, i < n → NdS (N i)) := hs
 clear h hs
 go_enter Tryz.func19, Tryz.ntmps19
 go_wp2_with (at_make; refine wpList_make_full _ rfl _ _ 32 rfl w.heap.size 81 i0 (.agg zcN.toArray) 3 Tryz.underlying32 hi hz0 hz1 .i64 .i64 _ _ n rfl rfl rfl rfl (by rw [hz2]; omega) (by unfold maxLen; omega) (Nat.le_refl _) ?_; intro w1 hown hgrow)
 have hb1 : Below w.heap.size w w1 := (Below.refl _ _).grown hgrow (Nat.le_refl _) (by simp)
 obtain ⟨g, HG⟩ : ∃ x, Hid (x = w.heap.size) := ⟨_, rfl⟩
 have ho1 : Ow w1 w.heap.size (.lst 81 3 n (fun i => if i < 0 then ndD (N i) else ndD ndN)) (.slice (some ⟨g, 0, none⟩) n n) (rng w.heap.size w1.heap.size) := by
  have e : (madeCells (Value.agg zcN.toArray).cells (n * 3)).toList = cL 3 (fun _ q => zcN.getD q undef) n := made_cL (zs := zcN) (by simp [zcN])
  rw [e] at hown
  rw [HG.out]
  have := ow_made (F := rng w.heap.size w1.heap.size) hown (fun q hq => ow_ndZ w1 w.heap.size q hq) ⟨Nat.le_refl _, (World.ownsRow.lt hown _ rfl).2⟩
  exact this.congr (fun i q _ _ => by simp)
 have gB : g = w.heap.size := HG.out
 rw [← HG.out]
 have HB : Hid (w.heap.size ≤ g) := by show _ ≤ _; omega
 clear hown hgrow gB
 go_loopw [4] (fun i wr => ∃ k : Nat, k ≤ n ∧ i = .int .i64 k ∧ Ow wr w.heap.size (.lst 81 3 n (fun i => if i < k then ndD (N i) else ndD ndN)) (.slice (some ⟨g, 0, none⟩) n n) (rng w.heap.size wr.heap.size) ∧ Below w.heap.size w wr) (fun i _ => n - (intOf i).toNat)
 case atStart => exact ⟨0, Nat.zero_le _, rfl, ho1, hb1⟩
 case round =>
  obtain ⟨c, hc, rfl, hown, hbel⟩ := hrel
  clear ho1 hb1
  by_cases hlt : c < n
  ·have hlti : (c : Int) < (n : Int) := by omega
   obtain ⟨b1, f1, an, cn, rfl, _, R1', hr1⟩ := node_at (KH.out.below hbel) hlt
   have KT : Hid _ := toNd_any (N c).i (N c).f an (N c).n cn (N c).S wr hr1 (HS.out c hlt).n (HS.out c hlt).s
   have R1 : Hid (wr.rangeAt b1 (f1 + c * 3) [.int .i64 (N c).i, .int .i64 (N c).f, .slice an (N c).n cn]) := R1'
   have KO : Hid (Ow wr w.heap.size (.lst 81 3 n (fun i => if i < c then ndD (N i) else ndD ndN)) (.slice (some ⟨g, 0, none⟩) n n) (rng w.heap.size wr.heap.size) ∧ Below w.heap.size w wr) := ⟨hown, hbel⟩
   have lg : g < wr.heap.size := by
    obtain ⟨a', cap', c', G', e', ho', _⟩ := hown
    cases e'
    exact (World.ownsRow.lt ho' g rfl).2
   clear R1' hr1 hbel hown
   go_wp2_with (refine wpList_load_mid (by rfl) 64 _ (by rfl) b1 (f1 + c * 3) (by rfl) [.int .i64 (N c).i, .int .i64 (N c).f, .slice an (N c).n cn] _ ?_ Tryz.underlying64 (by rfl) Tryz.infoNdLw ?_; exact R1.out)
   refine Calls.mono KT.out ?_
   rintro e w2 ⟨gs, rfl, o2, b2⟩
   have O2 := KO.out.1.below b2
   have TH : Hid (w2.there g (c * 3) 3) := by
    obtain ⟨a', cap', c', G', e', ho', _⟩ := O2
    cases e'
    intro j hj
    refine ⟨?_, World.ownsRow.frozenAt ho' _⟩
    rw [World.ownsRow.cellAt ho' _ (mid_lt hlt hj), cL_get _ _ _ _ _ hlt hj]
    rfl
   have hsz := KO.out.2.size
   have HO : Hid (Ow (w2.setCells g (c * 3) [Value.int .i64 (N c).i, .int .i64 (N c).f, .slice (some ⟨gs, 0, none⟩) (N c).n (N c).n]) w.heap.size (.lst 81 3 n (fun i => if i < c + 1 then ndD (N i) else ndD ndN)) (.slice (some ⟨g, 0, none⟩) n n) (rng w.heap.size (w2.setCells g (c * 3) [Value.int .i64 (N c).i, .int .i64 (N c).f, .slice (some ⟨gs, 0, none⟩) (N c).n (N c).n]).heap.size)) := by
    rw [size_setCells]
    refine Ow.congr (Ow.store (d := ndD (N c)) O2 hlt rfl (fun q hq => ow_node (o2.base hsz) q hq) ?_ ?_ ?_ ?_) ?_
    ·intro q x _ hx hf
     have h2 := hf.2
     have h3 := hx.2.1
     omega
    ·intro q q' x _ _ hx hx'
     exact hx.1.trans hx'.1.symm
    ·intro x hx
     have := b2.size
     exact ⟨hx.1, by have := hx.2; omega⟩
    ·intro q x _ hx
     have h3 := hx.2
     exact ⟨by have := h3.1; omega, h3.2⟩
    ·intro i q _ _
     by_cases e : i = c
     ·subst e; simp
     ·by_cases e2 : i < c
      ·simp [e, e2, show i < c + 1 by omega]
      ·simp [e, e2, show ¬ i < c + 1 by omega]
   have HBe : Hid (Below w.heap.size w (w2.setCells g (c * 3) [Value.int .i64 (N c).i, .int .i64 (N c).f, .slice (some ⟨gs, 0, none⟩) (N c).n (N c).n])) := below_setCells (below2 KO.out.2 b2) HB.out _ _
   clear O2 b2 o2 KT R1 KO
   go_wp2_with (refine wpList_store_mid (by rfl) 81 _ _ (by rfl) g (c * 3) ([Value.int .i64 (N c).i, .int .i64 (N c).f, .slice (some ⟨gs, 0, none⟩) (N c).n (N c).n]).toArray (by rfl) (by rfl) ?_ Tryz.infoNd (by simp [Value.oneCell']) ?_; exact TH.out)
   go_roundw
   case rel => exact ⟨c + 1, by omega, by go_num, HO.out, HBe.out⟩
   case measure => simp [intOf]; omega
  ·obtain rfl : c = n := by omega
   have HO : Hid (Ow wr w.heap.size (ndsD c N) (.slice (some ⟨g, 0, none⟩) c c) (rng w.heap.size wr.heap.size)) := hown.congr (fun i q hi _ => by simp [hi])
   clear hown
   go_wp2
   go_ret
   exact ⟨by rw [← HG.out]; rfl, by rw [← HG.out]; rw [HG.out]; have := HO.out; rw [HG.out] at this; exact this, hbel⟩
def wkS (s : Sl) : Nat := 10 + s.p.m + s.ze.length + s.zr.length
theorem tot_step {g : Nat → Nat} {c n : Nat} (h : c < n) : tot g c + g c ≤ tot g n := by
 induction n with
 | zero => omega
 | succ n ih =>
  rw [show tot g (n + 1) = tot g n + g n from rfl]
  by_cases e : c = n
  ·subst e; omega
  ·have := ih (by omega); omega
theorem Ow.far {w : World} {B : Nat} {d : Dt} {v : Value} {F : Nat → Prop} (h : Ow w B d v F) {g : Nat} (o : Nat) (x : Value) (hn : ¬ F g) : Ow (w.setCell ⟨g, o, none⟩ x) B d v F :=
 h.turned (Trn.set w o x (F := fun y => y = g) rfl) (fun _ hy e => hn (e ▸ hy))
structure SlO (w : World) (B : Nat) (s : Sl) (v6 v11 v12 : Value) (F6 F11 F12 : Nat → Prop) : Prop where
 t : Ow w B (txD s.p.m s.p.S) v6 F6
 e : Ow w B (inD s.ze) v11 F11
 z : Ow w B (inD s.zr) v12 F12
 d1 : ∀ g, F6 g → ¬ F11 g
 d2 : ∀ g, F6 g → ¬ F12 g
 d3 : ∀ g, F11 g → ¬ F12 g
structure SlK (s : Sl) : Prop where
 r : s.r.size ≤ 1048576
 pr : s.p.r.size ≤ 1048576
 pb : s.p.b.size ≤ 1048576
 m : s.p.m ≤ 1048576
 tx : ∀ i, i < s.p.m → (s.p.S i).size ≤ 1048576
 ne : s.ze.length ≤ 1048576
 nr : s.zr.length ≤ 1048576
def CpB (w0 wc w : World) (s : Sl) (A D g6 : Nat) (wx : World) : Prop := ∃ (e11 e12 : Option Addr) (h11 h12 : Nat) (F11 F12 : Nat → Prop), Row wx A 76 (slC s (.slice (some ⟨g6, 0, none⟩) s.p.m s.p.m) (.slice e11 s.ze.length h11) (.slice e12 s.zr.length h12)) ∧ Row wx D 76 #[.string ⟨#[]⟩, .string ⟨#[]⟩, .int .i64 0, .int .i64 0, .int .i64 0, .string ⟨#[]⟩, .slice none 0 0, .bool false, .bool false, .bool false, .bool false, .slice none 0 0, .slice none 0 0] ∧ OwnT wx w0.heap.size (some ⟨g6, 0, none⟩) s.p.m s.p.m s.p.S ∧ Ow wx wc.heap.size (inD s.ze) (.slice e11 s.ze.length h11) F11 ∧ Ow wx wc.heap.size (inD s.zr) (.slice e12 s.zr.length h12) F12 ∧ (∀ x, F11 x → ¬ F12 x) ∧ (∀ x, F11 x → wc.heap.size ≤ x) ∧ (∀ x, F12 x → wc.heap.size ≤ x) ∧ Below w.heap.size w wx
theorem cpB_a {w0 wc w w7 w8 : World} {s : Sl} {A D g6 h11 h12 c11 c12 : Nat} {e11 e12 a11 a12 : Option Addr} (RA : Row wc A 76 (slC s (.slice (some ⟨g6, 0, none⟩) s.p.m s.p.m) (.slice a11 s.ze.length c11) (.slice a12 s.zr.length c12))) (RD : Row wc D 76 #[.string ⟨#[]⟩, .string ⟨#[]⟩, .int .i64 0, .int .i64 0, .int .i64 0, .string ⟨#[]⟩, .slice none 0 0, .bool false, .bool false, .bool false, .bool false, .slice none 0 0, .slice none 0 0]) (O6 : OwnT wc w0.heap.size (some ⟨g6, 0, none⟩) s.p.m s.p.m s.p.S) (hA : A < w0.heap.size) (hAD : A ≠ D ∧ w.heap.size ≤ A) (B : Below w.heap.size w wc) (b7 : Below wc.heap.size wc w7) (O7 : Ow w7 wc.heap.size (inD s.ze) (.slice e11 s.ze.length h11) (rng wc.heap.size w7.heap.size)) (b8 : Below w7.heap.size w7 w8) (O8 : Ow w8 w7.heap.size (inD s.zr) (.slice e12 s.zr.length h12) (rng w7.heap.size w8.heap.size)) :
  CpB w0 wc w s A D g6 ((w8.setCell ⟨A, 11, none⟩ (.slice e11 s.ze.length h11)).setCell ⟨A, 12, none⟩ (.slice e12 s.zr.length h12)) := by
 have lA := RA.lt
 have n7 := b7.size
 have b78 := below2 b7 b8
 have h1 : ¬ rng wc.heap.size w7.heap.size A := fun h => by have := h.1; omega
 have h2 : ¬ rng w7.heap.size w8.heap.size A := fun h => by have := h.1; omega
 exact ⟨e11, e12, h11, h12, _, _, ((RA.below b78 lA).set 11 _).set 12 _, ((RD.below b78 RD.lt).other 11 _ (Ne.symm hAD.1)).other 12 _ (Ne.symm hAD.1), ((O6.below b78).setFar hA).setFar hA, ((O7.below b8).far 11 _ h1).far 12 _ h1, ((O8.base n7).far 11 _ h2).far 12 _ h2, fun x hx hy => by have := hx.2; have := hy.1; omega, fun x hx => hx.1, fun x hx => by have := hx.1; omega, ((below2 B b78).setCell hAD.2 _).setCell hAD.2 _⟩
theorem copiedS_any (s : Sl) (a6 a11 a12 : Option Addr) (c6 c11 c12 : Nat) (w : World) (h6 : TxtAt w a6 s.p.m s.p.S) (h11 : IntsAt w a11 s.ze.length s.ze) (h12 : IntsAt w a12 s.zr.length s.zr) (hs : SlK s) :
  Calls Tryz.prog 79 #[slV s (.slice a6 s.p.m c6) (.slice a11 s.ze.length c11) (.slice a12 s.zr.length c12)] w fun e w' => ∃ (g6 : Nat) (e11 e12 : Option Addr) (h11 h12 : Nat) (F6 F11 F12 : Nat → Prop), e = .returned (slV s (.slice (some ⟨g6, 0, none⟩) s.p.m s.p.m) (.slice e11 s.ze.length h11) (.slice e12 s.zr.length h12)) ∧ SlO w' w.heap.size s (.slice (some ⟨g6, 0, none⟩) s.p.m s.p.m) (.slice e11 s.ze.length h11) (.slice e12 s.zr.length h12) F6 F11 F12 ∧ Below w.heap.size w w' := by
 obtain ⟨A, HA⟩ : ∃ x, Hid (x = w.heap.size) := ⟨_, rfl⟩
 obtain ⟨D, HD⟩ : ∃ x, Hid (x = w.heap.size + 1) := ⟨_, rfl⟩
 obtain ⟨w0, HW0⟩ : ∃ x, Hid (x = (w.alloc (.cells (slC s (.slice a6 s.p.m c6) (.slice a11 s.ze.length c11) (.slice a12 s.zr.length c12)) 76)).alloc (.cells #[.string ⟨#[]⟩, .string ⟨#[]⟩, .int .i64 0, .int .i64 0, .int .i64 0, .string ⟨#[]⟩, .slice none 0 0, .bool false, .bool false, .bool false, .bool false, .slice none 0 0, .slice none 0 0] 76)) := ⟨_, rfl⟩
 have RA : Hid (Row w0 A 76 (slC s (.slice a6 s.p.m c6) (.slice a11 s.ze.length c11) (.slice a12 s.zr.length c12))) := by show Row _ _ _ _; rw [HW0.out, HA.out]; exact Row.alloc (Row.new w _ _) _
 have RD : Hid (Row w0 D 76 #[.string ⟨#[]⟩, .string ⟨#[]⟩, .int .i64 0, .int .i64 0, .int .i64 0, .string ⟨#[]⟩, .slice none 0 0, .bool false, .bool false, .bool false, .bool false, .slice none 0 0, .slice none 0 0]) := by
  show Row _ _ _ _
  rw [HW0.out, HD.out]
  have := Row.new (w.alloc (.cells (slC s (.slice a6 s.p.m c6) (.slice a11 s.ze.length c11) (.slice a12 s.zr.length c12)) 76)) #[.string ⟨#[]⟩, .string ⟨#[]⟩, .int .i64 0, .int .i64 0, .int .i64 0, .string ⟨#[]⟩, .slice none 0 0, .bool false, .bool false, .bool false, .bool false, .slice none 0 0, .slice none 0 0] 76
  simpa using this
 have hb0 : Below w.heap.size w w0 := by rw [HW0.out]; exact ((Below.refl _ _).alloc (Nat.le_refl _) _).alloc (by simp) _
 have KB0 : Hid (Below w.heap.size w w0) := hb0
 have hAD : Hid (A ≠ D ∧ w.heap.size ≤ A ∧ w.heap.size ≤ D) := ⟨by have := HA.out; have := HD.out; omega, by have := HA.out; omega, by have := HD.out; omega⟩
 have KCr : Hid (∀ W, Calls Tryz.prog 116 #[.string s.r] W fun e w' => e = .returned (.string s.r) ∧ Below W.heap.size W w') := fun W => clone_any s.r W hs.r
 have KCP : Hid (∀ W, Below w.heap.size w W → Calls Tryz.prog 117 #[pcV s.p.r s.p.k s.p.n s.p.i s.p.b (.slice a6 s.p.m c6)] W fun e w' => ∃ g, e = .returned (pcV s.p.r s.p.k s.p.n s.p.i s.p.b (.slice (some ⟨g, 0, none⟩) s.p.m s.p.m)) ∧ OwnT w' W.heap.size (some ⟨g, 0, none⟩) s.p.m s.p.m s.p.S ∧ Below W.heap.size W w') := fun W hW => copiedP_any _ _ _ _ _ a6 _ c6 _ W (h6.below hW) hs.m hs.pr hs.pb hs.tx
 have KC1 : Hid (∀ W, Below w.heap.size w W → Calls Tryz.prog 118 #[.slice a11 s.ze.length c11] W _) := fun W hW => cloneI_any a11 c11 s.ze W (h11.below hW) hs.ne
 have KC2 : Hid (∀ W, Below w.heap.size w W → Calls Tryz.prog 118 #[.slice a12 s.zr.length c12] W _) := fun W hW => cloneI_any a12 c12 s.zr W (h12.below hW) hs.nr
 clear h6 h11 h12 hb0 hs
 go_enter Tryz.func79, Tryz.ntmps79
 go_wp2_with fail
 rw [← HW0.out, ← HD.out, ← HA.out]
 go_cut [] from 3 to 10 (fun wx => Hid (∃ g6, Row wx A 76 (slC s (.slice (some ⟨g6, 0, none⟩) s.p.m s.p.m) (.slice a11 s.ze.length c11) (.slice a12 s.zr.length c12)) ∧ Row wx D 76 #[.string ⟨#[]⟩, .string ⟨#[]⟩, .int .i64 0, .int .i64 0, .int .i64 0, .string ⟨#[]⟩, .slice none 0 0, .bool false, .bool false, .bool false, .bool false, .slice none 0 0, .slice none 0 0] ∧ OwnT wx w0.heap.size (some ⟨g6, 0, none⟩) s.p.m s.p.m s.p.S ∧ Below w.heap.size w wx))
 case first =>
  have lA := RA.out.lt
  have lD := RD.out.lt
  have q0 := RA.out.cell 0
  have q1 := RA.out.cell 1
  have q2 := RA.out.cell 2
  have q3 := RA.out.cell 3
  have q4 := RA.out.cell 4
  have q5 := RA.out.cell 5
  have q6 := RA.out.cell 6
  have q7 := RA.out.cell 7
  have q8 := RA.out.cell 8
  have q9 := RA.out.cell 9
  have q10 := RA.out.cell 10
  have q11 := RA.out.cell 11
  have q12 := RA.out.cell 12
  simp at q0 q1 q2 q3 q4 q5 q6 q7 q8 q9 q10 q11 q12
  have KTW : Hid (∀ W, Below w0.heap.size w0 W → Row W A 76 (slC s (.slice a6 s.p.m c6) (.slice a11 s.ze.length c11) (.slice a12 s.zr.length c12)) ∧ Row W D 76 #[.string ⟨#[]⟩, .string ⟨#[]⟩, .int .i64 0, .int .i64 0, .int .i64 0, .string ⟨#[]⟩, .slice none 0 0, .bool false, .bool false, .bool false, .bool false, .slice none 0 0, .slice none 0 0] ∧ Below w.heap.size w W ∧ w0.heap.size ≤ W.heap.size) := fun W hW => ⟨RA.out.below hW lA, RD.out.below hW lD, below2 KB0.out hW, hW.size⟩
  have KST : Hid (∀ W, Row W A 76 (slC s (.slice a6 s.p.m c6) (.slice a11 s.ze.length c11) (.slice a12 s.zr.length c12)) ∧ Row W D 76 #[.string ⟨#[]⟩, .string ⟨#[]⟩, .int .i64 0, .int .i64 0, .int .i64 0, .string ⟨#[]⟩, .slice none 0 0, .bool false, .bool false, .bool false, .bool false, .slice none 0 0, .slice none 0 0] ∧ Below w.heap.size w W ∧ w0.heap.size ≤ W.heap.size → Row (W.setCell ⟨A, 0, none⟩ (.string s.r)) A 76 (slC s (.slice a6 s.p.m c6) (.slice a11 s.ze.length c11) (.slice a12 s.zr.length c12)) ∧ Row (W.setCell ⟨A, 0, none⟩ (.string s.r)) D 76 #[.string ⟨#[]⟩, .string ⟨#[]⟩, .int .i64 0, .int .i64 0, .int .i64 0, .string ⟨#[]⟩, .slice none 0 0, .bool false, .bool false, .bool false, .bool false, .slice none 0 0, .slice none 0 0] ∧ Below w.heap.size w (W.setCell ⟨A, 0, none⟩ (.string s.r)) ∧ w0.heap.size ≤ (W.setCell ⟨A, 0, none⟩ (.string s.r)).heap.size) := fun W hW => ⟨hW.1.set 0 _, hW.2.1.other 0 _ (Ne.symm hAD.out.1), hW.2.2.1.setCell hAD.out.2.1 _, by simpa using hW.2.2.2⟩
  have KNX : Hid (∀ W W' g, Row W A 76 (slC s (.slice a6 s.p.m c6) (.slice a11 s.ze.length c11) (.slice a12 s.zr.length c12)) ∧ Row W D 76 #[.string ⟨#[]⟩, .string ⟨#[]⟩, .int .i64 0, .int .i64 0, .int .i64 0, .string ⟨#[]⟩, .slice none 0 0, .bool false, .bool false, .bool false, .bool false, .slice none 0 0, .slice none 0 0] ∧ Below w.heap.size w W ∧ w0.heap.size ≤ W.heap.size → OwnT W' W.heap.size (some ⟨g, 0, none⟩) s.p.m s.p.m s.p.S → Below W.heap.size W W' → Row W' A 76 (slC s (.slice a6 s.p.m c6) (.slice a11 s.ze.length c11) (.slice a12 s.zr.length c12)) ∧ Row W' D 76 #[.string ⟨#[]⟩, .string ⟨#[]⟩, .int .i64 0, .int .i64 0, .int .i64 0, .string ⟨#[]⟩, .slice none 0 0, .bool false, .bool false, .bool false, .bool false, .slice none 0 0, .slice none 0 0] ∧ OwnT W' w0.heap.size (some ⟨g, 0, none⟩) s.p.m s.p.m s.p.S ∧ Below w.heap.size w W') := fun W W' g hW hO hB => ⟨hW.1.below hB hW.1.lt, hW.2.1.below hB hW.2.1.lt, OwnT.base hO hW.2.2.2, below2 hW.2.2.1 hB⟩
  have KQ : Hid (∀ W, Row W A 76 (slC s (.slice a6 s.p.m c6) (.slice a11 s.ze.length c11) (.slice a12 s.zr.length c12)) → W.cell? ⟨A, 0, none⟩ = some (.string s.r) ∧ W.cell? ⟨A, 1, none⟩ = some (.string s.p.r) ∧ W.cell? ⟨A, 2, none⟩ = some (.int .i64 s.p.k) ∧ W.cell? ⟨A, 3, none⟩ = some (.int .i64 s.p.n) ∧ W.cell? ⟨A, 4, none⟩ = some (.int .i64 s.p.i) ∧ W.cell? ⟨A, 5, none⟩ = some (.string s.p.b) ∧ W.cell? ⟨A, 6, none⟩ = some (.slice a6 s.p.m c6) ∧ W.cell? ⟨A, 7, none⟩ = some (.bool s.h) ∧ W.cell? ⟨A, 8, none⟩ = some (.bool s.e) ∧ W.cell? ⟨A, 9, none⟩ = some (.bool s.d) ∧ W.cell? ⟨A, 10, none⟩ = some (.bool s.o) ∧ W.cell? ⟨A, 11, none⟩ = some (.slice a11 s.ze.length c11) ∧ W.cell? ⟨A, 12, none⟩ = some (.slice a12 s.zr.length c12)) := fun W hW => by
   have z0 := hW.cell 0
   have z1 := hW.cell 1
   have z2 := hW.cell 2
   have z3 := hW.cell 3
   have z4 := hW.cell 4
   have z5 := hW.cell 5
   have z6 := hW.cell 6
   have z7 := hW.cell 7
   have z8 := hW.cell 8
   have z9 := hW.cell 9
   have z10 := hW.cell 10
   have z11 := hW.cell 11
   have z12 := hW.cell 12
   simp at z0 z1 z2 z3 z4 z5 z6 z7 z8 z9 z10 z11 z12
   exact ⟨z0, z1, z2, z3, z4, z5, z6, z7, z8, z9, z10, z11, z12⟩
  have KF : Hid (∀ W, Row W A 76 (slC s (.slice a6 s.p.m c6) (.slice a11 s.ze.length c11) (.slice a12 s.zr.length c12)) → W.frozen? ⟨A, 0, none⟩ = false ∧ W.frozen? ⟨A, 1, none⟩ = false ∧ W.frozen? ⟨A, 2, none⟩ = false ∧ W.frozen? ⟨A, 3, none⟩ = false ∧ W.frozen? ⟨A, 4, none⟩ = false ∧ W.frozen? ⟨A, 5, none⟩ = false ∧ W.frozen? ⟨A, 6, none⟩ = false) := fun W hW => ⟨hW.free 0, hW.free 1, hW.free 2, hW.free 3, hW.free 4, hW.free 5, hW.free 6⟩
  go_region_with ((first | (go_at_call 117; refine Calls.mono (KCP.out _ (by first | exact K7.out.2.2.1 | exact (KST.out _ K7.out).2.2.1)) ?_; rintro e w8 ⟨g6, rfl, O8, b8⟩; have K8 : Hid (Row w8 A 76 (slC s (.slice a6 s.p.m c6) (.slice a11 s.ze.length c11) (.slice a12 s.zr.length c12)) ∧ Row w8 D 76 #[.string ⟨#[]⟩, .string ⟨#[]⟩, .int .i64 0, .int .i64 0, .int .i64 0, .string ⟨#[]⟩, .slice none 0 0, .bool false, .bool false, .bool false, .bool false, .slice none 0 0, .slice none 0 0] ∧ OwnT w8 w0.heap.size (some ⟨g6, 0, none⟩) s.p.m s.p.m s.p.S ∧ Below w.heap.size w w8) := (by first | exact KNX.out _ _ _ K7.out O8 b8 | exact KNX.out _ _ _ (KST.out _ K7.out) O8 b8); clear O8 b8; obtain ⟨t0, t1, t2, t3, t4, t5, t6, t7, t8, t9, t10, t11, t12⟩ := KQ.out _ K8.out.1; obtain ⟨gf0, gf1, gf2, gf3, gf4, gf5, gf6⟩ := KF.out _ K8.out.1) | (go_at_call 116; refine Calls.mono (KCr.out _) ?_; rintro e w7 ⟨rfl, b7'⟩; have b07 := below_of_drew b7'; clear b7'; have K7 : Hid _ := KTW.out _ b07; clear b07; obtain ⟨p0, p1, p2, p3, p4, p5, p6, p7, p8, p9, p10, p11, p12⟩ := KQ.out _ K7.out.1; obtain ⟨pf0, pf1, pf2, pf3, pf4, pf5, pf6⟩ := KF.out _ K7.out.1)))
  all_goals
   have lA8 := lA
   go_wp2_with fail
   go_meet
   first
    | exact ⟨g6, (((((((K8.out.1.set 0 _).set 1 _).set 2 _).set 3 _).set 4 _).set 5 _).set 6 _), (((((((K8.out.2.1.other 0 _ (Ne.symm hAD.out.1)).other 1 _ (Ne.symm hAD.out.1)).other 2 _ (Ne.symm hAD.out.1)).other 3 _ (Ne.symm hAD.out.1)).other 4 _ (Ne.symm hAD.out.1)).other 5 _ (Ne.symm hAD.out.1)).other 6 _ (Ne.symm hAD.out.1)), (((((((K8.out.2.2.1.setFar lA8).setFar lA8).setFar lA8).setFar lA8).setFar lA8).setFar lA8).setFar lA8), (((((((K8.out.2.2.2.setCell hAD.out.2.1 _).setCell hAD.out.2.1 _).setCell hAD.out.2.1 _).setCell hAD.out.2.1 _).setCell hAD.out.2.1 _).setCell hAD.out.2.1 _).setCell hAD.out.2.1 _)⟩
    | exact ⟨g6, ((((((K8.out.1.set 1 _).set 2 _).set 3 _).set 4 _).set 5 _).set 6 _), ((((((K8.out.2.1.other 1 _ (Ne.symm hAD.out.1)).other 2 _ (Ne.symm hAD.out.1)).other 3 _ (Ne.symm hAD.out.1)).other 4 _ (Ne.symm hAD.out.1)).other 5 _ (Ne.symm hAD.out.1)).other 6 _ (Ne.symm hAD.out.1)), ((((((K8.out.2.2.1.setFar lA8).setFar lA8).setFar lA8).setFar lA8).setFar lA8).setFar lA8), ((((((K8.out.2.2.2.setCell hAD.out.2.1 _).setCell hAD.out.2.1 _).setCell hAD.out.2.1 _).setCell hAD.out.2.1 _).setCell hAD.out.2.1 _).setCell hAD.out.2.1 _)⟩
 obtain ⟨g6, RAc, RDc, Oc, Bc⟩ := hcut.out
 clear hcut RA RD KCr KCP
 have RA : Hid (Row wc A 76 (slC s (.slice (some ⟨g6, 0, none⟩) s.p.m s.p.m) (.slice a11 s.ze.length c11) (.slice a12 s.zr.length c12))) := RAc
 have RD : Hid (Row wc D 76 #[.string ⟨#[]⟩, .string ⟨#[]⟩, .int .i64 0, .int .i64 0, .int .i64 0, .string ⟨#[]⟩, .slice none 0 0, .bool false, .bool false, .bool false, .bool false, .slice none 0 0, .slice none 0 0]) := RDc
 have KO6 : Hid (OwnT wc w0.heap.size (some ⟨g6, 0, none⟩) s.p.m s.p.m s.p.S) := Oc
 have KBc : Hid (Below w.heap.size w wc) := Bc
 have HL0 : Hid (A < w0.heap.size ∧ D < w0.heap.size) := by
  have h1 := HA.out
  have h2 := HD.out
  rw [HW0.out]
  show A < _ ∧ D < _
  simp
  omega
 clear RAc RDc Oc Bc KB0 HW0
 go_upto_region 2 with fail
 obtain ⟨wb, HWB⟩ : ∃ x, x = wc := ⟨wc, rfl⟩
 subst HWB
 go_cut [] from 11 to 18 (fun wx => Hid (CpB w0 wb w s A D g6 wx))
 case first =>
  have lA := RA.out.lt
  have lD := RD.out.lt
  have q11 := RA.out.cell 11
  have q12 := RA.out.cell 12
  simp at q11 q12
  have KTW : Hid (∀ W, Below wb.heap.size wb W → (W.cell? ⟨A, 11, none⟩ = some (.slice a11 s.ze.length c11) ∧ W.cell? ⟨A, 12, none⟩ = some (.slice a12 s.zr.length c12)) ∧ W.frozen? ⟨A, 11, none⟩ = false ∧ W.frozen? ⟨A, 12, none⟩ = false) := fun W hW => by
   have R := RA.out.below hW lA
   have z11 := R.cell 11
   have z12 := R.cell 12
   simp at z11 z12
   exact ⟨⟨z11, z12⟩, R.free 11, R.free 12⟩
  have KTX : Hid (∀ W v W', Below wb.heap.size wb W → Below (W.setCell ⟨A, 11, none⟩ v).heap.size (W.setCell ⟨A, 11, none⟩ v) W' → W'.cell? ⟨A, 12, none⟩ = some (.slice a12 s.zr.length c12) ∧ W'.frozen? ⟨A, 12, none⟩ = false) := fun W v W' hW hW' => by
   have R := ((RA.out.below hW lA).set 11 v).below hW' (by simp; exact Nat.lt_of_lt_of_le lA hW.size)
   have z12 := R.cell 12
   simp at z12
   exact ⟨z12, R.free 12⟩
  go_region_with ((first | (guard_hyp d1; go_at_call 118; refine Calls.mono (KC2.out _ (by first | exact below2 KBc.out K7.out.1 | exact (below2 KBc.out K7.out.1).setCell hAD.out.2.1 _)) ?_; rintro e w8 ⟨e12, h12, rfl, O8, b8⟩; have KO8 : Hid _ := O8; have KB8 : Hid _ := b8; first | (obtain ⟨⟨t11, t12⟩, tf11, tf12⟩ := KTW.out _ (below2 K7.out.1 b8); clear O8 b8) | (obtain ⟨t12, tf12⟩ := KTX.out _ _ _ K7.out.1 b8; clear O8 b8)) | (go_at_call 118; refine Calls.mono (KC1.out _ (below_drewN KBc.out 1)) ?_; rintro e w7 ⟨e11, h11, rfl, O7, b7'⟩; have b07 := below_of_drew b7'; have K7 : Hid (Below wb.heap.size wb w7 ∧ Ow w7 wb.heap.size (inD s.ze) (.slice e11 s.ze.length h11) (rng wb.heap.size w7.heap.size)) := ⟨b07, O7⟩; have d1 : Hid True := trivial; clear b7' O7; obtain ⟨⟨p11, p12⟩, pf11, pf12⟩ := KTW.out _ b07; clear b07)))
  all_goals
   go_wp2_with fail
   go_meet
   first
    | exact cpB_a RA.out RD.out KO6.out HL0.out.1 ⟨hAD.out.1, hAD.out.2.1⟩ KBc.out K7.out.1 K7.out.2 KB8.out KO8.out
    | exact cpB_b RA.out RD.out KO6.out HL0.out.1 ⟨hAD.out.1, hAD.out.2.1⟩ KBc.out K7.out.1 K7.out.2 KB8.out KO8.out
 obtain ⟨e11, e12, h11, h12, F11, F12, RAd, RDd, O6, O11, O12, hd, hg1, hg2, Bd⟩ := hcut.out
 clear hcut KC1 KC2
 have LC : Hid (A < wb.heap.size ∧ D < wb.heap.size ∧ w.heap.size ≤ wb.heap.size) := ⟨RA.out.lt, RD.out.lt, KBc.out.size⟩
 have l6 := World.ownsRow.lt KO6.out g6 rfl
 have w0w : w.heap.size ≤ w0.heap.size := by have := HA.out; have := HL0.out.1; omega
 have HA6 : Hid (Row wc A 76 (slC s (.slice (some ⟨g6, 0, none⟩) s.p.m s.p.m) (.slice e11 s.ze.length h11) (.slice e12 s.zr.length h12))) := RAd
 have HD6 : Hid (Row wc D 76 #[.string ⟨#[]⟩, .string ⟨#[]⟩, .int .i64 0, .int .i64 0, .int .i64 0, .string ⟨#[]⟩, .slice none 0 0, .bool false, .bool false, .bool false, .bool false, .slice none 0 0, .slice none 0 0]) := RDd
 obtain ⟨w7, HW7⟩ : ∃ x, Hid (x = wc.setRow D (slC s (.slice (some ⟨g6, 0, none⟩) s.p.m s.p.m) (.slice e11 s.ze.length h11) (.slice e12 s.zr.length h12))) := ⟨_, rfl⟩
 have ZR : Hid (Row w7 D 76 (slC s (.slice (some ⟨g6, 0, none⟩) s.p.m s.p.m) (.slice e11 s.ze.length h11) (.slice e12 s.zr.length h12))) := by show Row _ _ _ _; rw [HW7.out]; exact RDd.row
 have ZB : Hid (Below w.heap.size w w7) := by show Below _ _ _; rw [HW7.out]; exact belowSetRow Bd hAD.out.2.2 _
 have Z6 : Hid (Ow w7 w.heap.size (txD s.p.m s.p.S) (.slice (some ⟨g6, 0, none⟩) s.p.m s.p.m) (fun x => x = g6)) := by
  show Ow _ _ _ _ _
  rw [HW7.out]
  refine ow_txt (own_kept (OwnT.base O6 w0w) (grown_row _ _ _) (fun x e => ?_)) (fun x e => by cases e; rfl)
  cases e
  show g6 ≠ D
  have := l6.1
  have := HL0.out.2
  omega
 have Z11 : Hid (Ow w7 w.heap.size (inD s.ze) (.slice e11 s.ze.length h11) F11) := by
  show Ow _ _ _ _ _
  rw [HW7.out]
  exact (O11.base LC.out.2.2).frame fun x hx _ => setRow_other _ _ _ _ (fun e => by have := hg1 x hx; have := LC.out.2.1; omega)
 have Z12 : Hid (Ow w7 w.heap.size (inD s.zr) (.slice e12 s.zr.length h12) F12) := by
  show Ow _ _ _ _ _
  rw [HW7.out]
  exact (O12.base LC.out.2.2).frame fun x hx _ => setRow_other _ _ _ _ (fun e => by have := hg2 x hx; have := LC.out.2.1; omega)
 have HSO : Hid (SlO w7 w.heap.size s (.slice (some ⟨g6, 0, none⟩) s.p.m s.p.m) (.slice e11 s.ze.length h11) (.slice e12 s.zr.length h12) (fun x => x = g6) F11 F12) := ⟨Z6.out, Z11.out, Z12.out, fun x e h => by have := hg1 x h; have := l6.2; omega, fun x e h => by have := hg2 x h; have := l6.2; omega, hd⟩
 clear RAd RDd O6 O11 O12 hd hg1 hg2 Bd l6 w0w Z6 Z11 Z12 RA RD KO6 KBc
 go_wp2_with (first | (refine wpList_load_row (by rfl) 76 _ (by rfl) A (by rfl) 76 (slC s (.slice (some ⟨g6, 0, none⟩) s.p.m s.p.m) (.slice e11 s.ze.length h11) (.slice e12 s.zr.length h12)) (0, 0) _ ?_ Tryz.underlying76 (by rfl) Tryz.infoSl ?_; exact HA6.out) | (refine wpList_store_row (by rfl) 76 _ _ (by rfl) D (slC s (.slice (some ⟨g6, 0, none⟩) s.p.m s.p.m) (.slice e11 s.ze.length h11) (.slice e12 s.zr.length h12)) (by rfl) (by rfl) 76 #[.string ⟨#[]⟩, .string ⟨#[]⟩, .int .i64 0, .int .i64 0, .int .i64 0, .string ⟨#[]⟩, .slice none 0 0, .bool false, .bool false, .bool false, .bool false, .slice none 0 0, .slice none 0 0] ?_ Tryz.infoSl rfl (by simp [Value.oneCell']) ?_; exact HD6.out; rw [← HW7.out]))
 exact bodyPost_ret (v := slV s (.slice (some ⟨g6, 0, none⟩) s.p.m s.p.m) (.slice e11 s.ze.length h11) (.slice e12 s.zr.length h12)) (results_cell_row Tryz.results79 _ _ D 76 _ (0, 0) _ (by rfl) ZR.out Tryz.underlying76 (by rfl) Tryz.infoSl) rfl ⟨g6, e11, e12, h11, h12, _, _, _, rfl, HSO.out, ZB.out⟩
structure SyB (s : Sy) : Prop where
 r : s.r.size ≤ maxLen
 pr : s.p.r.size ≤ maxLen
 pb : s.p.b.size ≤ maxLen
 m : s.p.m ≤ maxLen
 tx : ∀ i, i < s.p.m → (s.p.S i).size ≤ maxLen
def wtY (s : Sy) : Nat := s.r.size + wtP s.p
def wtYs (n : Nat) (N : Nat → Sy) : Nat := n + tot (fun i => wtY (N i)) n
theorem Tryz.infoSyL : (Tryz.prog.info? 67).map (·.size) = some 10 := by kernel_rfl
theorem Tryz.infoSy2 : (Tryz.prog.info? 85).map (·.size) = some 10 := by kernel_rfl
theorem say_at {w : World} {n : Nat} {N : Nat → Sy} {a : Option Addr} {cap : Nat} (h : Rd w (sysD n N) (.slice a n cap)) {c : Nat} (hc : c < n) :
  ∃ (b off : Nat) (an : Option Addr) (cn : Nat), a = some ⟨b, off, none⟩ ∧ w.rangeAt b (off + c * 10) [.int .i64 (N c).k, .int .i64 (N c).f, .int .i64 (N c).t, .string (N c).r, .string (N c).p.r, .int .i64 (N c).p.k, .int .i64 (N c).p.n, .int .i64 (N c).p.i, .string (N c).p.b, .slice an (N c).p.m cn] ∧ TxtAt w an (N c).p.m (N c).p.S := by
 obtain ⟨b, off, y, an, cn, ea, hy, e, ht⟩ := say_row h hc
 obtain ⟨_, x⟩ := one_row (sz := 9) w (Below.refl _ _) hy
 have R := range10 x
 have h' := congrArg (fun v => match v with | Value.agg a => a.toList | _ => []) e
 have h'' : [y 0, y 1, y 2, y 3, y 4, y 5, y 6, y 7, y 8, y 9] = [.int .i64 (N c).k, .int .i64 (N c).f, .int .i64 (N c).t, .string (N c).r, .string (N c).p.r, .int .i64 (N c).p.k, .int .i64 (N c).p.n, .int .i64 (N c).p.i, .string (N c).p.b, .slice an (N c).p.m cn] := h'
 rw [h''] at R
 exact ⟨b, off, an, cn, ea, R, ht⟩
theorem szSy_any (s : Sy) (an : Option Addr) (cn l : Nat) (w : World) (h : TxtAt w an s.p.m s.p.S) (hB : SyB s) (hl : l ≤ 1048576) :
  Calls Tryz.prog 32 #[syV s (.slice an s.p.m cn), .int .i64 (l : Int)] w fun e w' => e = .returned (.int .i64 (szN l (wtY s))) ∧ Below w.heap.size w w' := by
 obtain ⟨A, HA⟩ : ∃ x, Hid (x = w.heap.size) := ⟨_, rfl⟩
 obtain ⟨w0, HW0⟩ : ∃ x, Hid (x = w.alloc (.cells (syC s (.slice an s.p.m cn)) 67)) := ⟨_, rfl⟩
 have hb0 : Below w.heap.size w w0 := by rw [HW0.out]; exact (Below.refl _ _).alloc (Nat.le_refl _) _
 have KB0 : Hid (Below w.heap.size w w0) := hb0
 have KP : Hid (∀ l1 : Nat, l1 ≤ 1048576 → Calls Tryz.prog 15 #[pcV s.p.r s.p.k s.p.n s.p.i s.p.b (.slice an s.p.m cn), .int .i64 (l1 : Int)] w0 fun e w' => e = .returned (.int .i64 (szN l1 (wtP s.p))) ∧ Below w0.heap.size w0 w') := fun l1 h1 => by
  rw [← szPc_eq]
  exact szPc_any s.p.r s.p.k s.p.n s.p.i s.p.b an s.p.m cn s.p.S l1 w0 (h.below hb0) h1 hB.m hB.tx hB.pr hB.pb
 have HWT : Hid (wtY s = s.r.size + wtP s.p) := rfl
 rw [HWT.out]
 obtain ⟨x, HX⟩ : ∃ x, Hid (s.r.size = x) := ⟨_, rfl⟩
 obtain ⟨wp, HP⟩ : ∃ x, Hid (wtP s.p = x) := ⟨_, rfl⟩
 have hx := hB.r
 unfold maxLen at hx
 rw [HX.out] at hx
 rw [HX.out, HP.out]
 rw [HP.out] at KP
 have hsz : (s.r.size : Int) = (x : Int) := by rw [HX.out]
 clear h hB hb0 HWT
 by_cases h1 : x ≤ l
 case neg =>
  rw [szN_no (by omega)]
  have e1 : IntKind.i64.wrap ((l : Int) - (x : Int)) = (l : Int) - (x : Int) := by rw [IntKind.wrap_i64]; omega
  have h0 : (l : Int) - (x : Int) < 0 := by omega
  go_enter Tryz.func32, Tryz.ntmps32
  go_wp2
  rw [← HW0.out]
  go_ret
  exact ⟨rfl, KB0.out⟩
 obtain ⟨l1, HL1⟩ : ∃ q, Hid (l - x = q) := ⟨_, rfl⟩
 have hl1 := HL1.out
 have e1 : IntKind.i64.wrap ((l : Int) - (x : Int)) = (l1 : Int) := by rw [IntKind.wrap_i64]; omega
 have n1 : ¬ ((l1 : Int) < 0) := by omega
 have KP1 : Hid _ := KP.out l1 (by omega)
 by_cases h2 : wp ≤ l1
 ·obtain ⟨l2, HL2⟩ : ∃ q, Hid (l1 - wp = q) := ⟨_, rfl⟩
  have hl2 := HL2.out
  have n2 : ¬ ((l2 : Int) < 0) := by omega
  have HR : Hid (szN l (x + wp) = (l2 : Int)) := by show _ = _; rw [szN_yes (by omega)]; congr 1; omega
  rw [szN_yes h2, HL2.out] at KP1
  rw [HR.out]
  clear h1 h2 hl1 hl2 KP
  go_enter Tryz.func32, Tryz.ntmps32
  go_wp2_with fail
  rw [← HW0.out]
  refine Calls.mono KP1.out ?_
  rintro e w1 ⟨rfl, b1⟩
  go_wp2
  go_ret
  exact ⟨rfl, below2 KB0.out b1⟩
 ·have HR : Hid (szN l (x + wp) = -1) := szN_no (by omega)
  rw [szN_no h2] at KP1
  rw [HR.out]
  clear h1 h2 hl1 KP
  go_enter Tryz.func32, Tryz.ntmps32
  go_wp2_with fail
  rw [← HW0.out]
  refine Calls.mono KP1.out ?_
  rintro e w1 ⟨rfl, b1⟩
  go_wp2
  go_ret
  exact ⟨rfl, below2 KB0.out b1⟩
theorem szSys_any (a : Option Addr) (n cap : Nat) (N : Nat → Sy) (l : Nat) (w : World) (h : Rd w (sysD n N) (.slice a n cap)) (hl : l ≤ 1048576) (hn : n ≤ maxLen) (hL : ∀ i, i < n → SyB (N i)) :
  Calls Tryz.prog 14 #[.slice a n cap, .int .i64 (l : Int)] w fun e w' => e = .returned (.int .i64 (szN l (wtYs n N))) ∧ Below w.heap.size w w' := by
 unfold maxLen at hn
 by_cases h1 : n ≤ l
 ·obtain ⟨d, hd⟩ : ∃ d, l - n = d := ⟨_, rfl⟩
  have hw : IntKind.i64.wrap ((l : Int) - (n : Int)) = (d : Int) := by rw [IntKind.wrap_i64]; omega
  have h0 : ¬ ((d : Int) < 0) := by omega
  have KL : Hid (∀ i, i < n → SyB (N i)) := hL
  have KH : Hid (Rd w (sysD n N) (.slice a n cap)) := h
  clear hL h
  go_enter Tryz.func14, Tryz.ntmps14
  go_wp2
  go_loopw [1, 5] (fun p i wr => ∃ c q : Nat, c ≤ n ∧ q ≤ 1048576 ∧ Hid (tot (fun i => wtY (N i)) c + q = d) ∧ p = .int .i64 (q : Int) ∧ i = .int .i64 (c : Int) ∧ Below w.heap.size w wr) (fun _ i _ => n - (intOf i).toNat)
  case atStart => exact ⟨0, d, Nat.zero_le _, by omega, by show 0 + d = d; omega, rfl, rfl, Below.refl _ _⟩
  case round =>
   obtain ⟨c, q, hc, hq, HT, rfl, rfl, hbel⟩ := hrel
   clear hw h0
   by_cases hlt : c < n
   ·obtain ⟨b1, f1, an, cn, rfl, R1', hr1⟩ := say_at (KH.out.below hbel) hlt
    have hti := tot_le (fun i => wtY (N i)) hlt
    have hlti : (c : Int) < (n : Int) := by omega
    have HT' := HT.out
    obtain ⟨lc, HLC⟩ : ∃ x, Hid (wtY (N c) = x) := ⟨_, rfl⟩
    have KTS : Hid (tot (fun i => wtY (N i)) (c + 1) = tot (fun i => wtY (N i)) c + lc) := by rw [← HLC.out]; rfl
    have hti' : tot (fun i => wtY (N i)) c + lc ≤ tot (fun i => wtY (N i)) n := by rw [← HLC.out]; exact hti
    have KZ : Hid (Calls Tryz.prog 32 #[.agg #[.int .i64 (N c).k, .int .i64 (N c).f, .int .i64 (N c).t, .string (N c).r, .string (N c).p.r, .int .i64 (N c).p.k, .int .i64 (N c).p.n, .int .i64 (N c).p.i, .string (N c).p.b, .slice an (N c).p.m cn], .int .i64 (q : Int)] wr fun e w' => e = .returned (.int .i64 (szN q lc)) ∧ Below wr.heap.size wr w') := by
     rw [← HLC.out]
     exact szSy_any (N c) an cn q wr hr1 (KL.out c hlt) hq
    have R1 : Hid (wr.rangeAt b1 (f1 + c * 10) [.int .i64 (N c).k, .int .i64 (N c).f, .int .i64 (N c).t, .string (N c).r, .string (N c).p.r, .int .i64 (N c).p.k, .int .i64 (N c).p.n, .int .i64 (N c).p.i, .string (N c).p.b, .slice an (N c).p.m cn]) := R1'
    have KB : Hid (Below w.heap.size w wr) := hbel
    clear hti R1' hr1 hbel
    by_cases h2 : lc ≤ q
    ·obtain ⟨q', hq'⟩ : ∃ q', q - lc = q' := ⟨_, rfl⟩
     have h3 : ¬ ((q' : Int) < 0) := by omega
     have HT2 : Hid (tot (fun i => wtY (N i)) (c + 1) + q' = d) := by show _ = _; rw [KTS.out]; omega
     have hq2 : q' ≤ 1048576 := by omega
     rw [szN_yes h2, hq'] at KZ
     clear HT HT' hti' KTS
     go_wp2_with (refine wpList_load_mid (by rfl) 67 _ (by rfl) b1 (f1 + c * 10) (by rfl) [.int .i64 (N c).k, .int .i64 (N c).f, .int .i64 (N c).t, .string (N c).r, .string (N c).p.r, .int .i64 (N c).p.k, .int .i64 (N c).p.n, .int .i64 (N c).p.i, .string (N c).p.b, .slice an (N c).p.m cn] _ ?_ Tryz.underlying67 (by rfl) Tryz.infoSyL ?_; exact R1.out)
     refine Calls.mono KZ.out ?_
     rintro e w1 ⟨rfl, bb⟩
     have KB1 : Hid (Below w.heap.size w w1) := below2 KB.out bb
     clear bb KZ R1
     go_wp2
     go_roundw
     case rel => exact ⟨c + 1, q', by omega, hq2, HT2, rfl, by go_num, KB1.out⟩
     case measure => simp [intOf] <;> omega
    ·have HR : Hid (szN l (wtYs n N) = -1) := szN_no (by unfold wtYs; omega)
     rw [szN_no h2] at KZ
     clear HT HT' hti' KTS
     go_wp2_with (refine wpList_load_mid (by rfl) 67 _ (by rfl) b1 (f1 + c * 10) (by rfl) [.int .i64 (N c).k, .int .i64 (N c).f, .int .i64 (N c).t, .string (N c).r, .string (N c).p.r, .int .i64 (N c).p.k, .int .i64 (N c).p.n, .int .i64 (N c).p.i, .string (N c).p.b, .slice an (N c).p.m cn] _ ?_ Tryz.underlying67 (by rfl) Tryz.infoSyL ?_; exact R1.out)
     refine Calls.mono KZ.out ?_
     rintro e w1 ⟨rfl, bb⟩
     have KB1 : Hid (Below w.heap.size w w1) := below2 KB.out bb
     clear bb KZ R1
     go_wp2
     go_ret
     exact ⟨ret_int HR.out.symm, KB1.out⟩
   ·obtain rfl : c = n := by omega
    have HR : Hid (szN l (wtYs c N) = (q : Int)) := by
     have := HT.out
     have e : l - (c + tot (fun i => wtY (N i)) c) = q := by omega
     exact (szN_yes (by unfold wtYs; omega)).trans (by unfold wtYs; rw [e])
    clear KH
    go_wp2
    go_ret
    exact ⟨ret_int HR.out.symm, hbel⟩
 ·have h0 : (l : Int) - (n : Int) < 0 := by omega
  have hw : IntKind.i64.wrap ((l : Int) - (n : Int)) = (l : Int) - (n : Int) := by rw [IntKind.wrap_i64]; omega
  have HR : Hid (szN l (wtYs n N) = -1) := szN_no (by unfold wtYs; omega)
  clear h hL
  go_enter Tryz.func14, Tryz.ntmps14
  go_wp2
  go_ret
  exact ⟨ret_int HR.out.symm, Below.refl _ _⟩
theorem toSy_any (s : Sy) (an : Option Addr) (cn : Nat) (w : World) (h : TxtAt w an s.p.m s.p.S) (hm : s.p.m ≤ 1048576) :
  Calls Tryz.prog 40 #[syV s (.slice an s.p.m cn)] w fun e w' => ∃ g, e = .returned (syV s (.slice (some ⟨g, 0, none⟩) s.p.m s.p.m)) ∧ Ow w' w.heap.size (txD s.p.m s.p.S) (.slice (some ⟨g, 0, none⟩) s.p.m s.p.m) (fun x => x = g) ∧ w.heap.size ≤ g ∧ g < w'.heap.size ∧ Below w.heap.size w w' := by
 obtain ⟨A, HA⟩ : ∃ x, Hid (x = w.heap.size) := ⟨_, rfl⟩
 obtain ⟨D, HD⟩ : ∃ x, Hid (x = w.heap.size + 1) := ⟨_, rfl⟩
 obtain ⟨V, HV⟩ : ∃ x, Hid (x = w.heap.size + 1 + 1) := ⟨_, rfl⟩
 obtain ⟨w0, HW0⟩ : ∃ x, Hid (x = ((w.alloc (.cells (syC s (.slice an s.p.m cn)) 67)).alloc (.cells #[.int .i64 0, .int .i64 0, .int .i64 0, .string ⟨#[]⟩, .string ⟨#[]⟩, .int .i64 0, .int .i64 0, .int .i64 0, .string ⟨#[]⟩, .slice none 0 0] 85)).alloc (.cells #[.int .i64 s.k, .int .i64 s.f, .int .i64 s.t, .string s.r, .string ⟨#[]⟩, .int .i64 0, .int .i64 0, .int .i64 0, .string ⟨#[]⟩, .slice none 0 0] 85)) := ⟨_, rfl⟩
 have RD : Hid (Row w0 D 85 #[.int .i64 0, .int .i64 0, .int .i64 0, .string ⟨#[]⟩, .string ⟨#[]⟩, .int .i64 0, .int .i64 0, .int .i64 0, .string ⟨#[]⟩, .slice none 0 0]) := by
  show Row _ _ _ _
  rw [HW0.out, HD.out]
  have := Row.new (w.alloc (.cells (syC s (.slice an s.p.m cn)) 67)) #[.int .i64 0, .int .i64 0, .int .i64 0, .string ⟨#[]⟩, .string ⟨#[]⟩, .int .i64 0, .int .i64 0, .int .i64 0, .string ⟨#[]⟩, .slice none 0 0] 85
  exact Row.alloc (by simpa using this) _
 have RV : Hid (Row w0 V 85 #[.int .i64 s.k, .int .i64 s.f, .int .i64 s.t, .string s.r, .string ⟨#[]⟩, .int .i64 0, .int .i64 0, .int .i64 0, .string ⟨#[]⟩, .slice none 0 0]) := by
  show Row _ _ _ _
  rw [HW0.out, HV.out]
  have := Row.new ((w.alloc (.cells (syC s (.slice an s.p.m cn)) 67)).alloc (.cells #[.int .i64 0, .int .i64 0, .int .i64 0, .string ⟨#[]⟩, .string ⟨#[]⟩, .int .i64 0, .int .i64 0, .int .i64 0, .string ⟨#[]⟩, .slice none 0 0] 85)) #[.int .i64 s.k, .int .i64 s.f, .int .i64 s.t, .string s.r, .string ⟨#[]⟩, .int .i64 0, .int .i64 0, .int .i64 0, .string ⟨#[]⟩, .slice none 0 0] 85
  simpa using this
 have hb0 : Below w.heap.size w w0 := by rw [HW0.out]; exact (((Below.refl _ _).alloc (Nat.le_refl _) _).alloc (by simp) _).alloc (by simp; omega) _
 have KB0 : Hid (Below w.heap.size w w0) := hb0
 have HL : Hid (V ≠ D ∧ w.heap.size ≤ D ∧ w.heap.size ≤ V ∧ V < w0.heap.size ∧ D < w0.heap.size) := ⟨by have := HV.out; have := HD.out; omega, by have := HD.out; omega, by have := HV.out; omega, RV.out.lt, RD.out.lt⟩
 have KT : Hid _ := toPc_any s.p.r s.p.k s.p.n s.p.i s.p.b an s.p.m cn s.p.S w0 (h.below hb0) hm
 clear h hb0
 go_enter Tryz.func40, Tryz.ntmps40
 go_wp2_with fail
 rw [← HW0.out, ← HV.out, ← HD.out, ← HA.out]
 refine Calls.mono KT.out ?_
 rintro e w2 ⟨g, rfl, O2, b2⟩
 have RV2 := RV.out.below b2 RV.out.lt
 have RD2 := RD.out.below b2 RD.out.lt
 have y4 := RV2.cell 4
 have f4 := RV2.free 4
 have y5 := RV2.cell 5
 have f5 := RV2.free 5
 have y6 := RV2.cell 6
 have f6 := RV2.free 6
 have y7 := RV2.cell 7
 have f7 := RV2.free 7
 have y8 := RV2.cell 8
 have f8 := RV2.free 8
 have y9 := RV2.cell 9
 have f9 := RV2.free 9
 simp at y4 y5 y6 y7 y8 y9
 obtain ⟨w3, HW3⟩ : ∃ x, Hid (x = ((((((w2.setCell ⟨V, 4, none⟩ (.string s.p.r)).setCell ⟨V, 5, none⟩ (.int .i64 s.p.k)).setCell ⟨V, 6, none⟩ (.int .i64 s.p.n)).setCell ⟨V, 7, none⟩ (.int .i64 s.p.i)).setCell ⟨V, 8, none⟩ (.string s.p.b)).setCell ⟨V, 9, none⟩ (.slice (some ⟨g, 0, none⟩) s.p.m s.p.m))) := ⟨_, rfl⟩
 have l2 := World.ownsRow.lt O2 g rfl
 have K3 : Hid (Row w3 V 85 (syC s (.slice (some ⟨g, 0, none⟩) s.p.m s.p.m)) ∧ Row w3 D 85 #[.int .i64 0, .int .i64 0, .int .i64 0, .string ⟨#[]⟩, .string ⟨#[]⟩, .int .i64 0, .int .i64 0, .int .i64 0, .string ⟨#[]⟩, .slice none 0 0] ∧ OwnT w3 w0.heap.size (some ⟨g, 0, none⟩) s.p.m s.p.m s.p.S ∧ Below w.heap.size w w3) := by
  rw [HW3.out]
  exact ⟨(((((RV2.set 4 _).set 5 _).set 6 _).set 7 _).set 8 _).set 9 _, (((((RD2.other 4 _ (Ne.symm HL.out.1)).other 5 _ (Ne.symm HL.out.1)).other 6 _ (Ne.symm HL.out.1)).other 7 _ (Ne.symm HL.out.1)).other 8 _ (Ne.symm HL.out.1)).other 9 _ (Ne.symm HL.out.1), (((((O2.setFar HL.out.2.2.2.1).setFar HL.out.2.2.2.1).setFar HL.out.2.2.2.1).setFar HL.out.2.2.2.1).setFar HL.out.2.2.2.1).setFar HL.out.2.2.2.1, ((((((below2 KB0.out b2).setCell HL.out.2.2.1 _).setCell HL.out.2.2.1 _).setCell HL.out.2.2.1 _).setCell HL.out.2.2.1 _).setCell HL.out.2.2.1 _).setCell HL.out.2.2.1 _⟩
 obtain ⟨w7, HW7⟩ : ∃ x, Hid (x = w3.setRow D (syC s (.slice (some ⟨g, 0, none⟩) s.p.m s.p.m))) := ⟨_, rfl⟩
 have ZR : Hid (Row w7 D 85 (syC s (.slice (some ⟨g, 0, none⟩) s.p.m s.p.m))) := by show Row _ _ _ _; rw [HW7.out]; exact K3.out.2.1.row
 have ZB : Hid (Below w.heap.size w w7) := by show Below _ _ _; rw [HW7.out]; exact belowSetRow K3.out.2.2.2 HL.out.2.1 _
 have w0w : w.heap.size ≤ w0.heap.size := KB0.out.size
 have ZO : Hid (OwnT w7 w.heap.size (some ⟨g, 0, none⟩) s.p.m s.p.m s.p.S) := by
  show OwnT _ _ _ _ _ _
  rw [HW7.out]
  exact own_kept (OwnT.base K3.out.2.2.1 w0w) (grown_row _ _ _) (fun x e => by cases e; show g ≠ D; have := l2.1; have := HL.out.2.2.2.2; omega)
 have l7 := World.ownsRow.lt ZO.out g rfl
 have KL : Hid (w.heap.size ≤ g ∧ g < w7.heap.size) := l7
 clear O2 b2 RV2 RD2 l2 l7 w0w
 go_wp2_with (first | (rw [← HW3.out]; refine wpList_load_row (by rfl) 85 _ (by rfl) V (by rfl) 85 (syC s (.slice (some ⟨g, 0, none⟩) s.p.m s.p.m)) (0, 0) _ ?_ Tryz.underlying85 (by rfl) Tryz.infoSy2 ?_; exact K3.out.1; clear y4 f4 y5 f5 y6 f6 y7 f7 y8 f8 y9 f9) | (refine wpList_store_row (by rfl) 85 _ _ (by rfl) D (syC s (.slice (some ⟨g, 0, none⟩) s.p.m s.p.m)) (by rfl) (by rfl) 85 #[.int .i64 0, .int .i64 0, .int .i64 0, .string ⟨#[]⟩, .string ⟨#[]⟩, .int .i64 0, .int .i64 0, .int .i64 0, .string ⟨#[]⟩, .slice none 0 0] ?_ Tryz.infoSy2 rfl (by simp [Value.oneCell']) ?_; exact K3.out.2.1; rw [← HW7.out]))
 exact bodyPost_ret (v := syV s (.slice (some ⟨g, 0, none⟩) s.p.m s.p.m)) (results_cell_row Tryz.results40 _ _ D 85 _ (0, 0) _ (by rfl) ZR.out Tryz.underlying85 (by rfl) Tryz.infoSy2) rfl ⟨g, rfl, ow_txt ZO.out (fun x e => by cases e; rfl), KL.out.1, KL.out.2, ZB.out⟩
def syN : Sy := ⟨0, 0, 0, ByteArray.empty, ⟨ByteArray.empty, 0, 0, 0, ByteArray.empty, 0, fun _ => ByteArray.empty⟩⟩
def zcY : List Value := [.int .i64 0, .int .i64 0, .int .i64 0, .string ByteArray.empty, .string ByteArray.empty, .int .i64 0, .int .i64 0, .int .i64 0, .string ByteArray.empty, .slice none 0 0]
theorem Tryz.infoSyZ : (Tryz.prog.info? 85).map (fun i => (i.zero, i.size, i.bytes)) = some (some (.agg zcY.toArray), 10, 120) := by kernel_rfl
theorem ow_syZ (w : World) (B q : Nat) (hq : q < 10) : Ow w B (syD syN q) (zcY.getD q undef) (fun _ => False) := by
 match q, hq with
 | 0, _ | 1, _ | 2, _ | 3, _ | 4, _ | 5, _ | 6, _ | 7, _ | 8, _ => rfl
 | 9, _ => exact Ow.nil _ _ _ _ _ _
theorem ow_say {w : World} {B : Nat} {d : Sy} {v : Value} {F : Nat → Prop} (h : Ow w B (txD d.p.m d.p.S) v F) (q : Nat) (hq : q < 10) : Ow w B (syD d q) ((syC d v).toList.getD q undef) (fun x => q = 9 ∧ F x) := by
 match q, hq with
 | 0, _ | 1, _ | 2, _ | 3, _ | 4, _ | 5, _ | 6, _ | 7, _ | 8, _ => rfl
 | 9, _ => exact Ow.mono h fun g hg => ⟨rfl, hg⟩
theorem toSys_any (a : Option Addr) (n cap : Nat) (N : Nat → Sy) (w : World) (h : Rd w (sysD n N) (.slice a n cap)) (hn : n ≤ 1048576) (hs : ∀ i, i < n → (N i).p.m ≤ 1048576) :
  Calls Tryz.prog 21 #[.slice a n cap] w fun e w' => e = .returned (.slice (some ⟨w.heap.size, 0, none⟩) n n) ∧ Ow w' w.heap.size (sysD n N) (.slice (some ⟨w.heap.size, 0, none⟩) n n) (rng w.heap.size w'.heap.size) ∧ Below w.heap.size w w' := by
 obtain ⟨i0, hi, hz0, hz1, hz2⟩ := info_parts Tryz.infoSyZ
 have KH : Hid (Rd w (sysD n N) (.slice a n cap)) := h
 have HS : Hid (∀ i, i < n → (N i).p.m ≤ 1048576) := hs
 clear h hs
 go_enter Tryz.func21, Tryz.ntmps21
 go_wp2_with (at_make; refine wpList_make_full _ rfl _ _ 33 rfl w.heap.size 85 i0 (.agg zcY.toArray) 10 Tryz.underlying33 hi hz0 hz1 .i64 .i64 _ _ n rfl rfl rfl rfl (by rw [hz2]; omega) (by unfold maxLen; omega) (Nat.le_refl _) ?_; intro w1 hown hgrow)
 have hb1 : Below w.heap.size w w1 := (Below.refl _ _).grown hgrow (Nat.le_refl _) (by simp)
 obtain ⟨g, HG⟩ : ∃ x, Hid (x = w.heap.size) := ⟨_, rfl⟩
 have ho1 : Ow w1 w.heap.size (.lst 85 10 n (fun i => if i < 0 then syD (N i) else syD syN)) (.slice (some ⟨g, 0, none⟩) n n) (rng w.heap.size w1.heap.size) := by
  have e : (madeCells (Value.agg zcY.toArray).cells (n * 10)).toList = cL 10 (fun _ q => zcY.getD q undef) n := made_cL (zs := zcY) (by simp [zcY])
  rw [e] at hown
  rw [HG.out]
  have := ow_made (F := rng w.heap.size w1.heap.size) hown (fun q hq => ow_syZ w1 w.heap.size q hq) ⟨Nat.le_refl _, (World.ownsRow.lt hown _ rfl).2⟩
  exact this.congr (fun i q _ _ => by simp)
 have gB : g = w.heap.size := HG.out
 rw [← HG.out]
 have HB : Hid (w.heap.size ≤ g) := by show _ ≤ _; omega
 clear hown hgrow gB
 go_loopw [4] (fun i wr => ∃ k : Nat, k ≤ n ∧ i = .int .i64 k ∧ Ow wr w.heap.size (.lst 85 10 n (fun i => if i < k then syD (N i) else syD syN)) (.slice (some ⟨g, 0, none⟩) n n) (rng w.heap.size wr.heap.size) ∧ Below w.heap.size w wr) (fun i _ => n - (intOf i).toNat)
 case atStart => exact ⟨0, Nat.zero_le _, rfl, ho1, hb1⟩
 case round =>
  obtain ⟨c, hc, rfl, hown, hbel⟩ := hrel
  clear ho1 hb1
  by_cases hlt : c < n
  ·have hlti : (c : Int) < (n : Int) := by omega
   obtain ⟨b1, f1, an, cn, rfl, R1', hr1⟩ := say_at (KH.out.below hbel) hlt
   have KT : Hid _ := toSy_any (N c) an cn wr hr1 (HS.out c hlt)
   have R1 : Hid (wr.rangeAt b1 (f1 + c * 10) [.int .i64 (N c).k, .int .i64 (N c).f, .int .i64 (N c).t, .string (N c).r, .string (N c).p.r, .int .i64 (N c).p.k, .int .i64 (N c).p.n, .int .i64 (N c).p.i, .string (N c).p.b, .slice an (N c).p.m cn]) := R1'
   have KO : Hid (Ow wr w.heap.size (.lst 85 10 n (fun i => if i < c then syD (N i) else syD syN)) (.slice (some ⟨g, 0, none⟩) n n) (rng w.heap.size wr.heap.size) ∧ Below w.heap.size w wr) := ⟨hown, hbel⟩
   have lg : g < wr.heap.size := by
    obtain ⟨a', cap', c', G', e', ho', _⟩ := hown
    cases e'
    exact (World.ownsRow.lt ho' g rfl).2
   clear R1' hr1 hbel hown
   go_wp2_with (refine wpList_load_mid (by rfl) 67 _ (by rfl) b1 (f1 + c * 10) (by rfl) [.int .i64 (N c).k, .int .i64 (N c).f, .int .i64 (N c).t, .string (N c).r, .string (N c).p.r, .int .i64 (N c).p.k, .int .i64 (N c).p.n, .int .i64 (N c).p.i, .string (N c).p.b, .slice an (N c).p.m cn] _ ?_ Tryz.underlying67 (by rfl) Tryz.infoSyL ?_; exact R1.out)
   refine Calls.mono KT.out ?_
   rintro e w2 ⟨gs, rfl, o2, lg1, lg2, b2⟩
   have O2 := KO.out.1.below b2
   have TH : Hid (w2.there g (c * 10) 10) := by
    obtain ⟨a', cap', c', G', e', ho', _⟩ := O2
    cases e'
    intro j hj
    refine ⟨?_, World.ownsRow.frozenAt ho' _⟩
    rw [World.ownsRow.cellAt ho' _ (mid_lt hlt hj), cL_get _ _ _ _ _ hlt hj]
    rfl
   have hsz := KO.out.2.size
   have HO : Hid (Ow (w2.setCells g (c * 10) (syC (N c) (.slice (some ⟨gs, 0, none⟩) (N c).p.m (N c).p.m)).toList) w.heap.size (.lst 85 10 n (fun i => if i < c + 1 then syD (N i) else syD syN)) (.slice (some ⟨g, 0, none⟩) n n) (rng w.heap.size (w2.setCells g (c * 10) (syC (N c) (.slice (some ⟨gs, 0, none⟩) (N c).p.m (N c).p.m)).toList).heap.size)) := by
    rw [size_setCells]
    refine Ow.congr (Ow.store (d := syD (N c)) O2 hlt rfl (fun q hq => ow_say (o2.base hsz) q hq) ?_ ?_ ?_ ?_) ?_
    ·intro q x _ hx hf
     have h2 := hf.2
     have h3 := hx.2
     omega
    ·intro q q' x _ _ hx hx'
     exact hx.1.trans hx'.1.symm
    ·intro x hx
     have := b2.size
     exact ⟨hx.1, by have := hx.2; omega⟩
    ·intro q x _ hx
     have h3 := hx.2
     exact ⟨by omega, by omega⟩
    ·intro i q _ _
     by_cases e : i = c
     ·subst e; simp
     ·by_cases e2 : i < c
      ·simp [e, e2, show i < c + 1 by omega]
      ·simp [e, e2, show ¬ i < c + 1 by omega]
   have HBe : Hid (Below w.heap.size w (w2.setCells g (c * 10) (syC (N c) (.slice (some ⟨gs, 0, none⟩) (N c).p.m (N c).p.m)).toList)) := below_setCells (below2 KO.out.2 b2) HB.out _ _
   clear O2 b2 o2 KT R1 KO
   go_wp2_with (refine wpList_store_mid (by rfl) 85 _ _ (by rfl) g (c * 10) (syC (N c) (.slice (some ⟨gs, 0, none⟩) (N c).p.m (N c).p.m)) (by rfl) (by rfl) ?_ Tryz.infoSy2 (by simp [Value.oneCell']) ?_; exact TH.out)
   go_roundw
   case rel => exact ⟨c + 1, by omega, by go_num, HO.out, HBe.out⟩
   case measure => simp [intOf]; omega
  ·obtain rfl : c = n := by omega
   have HO : Hid (Ow wr w.heap.size (sysD c N) (.slice (some ⟨g, 0, none⟩) c c) (rng w.heap.size wr.heap.size)) := hown.congr (fun i q hi _ => by simp [hi])
   clear hown
   go_wp2
   go_ret
   exact ⟨by rw [← HG.out]; rfl, by rw [← HG.out]; rw [HG.out]; have := HO.out; rw [HG.out] at this; exact this, hbel⟩
theorem txt_news {w : World} {ad : Addr} {m : Nat} {S : Nat → ByteArray} (h : TxtAt w (some ad) m S) : ∀ (j : Nat) (u : Value), (sL S m)[j]? = some u → w.cell? (ad.add j) = some u := fun j u hu => by
 have hj : j < m := by
  have := (List.getElem?_eq_some_iff.1 hu).1
  rw [sL_len] at this
  exact this
 obtain ⟨b, off, e, hc⟩ := h j hj
 cases e
 have ea : (⟨b, off, none⟩ : Addr).add j = ⟨b, off + j, none⟩ := by unfold Addr.add; split <;> simp_all
 rw [ea, hc, ← hu, sL_get _ _ _ hj]
theorem wpList_app_none {ops : Array Oper} {rest : List Oper} {o : Oper} {a : Act} {Q : Exit → Act → World → Prop} (w : World) (hgd : o.guard = none) (s x : Nat) (ho : o.op = .call { callee := .builtin .append, args := #[.tmp s, .tmp x], argTypes := #[23, 23] }) (G c : Nat) (hs : a.eval (.tmp s) = .slice (some ⟨G, 0, none⟩) 0 0) (hx : a.eval (.tmp x) = .slice none 0 c) (h : wpList Tryz.prog ops Q rest (a.put o.dst (.slice (some ⟨G, 0, none⟩) 0 0)) w) : wpList Tryz.prog ops Q (o :: rest) a w := by
 refine wpList_plain hgd fun K hK => ?_
 obtain ⟨dst, op, ty, pos, aft, gd⟩ := o
 simp only at ho hgd
 subst ho hgd
 have hk := hK _ _ h
 have hs' : a.tmps[s]?.getD undef = .slice (some ⟨G, 0, none⟩) 0 0 := by simpa [Act.eval] using hs
 have hx' : a.tmps[x]?.getD undef = .slice none 0 c := by simpa [Act.eval] using hx
 clear hs hx h hK
 go_simp
 exact hk
theorem wpList_app_ints {ops : Array Oper} {rest : List Oper} {o : Oper} {a : Act} {Q : Exit → Act → World → Prop} (w : World) (hgd : o.guard = none) (s x : Nat) (ho : o.op = .call { callee := .builtin .append, args := #[.tmp s, .tmp x], argTypes := #[23, 23] }) (base G : Nat) (hs : a.eval (.tmp s) = .slice (some ⟨G, 0, none⟩) 0 0) (hown : w.ownsRow base 3 1 (.slice (some ⟨G, 0, none⟩) 0 0) 0 []) (ad : Option Addr) (zs : List Int) (c : Nat) (hx : a.eval (.tmp x) = .slice ad zs.length c) (hI : IntsAt w ad zs.length zs) (hn : zs.length ≤ 1048576) (hbase : base ≤ w.heap.size)
  (h : ∀ g cap w', w'.ownsRow base 3 1 (.slice (some ⟨g, 0, none⟩) zs.length cap) zs.length (zs.map (Value.int .i64)) → w.grownBy w' (some G) → wpList Tryz.prog ops Q rest (a.put o.dst (.slice (some ⟨g, 0, none⟩) zs.length cap)) w') : wpList Tryz.prog ops Q (o :: rest) a w := by
 obtain ⟨i0, hi, hz0, hz1, hz2⟩ : ∃ i0, Tryz.prog.info? 3 = some i0 ∧ i0.zero = some (.int .i64 0) ∧ i0.size = 1 ∧ i0.bytes = 8 := ⟨_, rfl, rfl, rfl, rfl⟩
 match ad, hx, hI with
 | none, hx, hI =>
  have e0 : zs.length = 0 := by
   by_cases h0 : zs.length = 0
   ·exact h0
   ·obtain ⟨b, off, e, _⟩ := hI.2 0 (by omega)
    cases e
  have ez : zs = [] := List.length_eq_zero_iff.1 e0
  subst ez
  exact wpList_app_none w hgd s x ho G c hs hx (h G 0 w hown ⟨rfl, rfl, rfl, Nat.le_refl _, fun _ _ _ => rfl⟩)
 | some ⟨b, off, sp⟩, hx, hI =>
  refine wpList_append_all w hgd (.tmp s) (.tmp x) 23 ho base 3 i0 (.int .i64 0) 1 8 Tryz.underlying23 hi hz0 hz1 hz2 rfl (by decide) G 0 0 [] hs hown ⟨b, off, sp⟩ zs.length c (zs.map (Value.int .i64)) hx (by simp) (fun j u hu => ?_) (by simp [Value.oneCell']) (by unfold maxLen; omega) (by omega) hbase fun g cap w' h1 h2 => ?_
  ·have hj : 0 < zs.length := by
    have := (List.getElem?_eq_some_iff.1 hu).1
    simp at this
    omega
   have e := ints_spot hI hj
   simp at e
   subst e
   exact ints_news hI j u hu
  ·have := h g cap w' (by simpa using h1) h2
   simpa using this
theorem sCopyP_any (r : ByteArray) (k n i : Int) (b : ByteArray) (a : Option Addr) (m c : Nat) (S : Nat → ByteArray) (w : World) (h : TxtAt w a m S) (hm : m ≤ 1048576) :
  Calls Tryz.prog 93 #[pcV r k n i b (.slice a m c)] w fun e w' => ∃ g c', e = .returned (pcV r k n i b (.slice (some ⟨g, 0, none⟩) m c')) ∧ OwnT w' w.heap.size (some ⟨g, 0, none⟩) m c' S ∧ Below w.heap.size w w' := by
 obtain ⟨i0, hi, hz0, hz1, hz2⟩ := info_parts Tryz.infoStr
 obtain ⟨A, HA⟩ : ∃ x, Hid (x = w.heap.size) := ⟨_, rfl⟩
 obtain ⟨D, HD⟩ : ∃ x, Hid (x = w.heap.size + 1) := ⟨_, rfl⟩
 obtain ⟨G, HG⟩ : ∃ x, Hid (x = w.heap.size + 1 + 1) := ⟨_, rfl⟩
 obtain ⟨w0, HW0⟩ : ∃ x, Hid (x = ((w.alloc (.cells (pcC r k n i b (.slice a m c)) 49)).alloc (.cells #[.string ⟨#[]⟩, .int .i64 0, .int .i64 0, .int .i64 0, .string ⟨#[]⟩, .slice none 0 0] 49)).alloc (.cells #[] 9)) := ⟨_, rfl⟩
 have RA : Hid (Row w0 A 49 (pcC r k n i b (.slice a m c))) := by show Row _ _ _ _; rw [HW0.out, HA.out]; exact Row.alloc (Row.alloc (Row.new w _ _) _) _
 have RD : Hid (Row w0 D 49 #[.string ⟨#[]⟩, .int .i64 0, .int .i64 0, .int .i64 0, .string ⟨#[]⟩, .slice none 0 0]) := by
  show Row _ _ _ _
  rw [HW0.out, HD.out]
  have := Row.new (w.alloc (.cells (pcC r k n i b (.slice a m c)) 49)) #[.string ⟨#[]⟩, .int .i64 0, .int .i64 0, .int .i64 0, .string ⟨#[]⟩, .slice none 0 0] 49
  exact Row.alloc (by simpa using this) _
 have hb0 : Below w.heap.size w w0 := by rw [HW0.out]; exact (((Below.refl _ _).alloc (Nat.le_refl _) _).alloc (by simp) _).alloc (by simp; omega) _
 have KB0 : Hid (Below w.heap.size w w0) := hb0
 have HO : Hid (w0.ownsRow G 9 1 (.slice (some ⟨G, 0, none⟩) 0 0) 0 []) := by
  show World.ownsRow _ _ _ _ _ _ _
  rw [HW0.out, HG.out]
  have := World.ownsRow_lit (e := 9) (size := 1) (base := ((w.alloc (.cells (pcC r k n i b (.slice a m c)) 49)).alloc (.cells #[.string ⟨#[]⟩, .int .i64 0, .int .i64 0, .int .i64 0, .string ⟨#[]⟩, .slice none 0 0] 49)).heap.size) ((w.alloc (.cells (pcC r k n i b (.slice a m c)) 49)).alloc (.cells #[.string ⟨#[]⟩, .int .i64 0, .int .i64 0, .int .i64 0, .string ⟨#[]⟩, .slice none 0 0] 49)) #[] 0 (by simp) (by unfold maxLen; omega) (by simp)
  simpa using this
 have HL : Hid (A ≠ D ∧ w.heap.size ≤ A ∧ w.heap.size ≤ D ∧ A < G ∧ D < G ∧ w.heap.size ≤ G ∧ G ≤ w0.heap.size) := by
  have h1 := HA.out; have h2 := HD.out; have h3 := HG.out
  have h4 := (World.ownsRow.lt HO.out G rfl).2
  exact ⟨by omega, by omega, by omega, by omega, by omega, by omega, by omega⟩
 have FIN : Hid (∀ (W : World) (g c' : Nat), Row W A 49 (pcC r k n i b (.slice a m c)) → Row W D 49 #[.string ⟨#[]⟩, .int .i64 0, .int .i64 0, .int .i64 0, .string ⟨#[]⟩, .slice none 0 0] → OwnT W G (some ⟨g, 0, none⟩) m c' S → Below w.heap.size w W → Row (W.setCell ⟨A, 5, none⟩ (.slice (some ⟨g, 0, none⟩) m c')) A 49 (pcC r k n i b (.slice (some ⟨g, 0, none⟩) m c')) ∧ Row (W.setCell ⟨A, 5, none⟩ (.slice (some ⟨g, 0, none⟩) m c')) D 49 #[.string ⟨#[]⟩, .int .i64 0, .int .i64 0, .int .i64 0, .string ⟨#[]⟩, .slice none 0 0] ∧ Row ((W.setCell ⟨A, 5, none⟩ (.slice (some ⟨g, 0, none⟩) m c')).setRow D (pcC r k n i b (.slice (some ⟨g, 0, none⟩) m c'))) D 49 (pcC r k n i b (.slice (some ⟨g, 0, none⟩) m c')) ∧ OwnT ((W.setCell ⟨A, 5, none⟩ (.slice (some ⟨g, 0, none⟩) m c')).setRow D (pcC r k n i b (.slice (some ⟨g, 0, none⟩) m c'))) w.heap.size (some ⟨g, 0, none⟩) m c' S ∧ Below w.heap.size w ((W.setCell ⟨A, 5, none⟩ (.slice (some ⟨g, 0, none⟩) m c')).setRow D (pcC r k n i b (.slice (some ⟨g, 0, none⟩) m c')))) := fun W g c' h1 h2 h3 h4 => by
  have l := World.ownsRow.lt h3 g rfl
  refine ⟨h1.set 5 _, h2.other 5 _ (Ne.symm HL.out.1), (h2.other 5 _ (Ne.symm HL.out.1)).row, ?_, belowSetRow (h4.setCell HL.out.2.1 _) HL.out.2.2.1 _⟩
  refine own_kept (OwnT.base (h3.setFar HL.out.2.2.2.1) HL.out.2.2.2.2.2.1) (grown_row _ _ _) (fun x e => ?_)
  cases e
  show g ≠ D
  have := HL.out.2.2.2.2.1
  omega
 have x5 := RA.out.cell 5
 have f5 := RA.out.free 5
 have lA := RA.out.lt
 simp at x5
 match a, h with
 | none, h =>
  have e0 : m = 0 := by
   by_cases h0 : m = 0
   ·exact h0
   ·obtain ⟨b', off, e, _⟩ := h 0 (by omega)
    cases e
  subst e0
  clear h hb0
  go_enter Tryz.func93, Tryz.ntmps93
  go_wp2_with fail
  refine bodyPost_ret (v := pcV r k n i b (.slice (some ⟨w.heap.size + 1 + 1, 0, none⟩) 0 0)) (by simp [results, Tryz.results93, go_sem]) rfl ⟨w.heap.size + 1 + 1, 0, rfl, ?_, (((Below.refl _ _).alloc (Nat.le_refl _) _).alloc (by simp) _).alloc (by simp; omega) _⟩
  have := World.ownsRow_lit (e := 9) (size := 1) (base := w.heap.size) ((w.alloc (.cells (pcC r k n i b (.slice (some ⟨w.heap.size + 1 + 1, 0, none⟩) 0 0)) 49)).alloc (.cells (pcC r k n i b (.slice (some ⟨w.heap.size + 1 + 1, 0, none⟩) 0 0)) 49)) #[] 0 (by simp; omega) (by unfold maxLen; omega) (by simp)
  unfold OwnT
  simpa [sL] using this
 | some ad, h =>
  have HNW : Hid (∀ (j : Nat) (u : Value), (sL S m)[j]? = some u → w0.cell? (ad.add j) = some u) := fun j u hu => by
   have := txt_news h j u hu
   rw [hb0.cell (block_lt_of_cell this)]
   exact this
  have HLL : Hid ((sL S m).length = m * 1) := by show _ = _; rw [sL_len]; omega
  have HONE : Hid (∀ u ∈ sL S m, u.oneCell' = true) := by
   show ∀ u ∈ sL S m, _
   intro u hu
   obtain ⟨j, hj⟩ := List.getElem?_of_mem hu
   have hjm : j < m := by have := (List.getElem?_eq_some_iff.1 hj).1; rw [sL_len] at this; exact this
   rw [sL_get _ _ _ hjm] at hj
   cases hj
   rfl
  clear h hb0
  go_enter Tryz.func93, Tryz.ntmps93
  go_wp2_with (first | (at_builtin; rw [← HW0.out, ← HG.out, ← HD.out, ← HA.out]; refine wpList_append_all _ (by rfl) _ _ 46 (by rfl) G 9 i0 (.string ByteArray.empty) 1 16 Tryz.underlying46 hi hz0 hz1 hz2 rfl (by decide) G 0 0 [] (by rfl) ?_ ad m c (sL S m) (by rfl) ?_ ?_ ?_ (by unfold maxLen; omega) (by omega) ?_ ?_; exact HO.out; exact HLL.out; exact HNW.out; exact HONE.out; exact HL.out.2.2.2.2.2.2; intro g3 cap3 w3 hown3 hgrow3; have bG : Below G w0 w3 := (Below.refl _ _).grown hgrow3 HL.out.2.2.2.2.2.2 (fun x hx => by cases hx; exact Nat.le_refl _); have KK3 : Row w3 A 49 (pcC r k n i b (.slice (some ad) m c)) ∧ Row w3 D 49 #[.string ⟨#[]⟩, .int .i64 0, .int .i64 0, .int .i64 0, .string ⟨#[]⟩, .slice none 0 0] ∧ OwnT w3 G (some ⟨g3, 0, none⟩) m cap3 S ∧ Below w.heap.size w w3 := ⟨RA.out.below bG HL.out.2.2.2.1, RD.out.below bG HL.out.2.2.2.2.1, (by have := hown3; unfold OwnT; simpa using this), KB0.out.grown hgrow3 KB0.out.size (fun x hx => by cases hx; exact HL.out.2.2.2.2.2.1)⟩; have y5 := KK3.1.cell 5; have g5 := KK3.1.free 5; simp at y5; have KD3 : Hid _ := KK3; clear hown3 hgrow3 bG KK3 x5 f5) | (refine wpList_load_row (by rfl) 49 _ (by rfl) A (by rfl) 49 (pcC r k n i b (.slice (some ⟨g3, 0, none⟩) m cap3)) (0, 0) _ ?_ Tryz.underlying49 (by rfl) Tryz.infoPc ?_; exact (FIN.out w3 g3 cap3 KD3.out.1 KD3.out.2.1 KD3.out.2.2.1 KD3.out.2.2.2).1) | (refine wpList_store_row (by rfl) 49 _ _ (by rfl) D (pcC r k n i b (.slice (some ⟨g3, 0, none⟩) m cap3)) (by rfl) (by rfl) 49 #[.string ⟨#[]⟩, .int .i64 0, .int .i64 0, .int .i64 0, .string ⟨#[]⟩, .slice none 0 0] ?_ Tryz.infoPc rfl (by simp [Value.oneCell']) ?_; exact (FIN.out w3 g3 cap3 KD3.out.1 KD3.out.2.1 KD3.out.2.2.1 KD3.out.2.2.2).2.1))
  have KF := FIN.out w3 g3 cap3 KD3.out.1 KD3.out.2.1 KD3.out.2.2.1 KD3.out.2.2.2
  exact bodyPost_ret (v := pcV r k n i b (.slice (some ⟨g3, 0, none⟩) m cap3)) (results_cell_row Tryz.results93 _ _ D 49 _ (0, 0) _ (by rfl) KF.2.2.1 Tryz.underlying49 (by rfl) Tryz.infoPc) rfl ⟨g3, cap3, rfl, KF.2.2.2.1, KF.2.2.2.2⟩
end Go.Proofs.YtmhcdkbgjjibeaaGreatDoor
