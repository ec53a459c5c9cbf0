/- Lists of slots and nodes, copied by the exact laws: the copies lie in new memory. Conditions: no list is longer than 2^20. -/
import Derived.Test.YtkcnpkkihbpnmaaDoorD23
import Derived.Test.YtkcnpkkihbpnmaaDoorD17
namespace Go.Proofs.YtkcnpkkihbpnmaaDoor
set_option maxRecDepth 2000
open Go.ChangeShapes Go.WideShapes Go.ChangeAt Go.RowKit

def slZ : Sl := ⟨ByteArray.empty, ⟨ByteArray.empty, 0, 0, 0, ByteArray.empty, 0, fun _ => ByteArray.empty⟩, false, false, false, false, [], []⟩
def zcS : List Value := [.string ByteArray.empty, .string ByteArray.empty, .int .i64 0, .int .i64 0, .int .i64 0, .string ByteArray.empty, .slice none 0 0, .bool false, .bool false, .bool false, .bool false, .slice none 0 0, .slice none 0 0]
theorem Tryd.infoSlZ : (Tryd.prog.info? 126).map (fun i => (i.zero, i.size, i.bytes)) = some (some (.agg zcS.toArray), 13, 152) := by kernel_rfl
/-- Where the three lists of a slot lie. -/
def H3 (g6 g11 g12 q x : Nat) : Prop := (q = 6 ∧ x = g6) ∨ (q = 11 ∧ x = g11) ∨ (q = 12 ∧ x = g12)
/-- The cells of a slot whose lists are ours. -/
theorem ow_slot {w : World} {B g6 g11 g12 : Nat} {s : Sl} {v6 v11 v12 : Value} (h6 : Ow w B (txD s.p.m s.p.S) v6 (fun g => g = g6)) (h11 : Ow w B (inD s.ze) v11 (fun g => g = g11)) (h12 : Ow w B (inD s.zr) v12 (fun g => g = g12)) (q : Nat) (hq : q < 13) :
    Ow w B (slD s q) ((slC s v6 v11 v12).toList.getD q undef) (H3 g6 g11 g12 q) := by
  match q, hq with
  | 0, _ | 1, _ | 2, _ | 3, _ | 4, _ | 5, _ | 7, _ | 8, _ | 9, _ | 10, _ => rfl
  | 6, _ => exact Ow.mono h6 fun g hg => .inl ⟨rfl, hg⟩
  | 11, _ => exact Ow.mono h11 fun g hg => .inr (.inl ⟨rfl, hg⟩)
  | 12, _ => exact Ow.mono h12 fun g hg => .inr (.inr ⟨rfl, hg⟩)
theorem ow_slZ (w : World) (B q : Nat) (hq : q < 13) : Ow w B (slD slZ q) (zcS.getD q undef) (fun _ => False) := by
  match q, hq with
  | 0, _ | 1, _ | 2, _ | 3, _ | 4, _ | 5, _ | 7, _ | 8, _ | 9, _ | 10, _ => rfl
  | 6, _ => exact Ow.nil _ _ _ _ _ _
  | 11, _ => exact Ow.nil _ _ _ _ _ _
  | 12, _ => exact Ow.nil _ _ _ _ _ _
set_option maxHeartbeats 4000000 in
theorem toSls_any (a : Option Addr) (n cap : Nat) (S : Nat → Sl) (w : World) (h : Rd w (slsD n S) (.slice a n cap)) (hn : n ≤ 1048576) (hs : ∀ i, i < n → SlS (S i)) :
    Calls Tryd.prog 50 #[.slice a n cap] w fun e w' => e = .returned (.slice (some ⟨w.heap.size, 0, none⟩) n n) ∧ Ow w' w.heap.size (slsD n S) (.slice (some ⟨w.heap.size, 0, none⟩) n n) (rng w.heap.size w'.heap.size) ∧ Below w.heap.size w w' := by
  obtain ⟨i0, hi, hz0, hz1, hz2⟩ := info_parts Tryd.infoSlZ
  have KH : Hid (Rd w (slsD n S) (.slice a n cap)) := h
  have HS : Hid (∀ i, i < n → SlS (S i)) := hs
  clear h hs
  go_enter Tryd.func50, Tryd.ntmps50
  go_wp2_with (at_make; refine wpList_make_full _ rfl _ _ 96 rfl w.heap.size 126 i0 (.agg zcS.toArray) 13 Tryd.underlying96 hi hz0 hz1 .i64 .i64 _ _ n rfl rfl rfl rfl (by rw [hz2]; omega) (by unfold maxLen; omega) (Nat.le_refl _) ?_; intro w1 hown hgrow)
  have hb1 : Below w.heap.size w w1 := (Below.refl _ _).grown hgrow (Nat.le_refl _) (by simp)
  obtain ⟨g, HG⟩ : ∃ x, Hid (x = w.heap.size) := ⟨_, rfl⟩
  have ho1 : Ow w1 w.heap.size (.lst 126 13 n (fun i => if i < 0 then slD (S i) else slD slZ)) (.slice (some ⟨g, 0, none⟩) n n) (rng w.heap.size w1.heap.size) := by
    have e : (madeCells (Value.agg zcS.toArray).cells (n * 13)).toList = cL 13 (fun _ q => zcS.getD q undef) n := made_cL (zs := zcS) (by simp [zcS])
    rw [e] at hown
    rw [HG.out]
    have := ow_made (F := rng w.heap.size w1.heap.size) hown (fun q hq => ow_slZ w1 w.heap.size q hq) ⟨Nat.le_refl _, (World.ownsRow.lt hown _ rfl).2⟩
    exact this.congr (fun i q _ _ => by simp)
  have gB : g = w.heap.size := HG.out
  rw [← HG.out]
  have HB : Hid (w.heap.size ≤ g) := by show _ ≤ _; omega
  clear hown hgrow gB
  go_loopw [4] (fun i wr => ∃ k : Nat, k ≤ n ∧ i = .int .i64 k ∧ Ow wr w.heap.size (.lst 126 13 n (fun i => if i < k then slD (S i) else slD slZ)) (.slice (some ⟨g, 0, none⟩) n n) (rng w.heap.size wr.heap.size) ∧ Below w.heap.size w wr) (fun i _ => n - (intOf i).toNat)
  case atStart => exact ⟨0, Nat.zero_le _, rfl, ho1, hb1⟩
  case round =>
    obtain ⟨c, hc, rfl, hown, hbel⟩ := hrel
    clear ho1 hb1
    by_cases hlt : c < n
    · have hlti : (c : Int) < (n : Int) := by omega
      obtain ⟨b1, f1, y1, p6, p11, p12, q6, q11, q12, rfl, hc1, e1, ht1, he1, hz1'⟩ := slot_row (KH.out.below hbel) hlt
      have KT0 := toSl_any (S c) p6 p11 p12 q6 q11 q12 wr ht1 he1 hz1' (HS.out c hlt)
      rw [← e1] at KT0
      have KT : Hid _ := KT0
      clear KT0
      obtain ⟨_, x⟩ := one_row (sz := 12) wr (Below.refl _ _) hc1
      have R1 : Hid (wr.rangeAt b1 (f1 + c * 13) [y1 0, y1 1, y1 2, y1 3, y1 4, y1 5, y1 6, y1 7, y1 8, y1 9, y1 10, y1 11, y1 12]) := range13 x
      have KO : Hid (Ow wr w.heap.size (.lst 126 13 n (fun i => if i < c then slD (S i) else slD slZ)) (.slice (some ⟨g, 0, none⟩) n n) (rng w.heap.size wr.heap.size) ∧ Below w.heap.size w wr) := ⟨hown, hbel⟩
      have lg : g < wr.heap.size := by
        obtain ⟨a', cap', c', G', e', ho', _⟩ := hown
        cases e'
        exact (World.ownsRow.lt ho' g rfl).2
      clear hc1 e1 ht1 he1 hz1' x hbel hown
      go_wp2_with (refine wpList_load_mid (by rfl) 123 _ (by rfl) b1 (f1 + c * 13) (by rfl) [y1 0, y1 1, y1 2, y1 3, y1 4, y1 5, y1 6, y1 7, y1 8, y1 9, y1 10, y1 11, y1 12] _ ?_ Tryd.underlying123 (by rfl) Tryd.infoSlL ?_; exact R1.out)
      refine Calls.mono KT.out ?_
      rintro e w2 ⟨g6, g11, g12, rfl, l1, l2, l3, l4, o6, o11, o12, b2⟩
      have O2 := KO.out.1.below b2
      have TH : Hid (w2.there g (c * 13) 13) := by
        obtain ⟨a', cap', c', G', e', ho', _⟩ := O2
        cases e'
        intro j hj
        refine ⟨?_, World.ownsRow.frozenAt ho' _⟩
        rw [World.ownsRow.cellAt ho' _ (mid_lt hlt hj), cL_get _ _ _ _ _ hlt hj]
        rfl
      have hsz := KO.out.2.size
      have HO : Hid (Ow (w2.setCells g (c * 13) (slC (S c) (.slice (some ⟨g6, 0, none⟩) (S c).p.m (S c).p.m) (.slice (some ⟨g11, 0, none⟩) (S c).ze.length (S c).ze.length) (.slice (some ⟨g12, 0, none⟩) (S c).zr.length (S c).zr.length)).toList) w.heap.size (.lst 126 13 n (fun i => if i < c + 1 then slD (S i) else slD slZ)) (.slice (some ⟨g, 0, none⟩) n n) (rng w.heap.size (w2.setCells g (c * 13) (slC (S c) (.slice (some ⟨g6, 0, none⟩) (S c).p.m (S c).p.m) (.slice (some ⟨g11, 0, none⟩) (S c).ze.length (S c).ze.length) (.slice (some ⟨g12, 0, none⟩) (S c).zr.length (S c).zr.length)).toList).heap.size)) := by
        rw [size_setCells]
        refine Ow.congr (Ow.store (d := slD (S c)) O2 hlt rfl (fun q hq => ow_slot (o6.base hsz) (o11.base hsz) (o12.base hsz) q hq) ?_ ?_ ?_ ?_) ?_
        · intro q x _ hx hf
          have h2 := hf.2
          rcases hx with ⟨_, rfl⟩ | ⟨_, rfl⟩ | ⟨_, rfl⟩ <;> omega
        · intro q q' x _ _ hx hx'
          rcases hx with ⟨_, rfl⟩ | ⟨_, rfl⟩ | ⟨_, rfl⟩ <;> rcases hx' with ⟨_, h⟩ | ⟨_, h⟩ | ⟨_, h⟩ <;> omega
        · intro x hx
          have := b2.size
          exact ⟨hx.1, by have := hx.2; omega⟩
        · intro q x _ hx
          rcases hx with ⟨_, rfl⟩ | ⟨_, rfl⟩ | ⟨_, rfl⟩ <;> exact ⟨by omega, by omega⟩
        · intro i q _ _
          by_cases e : i = c
          · subst e; simp
          · by_cases e2 : i < c
            · simp [e, e2, show i < c + 1 by omega]
            · simp [e, e2, show ¬ i < c + 1 by omega]
      have HBe : Hid (Below w.heap.size w (w2.setCells g (c * 13) (slC (S c) (.slice (some ⟨g6, 0, none⟩) (S c).p.m (S c).p.m) (.slice (some ⟨g11, 0, none⟩) (S c).ze.length (S c).ze.length) (.slice (some ⟨g12, 0, none⟩) (S c).zr.length (S c).zr.length)).toList)) := below_setCells (below2 KO.out.2 b2) HB.out _ _
      clear O2 b2 o6 o11 o12 KT R1 KO
      go_wp2_with (refine wpList_store_mid (by rfl) 126 _ _ (by rfl) g (c * 13) (slC (S c) (.slice (some ⟨g6, 0, none⟩) (S c).p.m (S c).p.m) (.slice (some ⟨g11, 0, none⟩) (S c).ze.length (S c).ze.length) (.slice (some ⟨g12, 0, none⟩) (S c).zr.length (S c).zr.length)) (by rfl) (by rfl) ?_ Tryd.infoSl (by simp [Value.oneCell']) ?_; exact TH.out)
      go_roundw
      case rel => exact ⟨c + 1, by omega, by go_num, HO.out, HBe.out⟩
      case measure => simp [intOf]; omega
    · obtain rfl : c = n := by omega
      have HO : Hid (Ow wr w.heap.size (slsD c S) (.slice (some ⟨g, 0, none⟩) c c) (rng w.heap.size wr.heap.size)) := hown.congr (fun i q hi _ => by simp [hi])
      clear hown
      go_wp2
      go_ret
      exact ⟨by rw [← HG.out]; rfl, by rw [← HG.out]; rw [HG.out]; have := HO.out; rw [HG.out] at this; exact this, hbel⟩
set_option maxHeartbeats 1000000 in
theorem toNd_any (id f : Int) (a : Option Addr) (n cap : Nat) (S : Nat → Sl) (w : World) (h : Rd w (slsD n S) (.slice a n cap)) (hn : n ≤ 1048576) (hs : ∀ i, i < n → SlS (S i)) :
    Calls Tryd.prog 42 #[.agg #[.int .i64 id, .int .i64 f, .slice a n cap]] w fun e w' => ∃ g, e = .returned (.agg #[.int .i64 id, .int .i64 f, .slice (some ⟨g, 0, none⟩) n n]) ∧ Ow w' w.heap.size (slsD n S) (.slice (some ⟨g, 0, none⟩) n n) (rng w.heap.size w'.heap.size) ∧ Below w.heap.size w w' := by
  obtain ⟨A, HA⟩ : ∃ x, Hid (x = w.heap.size) := ⟨_, rfl⟩
  obtain ⟨D, HD⟩ : ∃ x, Hid (x = w.heap.size + 1) := ⟨_, rfl⟩
  obtain ⟨V, HV⟩ : ∃ x, Hid (x = w.heap.size + 1 + 1) := ⟨_, rfl⟩
  obtain ⟨w0, HW0⟩ : ∃ x, Hid (x = ((w.alloc (.cells #[.int .i64 id, .int .i64 f, .slice a n cap] 89)).alloc (.cells #[.int .i64 0, .int .i64 0, .slice none 0 0] 98)).alloc (.cells #[.int .i64 id, .int .i64 f, .slice none 0 0] 98)) := ⟨_, rfl⟩
  have RD : Hid (Row w0 D 98 #[.int .i64 0, .int .i64 0, .slice none 0 0]) := by
    show Row _ _ _ _
    rw [HW0.out, HD.out]
    have := Row.new (w.alloc (.cells #[.int .i64 id, .int .i64 f, .slice a n cap] 89)) #[.int .i64 0, .int .i64 0, .slice none 0 0] 98
    exact Row.alloc (by simpa using this) _
  have RV : Hid (Row w0 V 98 #[.int .i64 id, .int .i64 f, .slice none 0 0]) := by
    show Row _ _ _ _
    rw [HW0.out, HV.out]
    have := Row.new ((w.alloc (.cells #[.int .i64 id, .int .i64 f, .slice a n cap] 89)).alloc (.cells #[.int .i64 0, .int .i64 0, .slice none 0 0] 98)) #[.int .i64 id, .int .i64 f, .slice none 0 0] 98
    simpa using this
  have hb0 : Below w.heap.size w w0 := by rw [HW0.out]; exact (((Below.refl _ _).alloc (Nat.le_refl _) _).alloc (by simp) _).alloc (by simp; omega) _
  have hVD : Hid (V ≠ D ∧ w.heap.size ≤ D ∧ w.heap.size ≤ V ∧ V < w0.heap.size ∧ D < w0.heap.size) := by
    have h1 := HV.out; have h2 := HD.out
    exact ⟨by omega, by omega, by omega, RV.out.lt, RD.out.lt⟩
  have KB0 : Hid (Below w.heap.size w w0) := hb0
  have KT : Hid _ := toSls_any a n cap S w0 (h.below hb0) hn hs
  obtain ⟨g, HG⟩ : ∃ x, Hid (x = w0.heap.size) := ⟨_, rfl⟩
  clear h hs hb0
  go_enter Tryd.func42, Tryd.ntmps42
  go_wp2_with fail
  rw [← HW0.out, ← HV.out, ← HD.out, ← HA.out]
  refine Calls.mono KT.out ?_
  rintro e w1 ⟨rfl, O1, b1⟩
  rw [← HG.out] at O1
  rw [← HG.out]
  rw [HG.out] at O1
  have V1 := RV.out.below b1 RV.out.lt
  have D1 : Hid (Row w1 D 98 #[.int .i64 0, .int .i64 0, .slice none 0 0]) := RD.out.below b1 RD.out.lt
  have y2 := V1.cell 2
  have f2 := V1.free 2
  simp at y2
  obtain ⟨w2, HW2⟩ : ∃ x, Hid (x = w1.setCell ⟨V, 2, none⟩ (.slice (some ⟨g, 0, none⟩) n n)) := ⟨_, rfl⟩
  have V2 : Hid (Row w2 V 98 #[.int .i64 id, .int .i64 f, .slice (some ⟨g, 0, none⟩) n n]) := by show Row _ _ _ _; rw [HW2.out]; exact V1.set 2 _
  have D2 : Hid (Row w2 D 98 #[.int .i64 0, .int .i64 0, .slice none 0 0]) := by show Row _ _ _ _; rw [HW2.out]; exact D1.out.other 2 _ (Ne.symm hVD.out.1)
  obtain ⟨w3, HW3⟩ : ∃ x, Hid (x = w2.setRow D #[.int .i64 id, .int .i64 f, .slice (some ⟨g, 0, none⟩) n n]) := ⟨_, rfl⟩
  have D3 : Hid (Row w3 D 98 #[.int .i64 id, .int .i64 f, .slice (some ⟨g, 0, none⟩) n n]) := by show Row _ _ _ _; rw [HW3.out]; exact D2.out.row
  have B3 : Hid (Below w.heap.size w w3) := by
    show Below _ _ _
    rw [HW3.out, HW2.out]
    exact belowSetRow (Below.setCell (below2 KB0.out b1) hVD.out.2.2.1 _) hVD.out.2.1 _
  have O3 : Hid (Ow w3 w.heap.size (slsD n S) (.slice (some ⟨g, 0, none⟩) n n) (rng w.heap.size w3.heap.size)) := by
    have h1 : w3.heap.size = w1.heap.size := by rw [HW3.out, HW2.out]; simp
    have h2 := KB0.out.size
    have h3 := (O1.base h2).frame (w' := w3) (fun x hx _ => by
      have l1 := hx.1
      have l2 := hVD.out.2.2.2.1
      have l3 := hVD.out.2.2.2.2
      rw [HW3.out, setRow_other _ _ _ _ (by omega), HW2.out]
      exact heap_setCell_other w1 ⟨V, 2, none⟩ x _ (by show x ≠ V; omega))
    rw [HG.out]
    exact h3.mono (fun x hx => ⟨by have := hx.1; omega, by have := hx.2; omega⟩)
  clear V1 b1 O1
  go_wp2_with (first | (rw [← HW2.out]; refine wpList_load_row (by rfl) 98 _ (by rfl) V (by rfl) 98 _ (0, 0) _ V2.out Tryd.underlying98 (by rfl) Tryd.infoNd ?_; clear y2 f2) | (refine wpList_store_row (by rfl) 98 _ _ (by rfl) D #[.int .i64 id, .int .i64 f, .slice (some ⟨g, 0, none⟩) n n] (by rfl) (by rfl) 98 #[.int .i64 0, .int .i64 0, .slice none 0 0] ?_ Tryd.infoNd rfl (by simp [Value.oneCell']) ?_; exact D2.out; rw [← HW3.out]))
  refine bodyPost_ret (v := .agg #[.int .i64 id, .int .i64 f, .slice (some ⟨g, 0, none⟩) n n]) (results_cell_row Tryd.results42 _ _ D 98 _ (0, 0) _ (by rfl) D3.out Tryd.underlying98 (by rfl) Tryd.infoNd) rfl ⟨g, rfl, O3.out, B3.out⟩
end Go.Proofs.YtkcnpkkihbpnmaaDoor
