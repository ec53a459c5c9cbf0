/- Lists of slots and nodes, copied by the exact laws: the copies lie in new memory. Conditions: no list is longer than 2^20. -/
import Derived.Test.YtgiegoamcfjfmaaGreatH22
import Derived.Test.YtgiegoamcfjfmaaGreatH10
import Derived.Test.YtgiegoamcfjfmaaGreatH18
import Derived.Test.YtgiegoamcfjfmaaGreatH20
namespace Go.Proofs.YtgiegoamcfjfmaaGreat
set_option maxRecDepth 2000
open Go.ChangeShapes Go.WideShapes Go.ChangeAt Go.RowKit

def slZ : Sl := ⟨ByteArray.empty, ⟨ByteArray.empty, 0, 0, 0, ByteArray.empty, 0, fun _ => ByteArray.empty⟩, false, false, false, false, [], []⟩
def zcS : List Value := [.string ByteArray.empty, .string ByteArray.empty, .int .i64 0, .int .i64 0, .int .i64 0, .string ByteArray.empty, .slice none 0 0, .bool false, .bool false, .bool false, .bool false, .slice none 0 0, .slice none 0 0]
theorem Tryz.infoSlZ : (Tryz.prog.info? 62).map (fun i => (i.zero, i.size, i.bytes)) = some (some (.agg zcS.toArray), 13, 152) := by kernel_rfl
/-- Where the three lists of a slot lie. -/
def H3 (g6 g11 g12 q x : Nat) : Prop := (q = 6 ∧ x = g6) ∨ (q = 11 ∧ x = g11) ∨ (q = 12 ∧ x = g12)
/-- The cells of a slot whose lists are ours. -/
theorem ow_slot {w : World} {B g6 g11 g12 : Nat} {s : Sl} {v6 v11 v12 : Value} (h6 : Ow w B (txD s.p.m s.p.S) v6 (fun g => g = g6)) (h11 : Ow w B (inD s.ze) v11 (fun g => g = g11)) (h12 : Ow w B (inD s.zr) v12 (fun g => g = g12)) (q : Nat) (hq : q < 13) :
    Ow w B (slD s q) ((slC s v6 v11 v12).toList.getD q undef) (H3 g6 g11 g12 q) := by
  match q, hq with
  | 0, _ | 1, _ | 2, _ | 3, _ | 4, _ | 5, _ | 7, _ | 8, _ | 9, _ | 10, _ => rfl
  | 6, _ => exact Ow.mono h6 fun g hg => .inl ⟨rfl, hg⟩
  | 11, _ => exact Ow.mono h11 fun g hg => .inr (.inl ⟨rfl, hg⟩)
  | 12, _ => exact Ow.mono h12 fun g hg => .inr (.inr ⟨rfl, hg⟩)
theorem ow_slZ (w : World) (B q : Nat) (hq : q < 13) : Ow w B (slD slZ q) (zcS.getD q undef) (fun _ => False) := by
  match q, hq with
  | 0, _ | 1, _ | 2, _ | 3, _ | 4, _ | 5, _ | 7, _ | 8, _ | 9, _ | 10, _ => rfl
  | 6, _ => exact Ow.nil _ _ _ _ _ _
  | 11, _ => exact Ow.nil _ _ _ _ _ _
  | 12, _ => exact Ow.nil _ _ _ _ _ _
set_option maxHeartbeats 4000000 in
theorem toSls_any (a : Option Addr) (n cap : Nat) (S : Nat → Sl) (w : World) (h : Rd w (slsD n S) (.slice a n cap)) (hn : n ≤ 1048576) (hs : ∀ i, i < n → SlS (S i)) :
    Calls Tryz.prog 71 #[.slice a n cap] w fun e w' => e = .returned (.slice (some ⟨w.heap.size, 0, none⟩) n n) ∧ Ow w' w.heap.size (slsD n S) (.slice (some ⟨w.heap.size, 0, none⟩) n n) (rng w.heap.size w'.heap.size) ∧ Below w.heap.size w w' := by
  obtain ⟨i0, hi, hz0, hz1, hz2⟩ := info_parts Tryz.infoSlZ
  have KH : Hid (Rd w (slsD n S) (.slice a n cap)) := h
  have HS : Hid (∀ i, i < n → SlS (S i)) := hs
  clear h hs
  go_enter Tryz.func71, Tryz.ntmps71
  go_wp2_with (at_make; refine wpList_make_full _ rfl _ _ 32 rfl w.heap.size 62 i0 (.agg zcS.toArray) 13 Tryz.underlying32 hi hz0 hz1 .i64 .i64 _ _ n rfl rfl rfl rfl (by rw [hz2]; omega) (by unfold maxLen; omega) (Nat.le_refl _) ?_; intro w1 hown hgrow)
  have hb1 : Below w.heap.size w w1 := (Below.refl _ _).grown hgrow (Nat.le_refl _) (by simp)
  obtain ⟨g, HG⟩ : ∃ x, Hid (x = w.heap.size) := ⟨_, rfl⟩
  have ho1 : Ow w1 w.heap.size (.lst 62 13 n (fun i => if i < 0 then slD (S i) else slD slZ)) (.slice (some ⟨g, 0, none⟩) n n) (rng w.heap.size w1.heap.size) := by
    have e : (madeCells (Value.agg zcS.toArray).cells (n * 13)).toList = cL 13 (fun _ q => zcS.getD q undef) n := made_cL (zs := zcS) (by simp [zcS])
    rw [e] at hown
    rw [HG.out]
    have := ow_made (F := rng w.heap.size w1.heap.size) hown (fun q hq => ow_slZ w1 w.heap.size q hq) ⟨Nat.le_refl _, (World.ownsRow.lt hown _ rfl).2⟩
    exact this.congr (fun i q _ _ => by simp)
  have gB : g = w.heap.size := HG.out
  rw [← HG.out]
  have HB : Hid (w.heap.size ≤ g) := by show _ ≤ _; omega
  clear hown hgrow gB
  go_loopw [4] (fun i wr => ∃ k : Nat, k ≤ n ∧ i = .int .i64 k ∧ Ow wr w.heap.size (.lst 62 13 n (fun i => if i < k then slD (S i) else slD slZ)) (.slice (some ⟨g, 0, none⟩) n n) (rng w.heap.size wr.heap.size) ∧ Below w.heap.size w wr) (fun i _ => n - (intOf i).toNat)
  case atStart => exact ⟨0, Nat.zero_le _, rfl, ho1, hb1⟩
  case round =>
    obtain ⟨c, hc, rfl, hown, hbel⟩ := hrel
    clear ho1 hb1
    by_cases hlt : c < n
    · have hlti : (c : Int) < (n : Int) := by omega
      obtain ⟨b1, f1, y1, p6, p11, p12, q6, q11, q12, rfl, hc1, e1, ht1, he1, hz1'⟩ := slot_row (KH.out.below hbel) hlt
      have KT0 := toSl_any (S c) p6 p11 p12 q6 q11 q12 wr ht1 he1 hz1' (HS.out c hlt)
      rw [← e1] at KT0
      have KT : Hid _ := KT0
      clear KT0
      obtain ⟨_, x⟩ := one_row (sz := 12) wr (Below.refl _ _) hc1
      have R1 : Hid (wr.rangeAt b1 (f1 + c * 13) [y1 0, y1 1, y1 2, y1 3, y1 4, y1 5, y1 6, y1 7, y1 8, y1 9, y1 10, y1 11, y1 12]) := range13 x
      have KO : Hid (Ow wr w.heap.size (.lst 62 13 n (fun i => if i < c then slD (S i) else slD slZ)) (.slice (some ⟨g, 0, none⟩) n n) (rng w.heap.size wr.heap.size) ∧ Below w.heap.size w wr) := ⟨hown, hbel⟩
      have lg : g < wr.heap.size := by
        obtain ⟨a', cap', c', G', e', ho', _⟩ := hown
        cases e'
        exact (World.ownsRow.lt ho' g rfl).2
      clear hc1 e1 ht1 he1 hz1' x hbel hown
      go_wp2_with (refine wpList_load_mid (by rfl) 168 _ (by rfl) b1 (f1 + c * 13) (by rfl) [y1 0, y1 1, y1 2, y1 3, y1 4, y1 5, y1 6, y1 7, y1 8, y1 9, y1 10, y1 11, y1 12] _ ?_ Tryz.underlying168 (by rfl) Tryz.infoSlL ?_; exact R1.out)
      refine Calls.mono KT.out ?_
      rintro e w2 ⟨g6, g11, g12, rfl, l1, l2, l3, l4, o6, o11, o12, b2⟩
      have O2 := KO.out.1.below b2
      have TH : Hid (w2.there g (c * 13) 13) := by
        obtain ⟨a', cap', c', G', e', ho', _⟩ := O2
        cases e'
        intro j hj
        refine ⟨?_, World.ownsRow.frozenAt ho' _⟩
        rw [World.ownsRow.cellAt ho' _ (mid_lt hlt hj), cL_get _ _ _ _ _ hlt hj]
        rfl
      have hsz := KO.out.2.size
      have HO : Hid (Ow (w2.setCells g (c * 13) (slC (S c) (.slice (some ⟨g6, 0, none⟩) (S c).p.m (S c).p.m) (.slice (some ⟨g11, 0, none⟩) (S c).ze.length (S c).ze.length) (.slice (some ⟨g12, 0, none⟩) (S c).zr.length (S c).zr.length)).toList) w.heap.size (.lst 62 13 n (fun i => if i < c + 1 then slD (S i) else slD slZ)) (.slice (some ⟨g, 0, none⟩) n n) (rng w.heap.size (w2.setCells g (c * 13) (slC (S c) (.slice (some ⟨g6, 0, none⟩) (S c).p.m (S c).p.m) (.slice (some ⟨g11, 0, none⟩) (S c).ze.length (S c).ze.length) (.slice (some ⟨g12, 0, none⟩) (S c).zr.length (S c).zr.length)).toList).heap.size)) := by
        rw [size_setCells]
        refine Ow.congr (Ow.store (d := slD (S c)) O2 hlt rfl (fun q hq => ow_slot (o6.base hsz) (o11.base hsz) (o12.base hsz) q hq) ?_ ?_ ?_ ?_) ?_
        · intro q x _ hx hf
          have h2 := hf.2
          rcases hx with ⟨_, rfl⟩ | ⟨_, rfl⟩ | ⟨_, rfl⟩ <;> omega
        · intro q q' x _ _ hx hx'
          rcases hx with ⟨_, rfl⟩ | ⟨_, rfl⟩ | ⟨_, rfl⟩ <;> rcases hx' with ⟨_, h⟩ | ⟨_, h⟩ | ⟨_, h⟩ <;> omega
        · intro x hx
          have := b2.size
          exact ⟨hx.1, by have := hx.2; omega⟩
        · intro q x _ hx
          rcases hx with ⟨_, rfl⟩ | ⟨_, rfl⟩ | ⟨_, rfl⟩ <;> exact ⟨by omega, by omega⟩
        · intro i q _ _
          by_cases e : i = c
          · subst e; simp
          · by_cases e2 : i < c
            · simp [e, e2, show i < c + 1 by omega]
            · simp [e, e2, show ¬ i < c + 1 by omega]
      have HBe : Hid (Below w.heap.size w (w2.setCells g (c * 13) (slC (S c) (.slice (some ⟨g6, 0, none⟩) (S c).p.m (S c).p.m) (.slice (some ⟨g11, 0, none⟩) (S c).ze.length (S c).ze.length) (.slice (some ⟨g12, 0, none⟩) (S c).zr.length (S c).zr.length)).toList)) := below_setCells (below2 KO.out.2 b2) HB.out _ _
      clear O2 b2 o6 o11 o12 KT R1 KO
      go_wp2_with (refine wpList_store_mid (by rfl) 62 _ _ (by rfl) g (c * 13) (slC (S c) (.slice (some ⟨g6, 0, none⟩) (S c).p.m (S c).p.m) (.slice (some ⟨g11, 0, none⟩) (S c).ze.length (S c).ze.length) (.slice (some ⟨g12, 0, none⟩) (S c).zr.length (S c).zr.length)) (by rfl) (by rfl) ?_ Tryz.infoSl (by simp [Value.oneCell']) ?_; exact TH.out)
      go_roundw
      case rel => exact ⟨c + 1, by omega, by go_num, HO.out, HBe.out⟩
      case measure => simp [intOf]; omega
    · obtain rfl : c = n := by omega
      have HO : Hid (Ow wr w.heap.size (slsD c S) (.slice (some ⟨g, 0, none⟩) c c) (rng w.heap.size wr.heap.size)) := hown.congr (fun i q hi _ => by simp [hi])
      clear hown
      go_wp2
      go_ret
      exact ⟨by rw [← HG.out]; rfl, by rw [← HG.out]; rw [HG.out]; have := HO.out; rw [HG.out] at this; exact this, hbel⟩
set_option maxHeartbeats 1000000 in
theorem toNd_any (id f : Int) (a : Option Addr) (n cap : Nat) (S : Nat → Sl) (w : World) (h : Rd w (slsD n S) (.slice a n cap)) (hn : n ≤ 1048576) (hs : ∀ i, i < n → SlS (S i)) :
    Calls Tryz.prog 12 #[.agg #[.int .i64 id, .int .i64 f, .slice a n cap]] w fun e w' => ∃ g, e = .returned (.agg #[.int .i64 id, .int .i64 f, .slice (some ⟨g, 0, none⟩) n n]) ∧ Ow w' w.heap.size (slsD n S) (.slice (some ⟨g, 0, none⟩) n n) (rng w.heap.size w'.heap.size) ∧ Below w.heap.size w w' := by
  obtain ⟨A, HA⟩ : ∃ x, Hid (x = w.heap.size) := ⟨_, rfl⟩
  obtain ⟨D, HD⟩ : ∃ x, Hid (x = w.heap.size + 1) := ⟨_, rfl⟩
  obtain ⟨V, HV⟩ : ∃ x, Hid (x = w.heap.size + 1 + 1) := ⟨_, rfl⟩
  obtain ⟨w0, HW0⟩ : ∃ x, Hid (x = ((w.alloc (.cells #[.int .i64 id, .int .i64 f, .slice a n cap] 24)).alloc (.cells #[.int .i64 0, .int .i64 0, .slice none 0 0] 34)).alloc (.cells #[.int .i64 id, .int .i64 f, .slice none 0 0] 34)) := ⟨_, rfl⟩
  have RD : Hid (Row w0 D 34 #[.int .i64 0, .int .i64 0, .slice none 0 0]) := by
    show Row _ _ _ _
    rw [HW0.out, HD.out]
    have := Row.new (w.alloc (.cells #[.int .i64 id, .int .i64 f, .slice a n cap] 24)) #[.int .i64 0, .int .i64 0, .slice none 0 0] 34
    exact Row.alloc (by simpa using this) _
  have RV : Hid (Row w0 V 34 #[.int .i64 id, .int .i64 f, .slice none 0 0]) := by
    show Row _ _ _ _
    rw [HW0.out, HV.out]
    have := Row.new ((w.alloc (.cells #[.int .i64 id, .int .i64 f, .slice a n cap] 24)).alloc (.cells #[.int .i64 0, .int .i64 0, .slice none 0 0] 34)) #[.int .i64 id, .int .i64 f, .slice none 0 0] 34
    simpa using this
  have hb0 : Below w.heap.size w w0 := by rw [HW0.out]; exact (((Below.refl _ _).alloc (Nat.le_refl _) _).alloc (by simp) _).alloc (by simp; omega) _
  have hVD : Hid (V ≠ D ∧ w.heap.size ≤ D ∧ w.heap.size ≤ V ∧ V < w0.heap.size ∧ D < w0.heap.size) := by
    have h1 := HV.out; have h2 := HD.out
    exact ⟨by omega, by omega, by omega, RV.out.lt, RD.out.lt⟩
  have KB0 : Hid (Below w.heap.size w w0) := hb0
  have KT : Hid _ := toSls_any a n cap S w0 (h.below hb0) hn hs
  obtain ⟨g, HG⟩ : ∃ x, Hid (x = w0.heap.size) := ⟨_, rfl⟩
  clear h hs hb0
  go_enter Tryz.func12, Tryz.ntmps12
  go_wp2_with fail
  rw [← HW0.out, ← HV.out, ← HD.out, ← HA.out]
  refine Calls.mono KT.out ?_
  rintro e w1 ⟨rfl, O1, b1⟩
  rw [← HG.out] at O1
  rw [← HG.out]
  rw [HG.out] at O1
  have V1 := RV.out.below b1 RV.out.lt
  have D1 : Hid (Row w1 D 34 #[.int .i64 0, .int .i64 0, .slice none 0 0]) := RD.out.below b1 RD.out.lt
  have y2 := V1.cell 2
  have f2 := V1.free 2
  simp at y2
  obtain ⟨w2, HW2⟩ : ∃ x, Hid (x = w1.setCell ⟨V, 2, none⟩ (.slice (some ⟨g, 0, none⟩) n n)) := ⟨_, rfl⟩
  have V2 : Hid (Row w2 V 34 #[.int .i64 id, .int .i64 f, .slice (some ⟨g, 0, none⟩) n n]) := by show Row _ _ _ _; rw [HW2.out]; exact V1.set 2 _
  have D2 : Hid (Row w2 D 34 #[.int .i64 0, .int .i64 0, .slice none 0 0]) := by show Row _ _ _ _; rw [HW2.out]; exact D1.out.other 2 _ (Ne.symm hVD.out.1)
  obtain ⟨w3, HW3⟩ : ∃ x, Hid (x = w2.setRow D #[.int .i64 id, .int .i64 f, .slice (some ⟨g, 0, none⟩) n n]) := ⟨_, rfl⟩
  have D3 : Hid (Row w3 D 34 #[.int .i64 id, .int .i64 f, .slice (some ⟨g, 0, none⟩) n n]) := by show Row _ _ _ _; rw [HW3.out]; exact D2.out.row
  have B3 : Hid (Below w.heap.size w w3) := by
    show Below _ _ _
    rw [HW3.out, HW2.out]
    exact belowSetRow (Below.setCell (below2 KB0.out b1) hVD.out.2.2.1 _) hVD.out.2.1 _
  have O3 : Hid (Ow w3 w.heap.size (slsD n S) (.slice (some ⟨g, 0, none⟩) n n) (rng w.heap.size w3.heap.size)) := by
    have h1 : w3.heap.size = w1.heap.size := by rw [HW3.out, HW2.out]; simp
    have h2 := KB0.out.size
    have h3 := (O1.base h2).frame (w' := w3) (fun x hx _ => by
      have l1 := hx.1
      have l2 := hVD.out.2.2.2.1
      have l3 := hVD.out.2.2.2.2
      rw [HW3.out, setRow_other _ _ _ _ (by omega), HW2.out]
      exact heap_setCell_other w1 ⟨V, 2, none⟩ x _ (by show x ≠ V; omega))
    rw [HG.out]
    exact h3.mono (fun x hx => ⟨by have := hx.1; omega, by have := hx.2; omega⟩)
  clear V1 b1 O1
  go_wp2_with (first | (rw [← HW2.out]; refine wpList_load_row (by rfl) 34 _ (by rfl) V (by rfl) 34 _ (0, 0) _ V2.out Tryz.underlying34 (by rfl) Tryz.infoNd ?_; clear y2 f2) | (refine wpList_store_row (by rfl) 34 _ _ (by rfl) D #[.int .i64 id, .int .i64 f, .slice (some ⟨g, 0, none⟩) n n] (by rfl) (by rfl) 34 #[.int .i64 0, .int .i64 0, .slice none 0 0] ?_ Tryz.infoNd rfl (by simp [Value.oneCell']) ?_; exact D2.out; rw [← HW3.out]))
  refine bodyPost_ret (v := .agg #[.int .i64 id, .int .i64 f, .slice (some ⟨g, 0, none⟩) n n]) (results_cell_row Tryz.results12 _ _ D 34 _ (0, 0) _ (by rfl) D3.out Tryz.underlying34 (by rfl) Tryz.infoNd) rfl ⟨g, rfl, O3.out, B3.out⟩
end Go.Proofs.YtgiegoamcfjfmaaGreat
/- Lists of nodes: by plain values, read, counted, copied and compared. Conditions: lists of at most 2^20. Written by a program. -/
namespace Go.Proofs.YtgiegoamcfjfmaaGreat
set_option maxRecDepth 2000
open Go.ChangeShapes Go.WideShapes Go.ChangeAt Go.RowKit

end Go.Proofs.YtgiegoamcfjfmaaGreat
/- Lists of sayings: counted and copied. Conditions: lists of at most 2^20. Written by a program. -/
namespace Go.Proofs.YtgiegoamcfjfmaaGreat
set_option maxRecDepth 2000
open Go.ChangeShapes Go.WideShapes Go.ChangeAt Go.RowKit

structure SyB (s : Sy) : Prop where
  r : s.r.size ≤ maxLen
  pr : s.p.r.size ≤ maxLen
  pb : s.p.b.size ≤ maxLen
  m : s.p.m ≤ maxLen
  tx : ∀ i, i < s.p.m → (s.p.S i).size ≤ maxLen
def wtY (s : Sy) : Nat := s.r.size + wtP s.p
theorem Tryz.infoSyL : (Tryz.prog.info? 29).map (·.size) = some 10 := by kernel_rfl
theorem Tryz.infoSy2 : (Tryz.prog.info? 41).map (·.size) = some 10 := by kernel_rfl
set_option maxHeartbeats 2000000 in
theorem szSy_any (s : Sy) (an : Option Addr) (cn l : Nat) (w : World) (h : TxtAt w an s.p.m s.p.S) (hB : SyB s) (hl : l ≤ 1048576) :
    Calls Tryz.prog 10 #[syV s (.slice an s.p.m cn), .int .i64 (l : Int)] w fun e w' => e = .returned (.int .i64 (szN l (wtY s))) ∧ Below w.heap.size w w' := by
  obtain ⟨A, HA⟩ : ∃ x, Hid (x = w.heap.size) := ⟨_, rfl⟩
  obtain ⟨w0, HW0⟩ : ∃ x, Hid (x = w.alloc (.cells (syC s (.slice an s.p.m cn)) 29)) := ⟨_, rfl⟩
  have hb0 : Below w.heap.size w w0 := by rw [HW0.out]; exact (Below.refl _ _).alloc (Nat.le_refl _) _
  have KB0 : Hid (Below w.heap.size w w0) := hb0
  have KP : Hid (∀ l1 : Nat, l1 ≤ 1048576 → Calls Tryz.prog 62 #[pcV s.p.r s.p.k s.p.n s.p.i s.p.b (.slice an s.p.m cn), .int .i64 (l1 : Int)] w0 fun e w' => e = .returned (.int .i64 (szN l1 (wtP s.p))) ∧ Below w0.heap.size w0 w') := fun l1 h1 => by
    rw [← szPc_eq]
    exact szPc_any s.p.r s.p.k s.p.n s.p.i s.p.b an s.p.m cn s.p.S l1 w0 (h.below hb0) h1 hB.m hB.tx hB.pr hB.pb
  have HWT : Hid (wtY s = s.r.size + wtP s.p) := rfl
  rw [HWT.out]
  obtain ⟨x, HX⟩ : ∃ x, Hid (s.r.size = x) := ⟨_, rfl⟩
  obtain ⟨wp, HP⟩ : ∃ x, Hid (wtP s.p = x) := ⟨_, rfl⟩
  have hx := hB.r
  unfold maxLen at hx
  rw [HX.out] at hx
  rw [HX.out, HP.out]
  rw [HP.out] at KP
  have hsz : (s.r.size : Int) = (x : Int) := by rw [HX.out]
  clear h hB hb0 HWT
  by_cases h1 : x ≤ l
  case neg =>
    rw [szN_no (by omega)]
    have e1 : IntKind.i64.wrap ((l : Int) - (x : Int)) = (l : Int) - (x : Int) := by rw [IntKind.wrap_i64]; omega
    have h0 : (l : Int) - (x : Int) < 0 := by omega
    go_enter Tryz.func10, Tryz.ntmps10
    go_wp2
    rw [← HW0.out]
    go_ret
    exact ⟨rfl, KB0.out⟩
  obtain ⟨l1, HL1⟩ : ∃ q, Hid (l - x = q) := ⟨_, rfl⟩
  have hl1 := HL1.out
  have e1 : IntKind.i64.wrap ((l : Int) - (x : Int)) = (l1 : Int) := by rw [IntKind.wrap_i64]; omega
  have n1 : ¬ ((l1 : Int) < 0) := by omega
  have KP1 : Hid _ := KP.out l1 (by omega)
  by_cases h2 : wp ≤ l1
  · obtain ⟨l2, HL2⟩ : ∃ q, Hid (l1 - wp = q) := ⟨_, rfl⟩
    have hl2 := HL2.out
    have n2 : ¬ ((l2 : Int) < 0) := by omega
    have HR : Hid (szN l (x + wp) = (l2 : Int)) := by show _ = _; rw [szN_yes (by omega)]; congr 1; omega
    rw [szN_yes h2, HL2.out] at KP1
    rw [HR.out]
    clear h1 h2 hl1 hl2 KP
    go_enter Tryz.func10, Tryz.ntmps10
    go_wp2_with fail
    rw [← HW0.out]
    refine Calls.mono KP1.out ?_
    rintro e w1 ⟨rfl, b1⟩
    go_wp2
    go_ret
    exact ⟨rfl, below2 KB0.out b1⟩
  · have HR : Hid (szN l (x + wp) = -1) := szN_no (by omega)
    rw [szN_no h2] at KP1
    rw [HR.out]
    clear h1 h2 hl1 KP
    go_enter Tryz.func10, Tryz.ntmps10
    go_wp2_with fail
    rw [← HW0.out]
    refine Calls.mono KP1.out ?_
    rintro e w1 ⟨rfl, b1⟩
    go_wp2
    go_ret
    exact ⟨rfl, below2 KB0.out b1⟩
set_option maxHeartbeats 4000000 in
theorem toSy_any (s : Sy) (an : Option Addr) (cn : Nat) (w : World) (h : TxtAt w an s.p.m s.p.S) (hm : s.p.m ≤ 1048576) :
    Calls Tryz.prog 13 #[syV s (.slice an s.p.m cn)] w fun e w' => ∃ g, e = .returned (syV s (.slice (some ⟨g, 0, none⟩) s.p.m s.p.m)) ∧ Ow w' w.heap.size (txD s.p.m s.p.S) (.slice (some ⟨g, 0, none⟩) s.p.m s.p.m) (fun x => x = g) ∧ w.heap.size ≤ g ∧ g < w'.heap.size ∧ Below w.heap.size w w' := by
  obtain ⟨A, HA⟩ : ∃ x, Hid (x = w.heap.size) := ⟨_, rfl⟩
  obtain ⟨D, HD⟩ : ∃ x, Hid (x = w.heap.size + 1) := ⟨_, rfl⟩
  obtain ⟨V, HV⟩ : ∃ x, Hid (x = w.heap.size + 1 + 1) := ⟨_, rfl⟩
  obtain ⟨w0, HW0⟩ : ∃ x, Hid (x = ((w.alloc (.cells (syC s (.slice an s.p.m cn)) 29)).alloc (.cells #[.int .i64 0, .int .i64 0, .int .i64 0, .string ⟨#[]⟩, .string ⟨#[]⟩, .int .i64 0, .int .i64 0, .int .i64 0, .string ⟨#[]⟩, .slice none 0 0] 41)).alloc (.cells #[.int .i64 s.k, .int .i64 s.f, .int .i64 s.t, .string s.r, .string ⟨#[]⟩, .int .i64 0, .int .i64 0, .int .i64 0, .string ⟨#[]⟩, .slice none 0 0] 41)) := ⟨_, rfl⟩
  have RD : Hid (Row w0 D 41 #[.int .i64 0, .int .i64 0, .int .i64 0, .string ⟨#[]⟩, .string ⟨#[]⟩, .int .i64 0, .int .i64 0, .int .i64 0, .string ⟨#[]⟩, .slice none 0 0]) := by
    show Row _ _ _ _
    rw [HW0.out, HD.out]
    have := Row.new (w.alloc (.cells (syC s (.slice an s.p.m cn)) 29)) #[.int .i64 0, .int .i64 0, .int .i64 0, .string ⟨#[]⟩, .string ⟨#[]⟩, .int .i64 0, .int .i64 0, .int .i64 0, .string ⟨#[]⟩, .slice none 0 0] 41
    exact Row.alloc (by simpa using this) _
  have RV : Hid (Row w0 V 41 #[.int .i64 s.k, .int .i64 s.f, .int .i64 s.t, .string s.r, .string ⟨#[]⟩, .int .i64 0, .int .i64 0, .int .i64 0, .string ⟨#[]⟩, .slice none 0 0]) := by
    show Row _ _ _ _
    rw [HW0.out, HV.out]
    have := Row.new ((w.alloc (.cells (syC s (.slice an s.p.m cn)) 29)).alloc (.cells #[.int .i64 0, .int .i64 0, .int .i64 0, .string ⟨#[]⟩, .string ⟨#[]⟩, .int .i64 0, .int .i64 0, .int .i64 0, .string ⟨#[]⟩, .slice none 0 0] 41)) #[.int .i64 s.k, .int .i64 s.f, .int .i64 s.t, .string s.r, .string ⟨#[]⟩, .int .i64 0, .int .i64 0, .int .i64 0, .string ⟨#[]⟩, .slice none 0 0] 41
    simpa using this
  have hb0 : Below w.heap.size w w0 := by rw [HW0.out]; exact (((Below.refl _ _).alloc (Nat.le_refl _) _).alloc (by simp) _).alloc (by simp; omega) _
  have KB0 : Hid (Below w.heap.size w w0) := hb0
  have HL : Hid (V ≠ D ∧ w.heap.size ≤ D ∧ w.heap.size ≤ V ∧ V < w0.heap.size ∧ D < w0.heap.size) := ⟨by have := HV.out; have := HD.out; omega, by have := HD.out; omega, by have := HV.out; omega, RV.out.lt, RD.out.lt⟩
  have KT : Hid _ := toPc_any s.p.r s.p.k s.p.n s.p.i s.p.b an s.p.m cn s.p.S w0 (h.below hb0) hm
  clear h hb0
  go_enter Tryz.func13, Tryz.ntmps13
  go_wp2_with fail
  rw [← HW0.out, ← HV.out, ← HD.out, ← HA.out]
  refine Calls.mono KT.out ?_
  rintro e w2 ⟨g, rfl, O2, b2⟩
  have RV2 := RV.out.below b2 RV.out.lt
  have RD2 := RD.out.below b2 RD.out.lt
  have y4 := RV2.cell 4
  have f4 := RV2.free 4
  have y5 := RV2.cell 5
  have f5 := RV2.free 5
  have y6 := RV2.cell 6
  have f6 := RV2.free 6
  have y7 := RV2.cell 7
  have f7 := RV2.free 7
  have y8 := RV2.cell 8
  have f8 := RV2.free 8
  have y9 := RV2.cell 9
  have f9 := RV2.free 9
  simp at y4 y5 y6 y7 y8 y9
  obtain ⟨w3, HW3⟩ : ∃ x, Hid (x = ((((((w2.setCell ⟨V, 4, none⟩ (.string s.p.r)).setCell ⟨V, 5, none⟩ (.int .i64 s.p.k)).setCell ⟨V, 6, none⟩ (.int .i64 s.p.n)).setCell ⟨V, 7, none⟩ (.int .i64 s.p.i)).setCell ⟨V, 8, none⟩ (.string s.p.b)).setCell ⟨V, 9, none⟩ (.slice (some ⟨g, 0, none⟩) s.p.m s.p.m))) := ⟨_, rfl⟩
  have l2 := World.ownsRow.lt O2 g rfl
  have K3 : Hid (Row w3 V 41 (syC s (.slice (some ⟨g, 0, none⟩) s.p.m s.p.m)) ∧ Row w3 D 41 #[.int .i64 0, .int .i64 0, .int .i64 0, .string ⟨#[]⟩, .string ⟨#[]⟩, .int .i64 0, .int .i64 0, .int .i64 0, .string ⟨#[]⟩, .slice none 0 0] ∧ OwnT w3 w0.heap.size (some ⟨g, 0, none⟩) s.p.m s.p.m s.p.S ∧ Below w.heap.size w w3) := by
    rw [HW3.out]
    exact ⟨(((((RV2.set 4 _).set 5 _).set 6 _).set 7 _).set 8 _).set 9 _, (((((RD2.other 4 _ (Ne.symm HL.out.1)).other 5 _ (Ne.symm HL.out.1)).other 6 _ (Ne.symm HL.out.1)).other 7 _ (Ne.symm HL.out.1)).other 8 _ (Ne.symm HL.out.1)).other 9 _ (Ne.symm HL.out.1), (((((O2.setFar HL.out.2.2.2.1).setFar HL.out.2.2.2.1).setFar HL.out.2.2.2.1).setFar HL.out.2.2.2.1).setFar HL.out.2.2.2.1).setFar HL.out.2.2.2.1, ((((((below2 KB0.out b2).setCell HL.out.2.2.1 _).setCell HL.out.2.2.1 _).setCell HL.out.2.2.1 _).setCell HL.out.2.2.1 _).setCell HL.out.2.2.1 _).setCell HL.out.2.2.1 _⟩
  obtain ⟨w7, HW7⟩ : ∃ x, Hid (x = w3.setRow D (syC s (.slice (some ⟨g, 0, none⟩) s.p.m s.p.m))) := ⟨_, rfl⟩
  have ZR : Hid (Row w7 D 41 (syC s (.slice (some ⟨g, 0, none⟩) s.p.m s.p.m))) := by show Row _ _ _ _; rw [HW7.out]; exact K3.out.2.1.row
  have ZB : Hid (Below w.heap.size w w7) := by show Below _ _ _; rw [HW7.out]; exact belowSetRow K3.out.2.2.2 HL.out.2.1 _
  have w0w : w.heap.size ≤ w0.heap.size := KB0.out.size
  have ZO : Hid (OwnT w7 w.heap.size (some ⟨g, 0, none⟩) s.p.m s.p.m s.p.S) := by
    show OwnT _ _ _ _ _ _
    rw [HW7.out]
    exact own_kept (OwnT.base K3.out.2.2.1 w0w) (grown_row _ _ _) (fun x e => by cases e; show g ≠ D; have := l2.1; have := HL.out.2.2.2.2; omega)
  have l7 := World.ownsRow.lt ZO.out g rfl
  have KL : Hid (w.heap.size ≤ g ∧ g < w7.heap.size) := l7
  clear O2 b2 RV2 RD2 l2 l7 w0w
  go_wp2_with (first | (rw [← HW3.out]; refine wpList_load_row (by rfl) 41 _ (by rfl) V (by rfl) 41 (syC s (.slice (some ⟨g, 0, none⟩) s.p.m s.p.m)) (0, 0) _ ?_ Tryz.underlying41 (by rfl) Tryz.infoSy2 ?_; exact K3.out.1; clear y4 f4 y5 f5 y6 f6 y7 f7 y8 f8 y9 f9) | (refine wpList_store_row (by rfl) 41 _ _ (by rfl) D (syC s (.slice (some ⟨g, 0, none⟩) s.p.m s.p.m)) (by rfl) (by rfl) 41 #[.int .i64 0, .int .i64 0, .int .i64 0, .string ⟨#[]⟩, .string ⟨#[]⟩, .int .i64 0, .int .i64 0, .int .i64 0, .string ⟨#[]⟩, .slice none 0 0] ?_ Tryz.infoSy2 rfl (by simp [Value.oneCell']) ?_; exact K3.out.2.1; rw [← HW7.out]))
  exact bodyPost_ret (v := syV s (.slice (some ⟨g, 0, none⟩) s.p.m s.p.m)) (results_cell_row Tryz.results13 _ _ D 41 _ (0, 0) _ (by rfl) ZR.out Tryz.underlying41 (by rfl) Tryz.infoSy2) rfl ⟨g, rfl, ow_txt ZO.out (fun x e => by cases e; rfl), KL.out.1, KL.out.2, ZB.out⟩
def zcY : List Value := [.int .i64 0, .int .i64 0, .int .i64 0, .string ByteArray.empty, .string ByteArray.empty, .int .i64 0, .int .i64 0, .int .i64 0, .string ByteArray.empty, .slice none 0 0]
theorem Tryz.infoSyZ : (Tryz.prog.info? 41).map (fun i => (i.zero, i.size, i.bytes)) = some (some (.agg zcY.toArray), 10, 120) := by kernel_rfl
end Go.Proofs.YtgiegoamcfjfmaaGreat
/- Nets: opened, counted, copied and compared. Conditions: lists of at most 2^20. Written by a program. -/
namespace Go.Proofs.YtgiegoamcfjfmaaGreat
set_option maxRecDepth 2000
open Go.ChangeShapes Go.WideShapes Go.ChangeAt Go.RowKit

theorem list5 {α : Type} (l : List α) (h : l.length = 5) : ∃ c0 c1 c2 c3 c4, l = [c0, c1, c2, c3, c4] := by
  match l, h with
  | [c0, c1, c2, c3, c4], _ => exact ⟨c0, c1, c2, c3, c4, rfl⟩
theorem list10 {α : Type} (l : List α) (h : l.length = 10) : ∃ c0 c1 c2 c3 c4 c5 c6 c7 c8 c9, l = [c0, c1, c2, c3, c4, c5, c6, c7, c8, c9] := by
  match l, h with
  | [c0, c1, c2, c3, c4, c5, c6, c7, c8, c9], _ => exact ⟨c0, c1, c2, c3, c4, c5, c6, c7, c8, c9, rfl⟩
section
variable {H : Type} {enc : TypeId × Value → H} {w : World} {base : Nat} {spare : Nat → Bool} {held : Bool}
end
theorem Ow.apart {w : World} {B : Nat} {d : Dt} {v : Value} {F : Nat → Prop} (h : Ow w B d v F) {g : Nat} (o : Nat) (x : Value) (hn : ¬ F g) : Ow (w.setCell ⟨g, o, none⟩ x) B d v F :=
  h.turned (Trn.set w o x (F := fun y => y = g) rfl) (fun _ hy e => hn (e ▸ hy))
end Go.Proofs.YtgiegoamcfjfmaaGreat
/- One saying that is handed in. -/
namespace Go.Proofs.YtgiegoamcfjfmaaGreat
set_option maxRecDepth 2000
open Go.ChangeShapes Go.WideShapes Go.ChangeAt Go.RowKit

variable {H : Type} {enc : TypeId × Value → H} {w : World} {base : Nat} {spare : Nat → Bool} {held : Bool}
theorem open_say1 {fuel : Nat} {cs : List Value} {x : DataW H × List MemPlace} (h : DataW.trod enc Tryz.prog w base spare held fuel 29 cs = some x) :
    ∃ (y : Sy) (a : Option Addr) (c : Nat), cs = (syC y (.slice a y.p.m c)).toList ∧ TxtAt w a y.p.m y.p.S ∧ SyB y := by
  have c10 : Tryz.prog.cellsOf 29 = 10 := by kernel_rfl
  have cp6 : Tryz.prog.cellsOf 27 = 6 := by kernel_rfl
  have cs1 : Tryz.prog.cellsOf 9 = 1 := by kernel_rfl
  have ci1 : Tryz.prog.cellsOf 3 = 1 := by kernel_rfl
  obtain ⟨xs, f, _, _, hl, hlen, hf⟩ := DataW.trod_struct Tryz.underlying29 h
  rw [c10] at hl
  obtain ⟨c0, c1, c2, c3, c4, c5, c6, c7, c8, c9, rfl⟩ := list10 cs hl
  obtain ⟨y0, y1, y2, y3, y4, rfl⟩ := list5 xs hlen
  have g0 := hf 0 _ rfl
  have g1 := hf 1 _ rfl
  have g2 := hf 2 _ rfl
  have g3 := hf 3 _ rfl
  have g4 := hf 4 _ rfl
  simp [cs1, cp6, ci1] at g0 g1 g2 g3 g4
  obtain ⟨k, e0, _, _⟩ := DataW.trod_int Tryz.underlying3 g0
  obtain ⟨ff, e1, _, _⟩ := DataW.trod_int Tryz.underlying3 g1
  obtain ⟨tt, e2, _, _⟩ := DataW.trod_int Tryz.underlying3 g2
  obtain ⟨r, e3, _, hr⟩ := DataW.trod_string Tryz.underlying9 g3
  obtain ⟨pr, pk, pn, pi, pb, pa, pm, pc, pS, e4, _, hpr, hpb, ht⟩ := open_piece g4
  simp at e0 e1 e2 e3 e4
  obtain ⟨rfl, rfl, rfl, rfl, rfl, rfl⟩ := e4
  subst e0 e1 e2 e3
  exact ⟨⟨k, ff, tt, r, ⟨pr, pk, pn, pi, pb, pm, pS⟩⟩, pa, pc, rfl, ht.1, ⟨hr, hpr, hpb, ht.2.1, ht.2.2⟩⟩
end Go.Proofs.YtgiegoamcfjfmaaGreat
