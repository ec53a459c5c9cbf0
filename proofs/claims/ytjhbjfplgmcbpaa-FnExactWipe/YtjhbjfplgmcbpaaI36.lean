/- A node, copied, in the program. Conditions: lists and texts of at most 2^20. Written by a program. -/
import Derived.Test.YtjhbjfplgmcbpaaI33
import Derived.Test.YtjhbjfplgmcbpaaI17
namespace Go.Proofs.Ytjhbjfplgmcbpaa
set_option maxRecDepth 2000
open Go.ChangeShapes Go.WideShapes Go.ChangeAt Go.RowKit

/-- Where the lists of a slot lie. -/
def HO3 (F6 F11 F12 : Nat → Prop) (q x : Nat) : Prop := (q = 6 ∧ F6 x) ∨ (q = 11 ∧ F11 x) ∨ (q = 12 ∧ F12 x)
theorem ow_slotO {w : World} {B : Nat} {s : Sl} {v6 v11 v12 : Value} {F6 F11 F12 : Nat → Prop} (h : SlO w B s v6 v11 v12 F6 F11 F12) (q : Nat) (hq : q < 13) : Ow w B (slD s q) ((slC s v6 v11 v12).toList.getD q undef) (HO3 F6 F11 F12 q) := by
  match q, hq with
  | 0, _ | 1, _ | 2, _ | 3, _ | 4, _ | 5, _ | 7, _ | 8, _ | 9, _ | 10, _ => rfl
  | 6, _ => exact Ow.mono h.t fun g hg => .inl ⟨rfl, hg⟩
  | 11, _ => exact Ow.mono h.e fun g hg => .inr (.inl ⟨rfl, hg⟩)
  | 12, _ => exact Ow.mono h.z fun g hg => .inr (.inr ⟨rfl, hg⟩)
set_option maxHeartbeats 8000000 in
theorem copiedN_any (id f : Int) (a : Option Addr) (n cap : Nat) (S : Nat → Sl) (w : World) (h : Rd w (slsD n S) (.slice a n cap)) (hn : n ≤ 1048576) (hs : ∀ i, i < n → SlK (S i)) :
    Calls Try.prog 42 #[ndV id f (.slice a n cap)] w fun e w' => ∃ g, e = .returned (ndV id f (.slice (some ⟨g, 0, none⟩) n n)) ∧ Ow w' w.heap.size (slsD n S) (.slice (some ⟨g, 0, none⟩) n n) (rng w.heap.size w'.heap.size) ∧ Below w.heap.size w w' := by
  obtain ⟨i0, hi, hz0, hz1, hz2⟩ := info_parts Try.infoSlZ
  obtain ⟨A, HA⟩ : ∃ x, Hid (x = w.heap.size) := ⟨_, rfl⟩
  obtain ⟨D, HD⟩ : ∃ x, Hid (x = w.heap.size + 1) := ⟨_, rfl⟩
  obtain ⟨w0, HW0⟩ : ∃ x, Hid (x = (w.alloc (.cells #[.int .i64 id, .int .i64 f, .slice a n cap] 46)).alloc (.cells #[.int .i64 0, .int .i64 0, .slice none 0 0] 46)) := ⟨_, rfl⟩
  have RA : Hid (Row w0 A 46 #[.int .i64 id, .int .i64 f, .slice a n cap]) := by show Row _ _ _ _; rw [HW0.out, HA.out]; exact Row.alloc (Row.new w _ _) _
  have RD : Hid (Row w0 D 46 #[.int .i64 0, .int .i64 0, .slice none 0 0]) := by
    show Row _ _ _ _
    rw [HW0.out, HD.out]
    have := Row.new (w.alloc (.cells #[.int .i64 id, .int .i64 f, .slice a n cap] 46)) #[.int .i64 0, .int .i64 0, .slice none 0 0] 46
    simpa using this
  have hb0 : Below w.heap.size w w0 := by rw [HW0.out]; exact ((Below.refl _ _).alloc (Nat.le_refl _) _).alloc (by simp) _
  have KB0 : Hid (Below w.heap.size w w0) := hb0
  have HL : Hid (A ≠ D ∧ w.heap.size ≤ A ∧ w.heap.size ≤ D ∧ A < w0.heap.size ∧ D < w0.heap.size) := ⟨by have := HA.out; have := HD.out; omega, by have := HA.out; omega, by have := HD.out; omega, RA.out.lt, RD.out.lt⟩
  have KH : Hid (Rd w0 (slsD n S) (.slice a n cap)) := h.below hb0
  have HS : Hid (∀ i, i < n → SlK (S i)) := hs
  obtain ⟨g, HG⟩ : ∃ x, Hid (x = w0.heap.size) := ⟨_, rfl⟩
  have x2 := RA.out.cell 2
  simp at x2
  clear h hb0 hs
  go_enter Try.func42, Try.ntmps42
  go_wp2_with (at_make; rw [← HW0.out, ← HD.out, ← HA.out]; refine wpList_make_full _ rfl _ _ 44 rfl w0.heap.size 60 i0 (.agg zcS.toArray) 13 Try.underlying44 hi hz0 hz1 .i64 .i64 _ _ n rfl rfl rfl rfl (by rw [hz2]; omega) (by unfold maxLen; omega) (Nat.le_refl _) ?_; intro w1 hown hgrow; have hb1 : Below w0.heap.size w0 w1 := (Below.refl _ _).grown hgrow (Nat.le_refl _) (by simp); have y2 := (hb1.cell (p := ⟨A, 2, none⟩) RA.out.lt).trans x2)
  have ho1 : Ow w1 w0.heap.size (.lst 60 13 n (fun i => if i < 0 then slD (S i) else slD slZ)) (.slice (some ⟨g, 0, none⟩) n n) (rng w0.heap.size w1.heap.size) := by
    have e : (madeCells (Value.agg zcS.toArray).cells (n * 13)).toList = cL 13 (fun _ q => zcS.getD q undef) n := made_cL (zs := zcS) (by simp [zcS])
    rw [e] at hown
    rw [HG.out]
    have := ow_made (F := rng w0.heap.size w1.heap.size) hown (fun q hq => ow_slZ w1 w0.heap.size q hq) ⟨Nat.le_refl _, (World.ownsRow.lt hown _ rfl).2⟩
    exact this.congr (fun i q _ _ => by simp)
  rw [← HG.out]
  have KO1 : Hid (Ow w1 w0.heap.size (.lst 60 13 n (fun i => if i < 0 then slD (S i) else slD slZ)) (.slice (some ⟨g, 0, none⟩) n n) (rng w0.heap.size w1.heap.size)) := ho1
  have HBg : Hid (w0.heap.size ≤ g) := by show _ ≤ _; rw [HG.out]; exact Nat.le_refl _
  clear hown hgrow ho1
  go_loopw [13] (fun vi wr => ∃ k : Nat, k ≤ n ∧ vi = .int .i64 (k : Int) ∧ Hid (Ow wr w0.heap.size (.lst 60 13 n (fun i => if i < k then slD (S i) else slD slZ)) (.slice (some ⟨g, 0, none⟩) n n) (rng w0.heap.size wr.heap.size)) ∧ Below w0.heap.size w0 wr) (fun vi _ => n - (intOf vi).toNat)
  case atStart => exact ⟨0, Nat.zero_le _, rfl, KO1, hb1⟩
  case round =>
    obtain ⟨k, hk, rfl, HO, hbel⟩ := hrel
    clear KO1 hb1 y2 x2
    by_cases hlt : k < n
    · have hki : (k : Int) < (n : Int) := by omega
      obtain ⟨b1, f1, p6, p11, p12, q6, q11, q12, rfl, R1', t6, t11, t12⟩ := slot_at (KH.out.below hbel) hlt
      have R1 : Hid (wr.rangeAt b1 (f1 + k * 13) (slL (S k) (.slice p6 (S k).p.m q6) (.slice p11 (S k).ze.length q11) (.slice p12 (S k).zr.length q12))) := R1'
      obtain ⟨B2, HB2⟩ : ∃ x, Hid (x = wr.heap.size) := ⟨_, rfl⟩
      obtain ⟨w2, HW2⟩ : ∃ x, Hid (x = wr.alloc (.cells (slC (S k) (.slice p6 (S k).p.m q6) (.slice p11 (S k).ze.length q11) (.slice p12 (S k).zr.length q12)) 60)) := ⟨_, rfl⟩
      have b2 : Below wr.heap.size wr w2 := by rw [HW2.out]; exact (Below.refl _ _).alloc (Nat.le_refl _) _
      have R2 : Hid (Row w2 B2 60 (slC (S k) (.slice p6 (S k).p.m q6) (.slice p11 (S k).ze.length q11) (.slice p12 (S k).zr.length q12))) := by show Row _ _ _ _; rw [HW2.out, HB2.out]; exact Row.new wr _ _
      have KC : Hid _ := copiedS_any (S k) p6 p11 p12 q6 q11 q12 w2 (t6.below b2) (t11.below b2) (t12.below b2) (HS.out k hlt)
      have KO2 : Hid (Ow w2 w0.heap.size (.lst 60 13 n (fun i => if i < k then slD (S i) else slD slZ)) (.slice (some ⟨g, 0, none⟩) n n) (rng w0.heap.size wr.heap.size) ∧ Below w0.heap.size w0 w2 ∧ wr.heap.size ≤ w2.heap.size) := ⟨HO.out.below b2, below2 hbel b2, b2.size⟩
      clear R1' t6 t11 t12 b2 hbel HO
      go_wp2_with (first | (refine wpList_load_mid (by rfl) 60 _ (by rfl) b1 (f1 + k * 13) (by rfl) (slL (S k) (.slice p6 (S k).p.m q6) (.slice p11 (S k).ze.length q11) (.slice p12 (S k).zr.length q12)) _ ?_ Try.underlying60 (by rfl) Try.infoSl ?_; exact R1.out) | (rw [← HW2.out, ← HB2.out]; refine wpList_load_row (by rfl) 60 _ (by rfl) B2 (by rfl) 60 (slC (S k) (.slice p6 (S k).p.m q6) (.slice p11 (S k).ze.length q11) (.slice p12 (S k).zr.length q12)) (0, 0) _ ?_ Try.underlying60 (by rfl) Try.infoSl ?_; exact R2.out))
      refine Calls.mono KC.out ?_
      rintro e w3 ⟨g6, e11, e12, h11, h12, F6', F11', F12', rfl, SO', b3⟩
      obtain ⟨F6, F11, F12, SO, SC⟩ : ∃ H6 H11 H12, SlO w3 w2.heap.size (S k) (.slice (some ⟨g6, 0, none⟩) (S k).p.m (S k).p.m) (.slice e11 (S k).ze.length h11) (.slice e12 (S k).zr.length h12) H6 H11 H12 ∧ ∀ g, H6 g ∨ H11 g ∨ H12 g → w2.heap.size ≤ g ∧ g < w3.heap.size := ⟨_, _, _, ⟨SO'.t.cut, SO'.e.cut, SO'.z.cut, fun g h1 h2 => SO'.d1 g h1.1 h2.1, fun g h1 h2 => SO'.d2 g h1.1 h2.1, fun g h1 h2 => SO'.d3 g h1.1 h2.1⟩, fun g hg => by rcases hg with hg | hg | hg <;> exact hg.2⟩
      have O3 := KO2.out.1.below b3
      have TH : Hid (w3.there g (k * 13) 13) := by
        obtain ⟨a', cap', c', G', e', ho', _⟩ := O3
        cases e'
        intro j hj
        refine ⟨?_, World.ownsRow.frozenAt ho' _⟩
        rw [World.ownsRow.cellAt ho' _ (mid_lt hlt hj), cL_get _ _ _ _ _ hlt hj]
        rfl
      have hsz := KO2.out.2.1.size
      have hsz2 := KO2.out.2.2
      have hsz3 := b3.size
      have hin : ∀ q x, HO3 F6 F11 F12 q x → w2.heap.size ≤ x ∧ x < w3.heap.size := fun q x hx => by
        rcases hx with ⟨_, hx⟩ | ⟨_, hx⟩ | ⟨_, hx⟩
        · exact SC x (.inl hx)
        · exact SC x (.inr (.inl hx))
        · exact SC x (.inr (.inr hx))
      obtain ⟨w4, HW4⟩ : ∃ x, Hid (x = w3.setCells g (k * 13) (slC (S k) (.slice (some ⟨g6, 0, none⟩) (S k).p.m (S k).p.m) (.slice e11 (S k).ze.length h11) (.slice e12 (S k).zr.length h12)).toList) := ⟨_, rfl⟩
      have HO4 : Hid (Ow w4 w0.heap.size (.lst 60 13 n (fun i => if i < k + 1 then slD (S i) else slD slZ)) (.slice (some ⟨g, 0, none⟩) n n) (rng w0.heap.size w4.heap.size)) := by
        rw [HW4.out]
        show Ow _ _ _ _ _
        rw [size_setCells]
        refine Ow.congr (Ow.store (d := slD (S k)) O3 hlt rfl (fun q hq => ow_slotO (B := w0.heap.size) ⟨SO.t.base hsz, SO.e.base hsz, SO.z.base hsz, SO.d1, SO.d2, SO.d3⟩ q hq) ?_ ?_ ?_ ?_) ?_
        · intro q x _ hx hf
          have h2 := hf.2
          have h3 := (hin q x hx).1
          omega
        · intro q q' x _ _ hx hx'
          rcases hx with ⟨e1, hx⟩ | ⟨e1, hx⟩ | ⟨e1, hx⟩ <;> rcases hx' with ⟨e2, hx'⟩ | ⟨e2, hx'⟩ | ⟨e2, hx'⟩
          · omega
          · exact absurd hx' (SO.d1 x hx)
          · exact absurd hx' (SO.d2 x hx)
          · exact absurd hx (SO.d1 x hx')
          · omega
          · exact absurd hx' (SO.d3 x hx)
          · exact absurd hx (SO.d2 x hx')
          · exact absurd hx (SO.d3 x hx')
          · omega
        · intro x hx
          exact ⟨hx.1, by have := hx.2; omega⟩
        · intro q x _ hx
          have h3 := hin q x hx
          exact ⟨by omega, h3.2⟩
        · intro i q _ _
          by_cases e : i = k
          · subst e; simp
          · by_cases e2 : i < k
            · simp [e, e2, show i < k + 1 by omega]
            · simp [e, e2, show ¬ i < k + 1 by omega]
      have KB4 : Hid (Below w0.heap.size w0 w4) := by show Below _ _ _; rw [HW4.out]; exact below_setCells (below2 KO2.out.2.1 b3) HBg.out _ _
      clear O3 b3 SO SO' SC hin hsz hsz2 hsz3 KC R1 R2 KO2
      go_wp2_with (refine wpList_store_mid (by rfl) 60 _ _ (by rfl) g (k * 13) (slC (S k) (.slice (some ⟨g6, 0, none⟩) (S k).p.m (S k).p.m) (.slice e11 (S k).ze.length h11) (.slice e12 (S k).zr.length h12)) (by rfl) (by rfl) ?_ Try.infoSl (by simp [Value.oneCell']) ?_; exact TH.out; rw [← HW4.out])
      go_roundw
      case rel => exact ⟨k + 1, by omega, by go_num, HO4, KB4.out⟩
      case measure => simp [intOf]; omega
    · obtain rfl : k = n := by omega
      have RAr := RA.out.below hbel RA.out.lt
      have RDr := RD.out.below hbel RD.out.lt
      have y2 := RAr.cell 2
      have f2 := RAr.free 2
      simp at y2
      obtain ⟨w3, HW3⟩ : ∃ x, Hid (x = wr.setCell ⟨A, 2, none⟩ (.slice (some ⟨g, 0, none⟩) k k)) := ⟨_, rfl⟩
      have J3 : Hid (Row w3 A 46 #[.int .i64 id, .int .i64 f, .slice (some ⟨g, 0, none⟩) k k] ∧ Row w3 D 46 #[.int .i64 0, .int .i64 0, .slice none 0 0] ∧ Ow w3 w0.heap.size (slsD k S) (.slice (some ⟨g, 0, none⟩) k k) (rng w0.heap.size wr.heap.size) ∧ Below w.heap.size w w3) := by
        rw [HW3.out]
        refine ⟨RAr.set 2 _, RDr.other 2 _ (Ne.symm HL.out.1), ?_, (below2 KB0.out hbel).setCell HL.out.2.1 _⟩
        have : Ow wr w0.heap.size (slsD k S) (.slice (some ⟨g, 0, none⟩) k k) (rng w0.heap.size wr.heap.size) := HO.out.congr (fun i q hi _ => by simp [hi])
        exact this.far 2 _ (fun hk => by have := hk.1; have := HL.out.2.2.2.1; omega)
      have S3 : w3.heap.size = wr.heap.size := by rw [HW3.out]; simp
      obtain ⟨w7, HW7⟩ : ∃ x, Hid (x = w3.setRow D #[.int .i64 id, .int .i64 f, .slice (some ⟨g, 0, none⟩) k k]) := ⟨_, rfl⟩
      have S7 : w7.heap.size = w3.heap.size := by rw [HW7.out]; simp [World.setRow]
      have ZR : Hid (Row w7 D 46 #[.int .i64 id, .int .i64 f, .slice (some ⟨g, 0, none⟩) k k]) := by show Row _ _ _ _; rw [HW7.out]; exact J3.out.2.1.row
      have ZB : Hid (Below w.heap.size w w7) := by show Below _ _ _; rw [HW7.out]; exact belowSetRow J3.out.2.2.2 HL.out.2.2.1 _
      have ZO : Hid (Ow w7 w.heap.size (slsD k S) (.slice (some ⟨g, 0, none⟩) k k) (rng w.heap.size w7.heap.size)) := by
        show Ow _ _ _ _ _
        rw [S7, S3]
        have hw0 := KB0.out.size
        have h1 : Ow w7 w0.heap.size (slsD k S) (.slice (some ⟨g, 0, none⟩) k k) (rng w0.heap.size wr.heap.size) := by
          rw [HW7.out]
          exact J3.out.2.2.1.frame fun x hx _ => setRow_other _ _ _ _ (fun e => by have := hx.1; have := HL.out.2.2.2.2; omega)
        exact (h1.base hw0).mono (fun x hx => ⟨by have := hx.1; omega, hx.2⟩)
      clear RAr RDr hbel S3 S7
      go_wp2_with (first | (rw [← HW3.out]; refine wpList_load_row (by rfl) 46 _ (by rfl) A (by rfl) 46 #[.int .i64 id, .int .i64 f, .slice (some ⟨g, 0, none⟩) k k] (0, 0) _ ?_ Try.underlying46 (by rfl) Try.infoNd ?_; exact J3.out.1; clear y2 f2) | (refine wpList_store_row (by rfl) 46 _ _ (by rfl) D #[.int .i64 id, .int .i64 f, .slice (some ⟨g, 0, none⟩) k k] (by rfl) (by rfl) 46 #[.int .i64 0, .int .i64 0, .slice none 0 0] ?_ Try.infoNd rfl (by simp [Value.oneCell']) ?_; exact J3.out.2.1; rw [← HW7.out]))
      exact bodyPost_ret (v := ndV id f (.slice (some ⟨g, 0, none⟩) k k)) (results_cell_row Try.results42 _ _ D 46 _ (0, 0) _ (by rfl) ZR.out Try.underlying46 (by rfl) Try.infoNd) rfl ⟨g, rfl, ZO.out, ZB.out⟩
end Go.Proofs.Ytjhbjfplgmcbpaa
/- A node, copied, in the model. Conditions: lists of at most 2^20. -/
namespace Go.Proofs.Ytjhbjfplgmcbpaa
set_option maxRecDepth 2000
open Go.ChangeShapes Go.WideShapes Go.ChangeAt Go.RowKit

theorem ho3_one {F6 F11 F12 : Nat → Prop} (d1 : ∀ g, F6 g → ¬ F11 g) (d2 : ∀ g, F6 g → ¬ F12 g) (d3 : ∀ g, F11 g → ¬ F12 g) (q q' x : Nat) (hx : HO3 F6 F11 F12 q x) (hx' : HO3 F6 F11 F12 q' x) : q = q' := by
  rcases hx with ⟨e1, hx⟩ | ⟨e1, hx⟩ | ⟨e1, hx⟩ <;> rcases hx' with ⟨e2, hx'⟩ | ⟨e2, hx'⟩ | ⟨e2, hx'⟩
  · omega
  · exact absurd hx' (d1 x hx)
  · exact absurd hx' (d2 x hx)
  · exact absurd hx (d1 x hx')
  · omega
  · exact absurd hx' (d3 x hx)
  · exact absurd hx (d2 x hx')
  · exact absurd hx (d3 x hx')
  · omega
theorem HO3.any {F6 F11 F12 : Nat → Prop} {q x : Nat} (h : HO3 F6 F11 F12 q x) : F6 x ∨ F11 x ∨ F12 x := by
  rcases h with ⟨_, h⟩ | ⟨_, h⟩ | ⟨_, h⟩
  · exact .inl h
  · exact .inr (.inl h)
  · exact .inr (.inr h)
set_option maxHeartbeats 8000000 in
theorem sCopyN_any (id f : Int) (a : Option Addr) (n cap : Nat) (S : Nat → Sl) (w : World) (h : Rd w (slsD n S) (.slice a n cap)) (hn : n ≤ 1048576) (hs : ∀ i, i < n → SlS (S i)) :
    Calls Try.prog 38 #[ndV id f (.slice a n cap)] w fun e w' => ∃ g c, e = .returned (ndV id f (.slice (some ⟨g, 0, none⟩) n c)) ∧ Ow w' w.heap.size (slsD n S) (.slice (some ⟨g, 0, none⟩) n c) (rng w.heap.size w'.heap.size) ∧ Below w.heap.size w w' := by
  obtain ⟨i0, hi, hz0, hz1, hz2⟩ := info_parts Try.infoSlZ
  obtain ⟨A, HA⟩ : ∃ x, Hid (x = w.heap.size) := ⟨_, rfl⟩
  obtain ⟨D, HD⟩ : ∃ x, Hid (x = w.heap.size + 1) := ⟨_, rfl⟩
  obtain ⟨w0, HW0⟩ : ∃ x, Hid (x = (w.alloc (.cells #[.int .i64 id, .int .i64 f, .slice a n cap] 46)).alloc (.cells #[.int .i64 0, .int .i64 0, .slice none 0 0] 46)) := ⟨_, rfl⟩
  have RA : Hid (Row w0 A 46 #[.int .i64 id, .int .i64 f, .slice a n cap]) := by show Row _ _ _ _; rw [HW0.out, HA.out]; exact Row.alloc (Row.new w _ _) _
  have RD : Hid (Row w0 D 46 #[.int .i64 0, .int .i64 0, .slice none 0 0]) := by
    show Row _ _ _ _
    rw [HW0.out, HD.out]
    have := Row.new (w.alloc (.cells #[.int .i64 id, .int .i64 f, .slice a n cap] 46)) #[.int .i64 0, .int .i64 0, .slice none 0 0] 46
    simpa using this
  have hb0 : Below w.heap.size w w0 := by rw [HW0.out]; exact ((Below.refl _ _).alloc (Nat.le_refl _) _).alloc (by simp) _
  have KB0 : Hid (Below w.heap.size w w0) := hb0
  have HL : Hid (A ≠ D ∧ w.heap.size ≤ A ∧ w.heap.size ≤ D ∧ A < w0.heap.size ∧ D < w0.heap.size) := ⟨by have := HA.out; have := HD.out; omega, by have := HA.out; omega, by have := HD.out; omega, RA.out.lt, RD.out.lt⟩
  have KH : Hid (Rd w0 (slsD n S) (.slice a n cap)) := h.below hb0
  have HS : Hid (∀ i, i < n → SlS (S i)) := hs
  obtain ⟨w1, HW1⟩ : ∃ x, Hid (x = w0.alloc (.cells #[] 60)) := ⟨_, rfl⟩
  have K1 : Hid (Ow w1 w0.heap.size (slsD 0 S) (.slice (some ⟨w0.heap.size, 0, none⟩) 0 0) (rng w0.heap.size w1.heap.size) ∧ Below w0.heap.size w0 w1) := by
    rw [HW1.out]
    refine ⟨⟨_, 0, fun _ _ => undef, fun _ _ _ => False, rfl, ?_, ⟨fun x e => ?_, fun _ _ _ hi => absurd hi (Nat.not_lt_zero _), fun _ _ _ hi => absurd hi (Nat.not_lt_zero _), fun _ _ _ _ _ hi => absurd hi (Nat.not_lt_zero _)⟩, fun _ _ hi => absurd hi (Nat.not_lt_zero _)⟩, (Below.refl _ _).alloc (Nat.le_refl _) _⟩
    · have := World.ownsRow_lit (e := 60) (size := 13) (base := w0.heap.size) w0 #[] 0 (by simp) (by unfold maxLen; omega) (by simp)
      simpa [cL] using this
    · cases e
      exact ⟨Nat.le_refl _, by simp⟩
  obtain ⟨g1, HG1⟩ : ∃ x, Hid (x = D + 1) := ⟨_, rfl⟩
  have hg1 : D + 1 = w0.heap.size := by rw [HW0.out, HD.out]; simp
  have K1' : Hid (Ow w1 w0.heap.size (slsD 0 S) (.slice (some ⟨g1, 0, none⟩) 0 0) (rng w0.heap.size w1.heap.size) ∧ Below w0.heap.size w0 w1) := by rw [HG1.out, hg1]; exact K1.out
  clear h hb0 hs K1 hg1
  go_enter Try.func38, Try.ntmps38
  go_wp2_with fail
  rw [← HW0.out, ← HD.out, ← HA.out, ← HW1.out, ← HG1.out]
  go_loopw [3, 4] (fun v vi wr => ∃ k g c : Nat, k ≤ n ∧ v = .slice (some ⟨g, 0, none⟩) k c ∧ vi = .int .i64 (k : Int) ∧ Hid (Ow wr w0.heap.size (slsD k S) (.slice (some ⟨g, 0, none⟩) k c) (rng w0.heap.size wr.heap.size) ∧ Below w0.heap.size w0 wr)) (fun _ vi _ => n - (intOf vi).toNat)
  case atStart => exact ⟨0, g1, 0, Nat.zero_le _, rfl, rfl, K1'⟩
  case round =>
    obtain ⟨k, g, c, hk, rfl, rfl, HO⟩ := hrel
    clear K1' HW1 HG1
    have x2 := (RA.out.below HO.out.2 RA.out.lt).cell 2
    simp at x2
    by_cases hlt : k < n
    · have hki : (k : Int) < (n : Int) := by omega
      obtain ⟨b1, f1, p6, p11, p12, q6, q11, q12, rfl, R1', t6, t11, t12⟩ := slot_at (KH.out.below HO.out.2) hlt
      have R1 : Hid (wr.rangeAt b1 (f1 + k * 13) (slL (S k) (.slice p6 (S k).p.m q6) (.slice p11 (S k).ze.length q11) (.slice p12 (S k).zr.length q12))) := R1'
      have KC : Hid _ := sCopyS_any (S k) p6 p11 p12 q6 q11 q12 wr t6 t11 t12 (HS.out k hlt)
      have HLT : Hid (k < n) := hlt
      clear R1' t6 t11 t12 KH HS
      go_wp2_with (refine wpList_load_mid (by rfl) 60 _ (by rfl) b1 (f1 + k * 13) (by rfl) (slL (S k) (.slice p6 (S k).p.m q6) (.slice p11 (S k).ze.length q11) (.slice p12 (S k).zr.length q12)) _ ?_ Try.underlying60 (by rfl) Try.infoSl ?_; exact R1.out)
      refine Calls.mono KC.out ?_
      rintro e w3 ⟨g6, g11, g12, h6, h11, h12, F6', F11', F12', rfl, SO', b3⟩
      obtain ⟨F6, F11, F12, SO, SC⟩ : ∃ H6 H11 H12, SlO w3 wr.heap.size (S k) (.slice (some ⟨g6, 0, none⟩) (S k).p.m h6) (.slice (some ⟨g11, 0, none⟩) (S k).ze.length h11) (.slice (some ⟨g12, 0, none⟩) (S k).zr.length h12) H6 H11 H12 ∧ ∀ g, H6 g ∨ H11 g ∨ H12 g → wr.heap.size ≤ g ∧ g < w3.heap.size := ⟨_, _, _, ⟨SO'.t.cut, SO'.e.cut, SO'.z.cut, fun g h1 h2 => SO'.d1 g h1.1 h2.1, fun g h1 h2 => SO'.d2 g h1.1 h2.1, fun g h1 h2 => SO'.d3 g h1.1 h2.1⟩, fun g hg => by rcases hg with hg | hg | hg <;> exact hg.2⟩
      obtain ⟨w5, HW5⟩ : ∃ x, Hid (x = w3.alloc (.cells (slC (S k) (.slice (some ⟨g6, 0, none⟩) (S k).p.m h6) (.slice (some ⟨g11, 0, none⟩) (S k).ze.length h11) (.slice (some ⟨g12, 0, none⟩) (S k).zr.length h12)) 60)) := ⟨_, rfl⟩
      have b5 : Below w3.heap.size w3 w5 := by rw [HW5.out]; exact (Below.refl _ _).alloc (Nat.le_refl _) _
      have b35 : Below wr.heap.size wr w5 := below2 b3 b5
      have hsz := HO.out.2.size
      clear R1 KC SO'
      go_wp2_with (at_builtin; rw [← HW5.out]; refine (show True → _ from ?_) trivial)
      intro _
      refine wpList_snoc w5 (by rfl) _ _ 44 (by rfl) w0.heap.size 60 i0 (.agg zcS.toArray) 13 _ Try.underlying44 hi hz0 hz1 hz2 rfl (by decide) (.slice (some ⟨g, 0, none⟩) k c) k _ _ (by rfl) (HO.out.1.below b35) ⟨w3.heap.size, 0, none⟩ 1 (slC (S k) (.slice (some ⟨g6, 0, none⟩) (S k).p.m h6) (.slice (some ⟨g11, 0, none⟩) (S k).ze.length h11) (.slice (some ⟨g12, 0, none⟩) (S k).zr.length h12)).toList (by rfl) rfl ?_ (by simp [Value.oneCell']) (slD (S k)) (HO3 F6 F11 F12) ?_ ?_ (fun q q' x _ _ hx hx' => ho3_one SO.d1 SO.d2 SO.d3 q q' x hx hx') (by unfold maxLen; omega) (by omega) ?_ ?_
      · rw [HW5.out]
        exact World.news_of_block (t := 60) (fr := (0, 0)) (Row.new w3 _ _)
      · intro q hq
        exact ow_slotO ⟨(SO.t.base hsz).below b5, (SO.e.base hsz).below b5, (SO.z.base hsz).below b5, SO.d1, SO.d2, SO.d3⟩ q hq
      · intro q x _ hx hf
        have h1 := (SC x hx.any).1
        have h2 := hf.2
        omega
      · have := b35.size
        omega
      intro g' c' w6 O6 b6 _
      have K6 : Hid (Ow w6 w0.heap.size (slsD (k + 1) S) (.slice (some ⟨g', 0, none⟩) (k + 1) c') (rng w0.heap.size w6.heap.size) ∧ Below w0.heap.size w0 w6) := by
        refine ⟨(O6.mono (fun x hx => ?_)).congr (fun i q _ _ => ?_), (below2 HO.out.2 b35).trans b6⟩
        · refine ⟨?_, hx.1⟩
          have h5 := b35.size
          rcases hx.2 with (h | ⟨q, _, h⟩) | h
          · exact h.1
          · have := (SC x h.any).1
            show w0.heap.size ≤ x
            omega
          · show w0.heap.size ≤ x
            omega
        · by_cases e : i = k
          · subst e; simp
          · simp [e]
      clear O6 b6 b5 b35 b3 SO SC x2 HO HW5
      have h1 := HLT.out
      go_wp2
      go_roundw
      case rel => exact ⟨k + 1, g', c', by omega, by go_num, by go_num, K6⟩
      case measure => simp [intOf]; omega
    · obtain rfl : k = n := by omega
      have RAr := RA.out.below HO.out.2 RA.out.lt
      have RDr := RD.out.below HO.out.2 RD.out.lt
      have f2 := RAr.free 2
      obtain ⟨w3, HW3⟩ : ∃ x, Hid (x = wr.setCell ⟨A, 2, none⟩ (.slice (some ⟨g, 0, none⟩) k c)) := ⟨_, rfl⟩
      have J3 : Hid (Row w3 A 46 #[.int .i64 id, .int .i64 f, .slice (some ⟨g, 0, none⟩) k c] ∧ Row w3 D 46 #[.int .i64 0, .int .i64 0, .slice none 0 0] ∧ Ow w3 w0.heap.size (slsD k S) (.slice (some ⟨g, 0, none⟩) k c) (rng w0.heap.size wr.heap.size) ∧ Below w.heap.size w w3) := by
        rw [HW3.out]
        exact ⟨RAr.set 2 _, RDr.other 2 _ (Ne.symm HL.out.1), HO.out.1.far 2 _ (fun hk => by have := hk.1; have := HL.out.2.2.2.1; omega), (below2 KB0.out HO.out.2).setCell HL.out.2.1 _⟩
      have S3 : w3.heap.size = wr.heap.size := by rw [HW3.out]; simp
      obtain ⟨w7, HW7⟩ : ∃ x, Hid (x = w3.setRow D #[.int .i64 id, .int .i64 f, .slice (some ⟨g, 0, none⟩) k c]) := ⟨_, rfl⟩
      have S7 : w7.heap.size = w3.heap.size := by rw [HW7.out]; simp [World.setRow]
      have ZR : Hid (Row w7 D 46 #[.int .i64 id, .int .i64 f, .slice (some ⟨g, 0, none⟩) k c]) := by show Row _ _ _ _; rw [HW7.out]; exact J3.out.2.1.row
      have ZB : Hid (Below w.heap.size w w7) := by show Below _ _ _; rw [HW7.out]; exact belowSetRow J3.out.2.2.2 HL.out.2.2.1 _
      have ZO : Hid (Ow w7 w.heap.size (slsD k S) (.slice (some ⟨g, 0, none⟩) k c) (rng w.heap.size w7.heap.size)) := by
        show Ow _ _ _ _ _
        rw [S7, S3]
        have hw0 := KB0.out.size
        have h1 : Ow w7 w0.heap.size (slsD k S) (.slice (some ⟨g, 0, none⟩) k c) (rng w0.heap.size wr.heap.size) := by
          rw [HW7.out]
          exact J3.out.2.2.1.frame fun x hx _ => setRow_other _ _ _ _ (fun e => by have := hx.1; have := HL.out.2.2.2.2; omega)
        exact (h1.base hw0).mono (fun x hx => ⟨by have := hx.1; omega, hx.2⟩)
      clear RAr RDr S3 S7 HO
      go_wp2_with (first | (rw [← HW3.out]; refine wpList_load_row (by rfl) 46 _ (by rfl) A (by rfl) 46 #[.int .i64 id, .int .i64 f, .slice (some ⟨g, 0, none⟩) k c] (0, 0) _ ?_ Try.underlying46 (by rfl) Try.infoNd ?_; exact J3.out.1; clear x2 f2) | (refine wpList_store_row (by rfl) 46 _ _ (by rfl) D #[.int .i64 id, .int .i64 f, .slice (some ⟨g, 0, none⟩) k c] (by rfl) (by rfl) 46 #[.int .i64 0, .int .i64 0, .slice none 0 0] ?_ Try.infoNd rfl (by simp [Value.oneCell']) ?_; exact J3.out.2.1; rw [← HW7.out]))
      exact bodyPost_ret (v := ndV id f (.slice (some ⟨g, 0, none⟩) k c)) (results_cell_row Try.results38 _ _ D 46 _ (0, 0) _ (by rfl) ZR.out Try.underlying46 (by rfl) Try.infoNd) rfl ⟨g, c, rfl, ZO.out, ZB.out⟩
end Go.Proofs.Ytjhbjfplgmcbpaa
