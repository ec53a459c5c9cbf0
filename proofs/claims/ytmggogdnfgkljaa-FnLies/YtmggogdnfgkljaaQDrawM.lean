/- The draws of matrices: what each gives, at any bytes: some list of rows, at most 17 of them, each of 1 to 6 numbers. Condition: at most 2^20 bytes of code. -/
import Derived.Test.YtmggogdnfgkljaaK6
import Derived.Test.YtmggogdnfgkljaaK3
namespace Go.Proofs.Ytmggogdnfgkljaa
open Go.ChangeShapes Go.WideShapes Go.ChangeAt Go.RowKit

theorem MatZ.base {k : IntKind} {T TT : Nat} {w : World} {B E : Nat} {a : Option Addr} {n cap : Nat} {A : Nat → Option Addr} {L C : Nat → Nat} {Z : Nat → Nat → Int} (h : MatZ k T TT w B E a n cap A L C Z) : (∀ x, a = some x → B ≤ x.block) ∧ ∀ i, i < n → ∀ x, A i = some x → B ≤ x.block := by
  refine ⟨fun x e => ?_, fun i hi x e => ?_⟩
  · rcases own_shape h.out with ⟨h', _⟩ | ⟨g, _, e', hb, _⟩
    · rw [h'] at e; cases e
    · rw [e'] at e; cases e; exact hb
  · rcases own_shape (h.row i hi) with ⟨h', _⟩ | ⟨g, _, e', hb, _⟩
    · rw [h'] at e; cases e
    · rw [e'] at e; cases e; exact hb
/-- The cursor's block turned, which lies ahead of the matrix. -/
theorem MatZ.cur {k : IntKind} {T TT : Nat} {w w' : World} {B E g : Nat} {a : Option Addr} {n cap : Nat} {A : Nat → Option Addr} {L C : Nat → Nat} {Z : Nat → Nat → Int} (h : MatZ k T TT w B E a n cap A L C Z) (hg : w.grownBy w' (some g)) (hB : g < B) : MatZ k T TT w' B E a n cap A L C Z :=
  h.kept hg (fun x e => by have := h.base.1 x e; omega) (fun i hi x e => by have := h.base.2 i hi x e; omega)
/-- Some list of rows of ours, each of 1 to 6 numbers. -/
def DM (u : Nat) (w : World) (B E G n cap : Nat) : Prop := ∃ A L C Z, MatI w B E (some ⟨G, 0, none⟩) n cap A L C Z ∧ ∀ i, i < n → 1 ≤ L i ∧ L i ≤ u
theorem DM.cur {u : Nat} {w w' : World} {B E G n cap g : Nat} (h : DM u w B E G n cap) (hg : w.grownBy w' (some g)) (hB : g < B) : DM u w' B E G n cap := by
  obtain ⟨A, L, C, Z, hM, hL⟩ := h
  exact ⟨A, L, C, Z, hM.cur hg hB, hL⟩
theorem DM.below {u : Nat} {w w' : World} {B E G n cap : Nat} (h : DM u w B E G n cap) (hb : Below w.heap.size w w') : DM u w' B E G n cap := by
  obtain ⟨A, L, C, Z, hM, hL⟩ := h
  exact ⟨A, L, C, Z, hM.below hb, hL⟩
theorem DM.wide {u : Nat} {w : World} {B E E' G n cap : Nat} (h : DM u w B E G n cap) (hE : E ≤ E') : DM u w B E' G n cap := by
  obtain ⟨A, L, C, Z, hM, hL⟩ := h
  exact ⟨A, L, C, Z, hM.wide hE, hL⟩
theorem DM.tight {u : Nat} {w : World} {B E G n cap : Nat} (h : DM u w B E G n cap) : DM u w B w.heap.size G n cap := by
  obtain ⟨A, L, C, Z, hM, hL⟩ := h
  exact ⟨A, L, C, Z, hM.tight, hL⟩
theorem DM.at {u : Nat} {w : World} {B E G n cap : Nat} (h : DM u w B E G n cap) : ∃ L Z, MatAt w (some ⟨G, 0, none⟩) n L Z ∧ ∀ i, i < n → 1 ≤ L i ∧ L i ≤ u := by
  obtain ⟨A, L, C, Z, hM, hL⟩ := h
  exact ⟨L, Z, hM.at, hL⟩
theorem DM.pushed {u : Nat} {wr w2 : World} {B b0 G k cap g2 cap3 gr W capr : Nat} {A : Nat → Option Addr} {L C : Nat → Nat} {Z : Nat → Nat → Int} {xs : List Int} (o : Obj) (hM : MatI wr B b0 (some ⟨G, 0, none⟩) k cap A L C Z) (hL : ∀ i, i < k → 1 ≤ L i ∧ L i ≤ u) (hW : 1 ≤ W ∧ W ≤ u)
    (hb : B ≤ b0) (hr : wr.ownsRow b0 3 1 (.slice (some ⟨gr, 0, none⟩) W capr) W (xs.map (Value.int .i64))) (hgrow : (wr.alloc o).grownBy w2 (some G))
    (hout : w2.ownsRow B 31 1 (.slice (some ⟨g2, 0, none⟩) (k + 1) cap3) (k + 1) (hds A L C k ++ [.slice (some ⟨gr, 0, none⟩) W capr])) :
    DM u w2 B w2.heap.size g2 (k + 1) cap3 := by
  have hbo : Below wr.heap.size wr (wr.alloc o) := (Below.refl _ _).alloc (Nat.le_refl _) _
  have hM1 := hM.below hbo
  have hlen : xs.length = W := by simpa using hr.1
  have hr1 : (wr.alloc o).ownsRow B 3 1 (.slice (some ⟨gr, 0, none⟩) W capr) W ((zI (fun j => xs.getD j 0) W).map (Value.int .i64)) := by
    have e : zI (fun j => xs.getD j 0) W = xs := by rw [← hlen]; exact zI_of xs
    rw [e]
    exact own_base (ownsRow_below hr hbo) hb
  have hgr := (hr.lt gr rfl).1
  refine ⟨_, _, _, _, MatZ.push tiNe hM1 hgrow hout (Nat.le_refl _) ?_ hr1 (fun j hj y u ey eu => ?_), fun i hi => ?_⟩
  · exact Nat.le_trans (Nat.le_of_lt (Nat.lt_of_le_of_lt hgr (hr.lt gr rfl).2)) (Nat.le_trans hbo.size hgrow.size)
  · cases eu
    have := hM.rE j hj y ey
    exact Nat.ne_of_lt (Nat.lt_of_lt_of_le this hgr)
  · by_cases e : i = k
    · simp only [if_pos e]; exact hW
    · simp only [if_neg e]; exact hL i (by omega)
theorem drawRow {w : World} {B E : Nat} {a : Option Addr} {n cap : Nat} {A : Nat → Option Addr} {L C : Nat → Nat} {Z : Nat → Nat → Int} (h : MatI w B E a n cap A L C Z) {i : Nat} (hi : i < n) (hL : 1 ≤ L i) : ∃ g, A i = some ⟨g, 0, none⟩ ∧ B ≤ g ∧ g < w.heap.size ∧ ∀ j u, ((zI (Z i) (L i)).map (Value.int .i64))[j]? = some u → w.cell? ((⟨g, 0, none⟩ : Addr).add j) = some u := by
  rcases own_shape (h.row i hi) with ⟨_, h0, _⟩ | ⟨g, _, e, hb, _⟩
  · omega
  · refine ⟨g, e, hb, (h.glt hi e).2, fun j u hu => ?_⟩
    have hj : j < L i := by
      by_cases hh : j < L i
      · exact hh
      · rw [List.getElem?_eq_none (by simp [zI_len]; omega)] at hu; cases hu
    have ea : (⟨g, 0, none⟩ : Addr).add j = ⟨g, j, none⟩ := by unfold Addr.add; split <;> simp_all
    rw [ea, h.elt hi e hj]
    simpa [zI, hj] using hu
theorem one_ints (xs : List Int) : ∀ u ∈ xs.map (Value.int .i64), u.oneCell' = true := by
  intro u hu
  simp at hu
  obtain ⟨y, _, rfl⟩ := hu
  rfl

def lenV : Value → Nat
  | .slice _ n _ => n
  | _ => 0
theorem DM.le {u u' : Nat} {w : World} {B E G n cap : Nat} (h : DM u w B E G n cap) (hu : u ≤ u') : DM u' w B E G n cap := by
  obtain ⟨A, L, C, Z, hM, hL⟩ := h
  exact ⟨A, L, C, Z, hM, fun i hi => ⟨(hL i hi).1, Nat.le_trans (hL i hi).2 hu⟩⟩
theorem DM.grew {u : Nat} {w w' : World} {B E G n cap g0 g i l c : Nat} {A : Nat → Option Addr} {L C : Nat → Nat} {Z : Nat → Nat → Int} {xs : List Int} (hM : MatI w B E (some ⟨G, 0, none⟩) n cap A L C Z) (hL : ∀ i, i < n → 1 ≤ L i ∧ L i ≤ u) (hi : i < n) (hA : A i = some ⟨g0, 0, none⟩) (hg : w.grownBy w' (some g0))
    (hrow : w'.ownsRow B 3 1 (.slice (some ⟨g, 0, none⟩) l c) l (xs.map (Value.int .i64))) (hl : 1 ≤ l ∧ l ≤ u + 1) (hat : g = g0 ∨ w.heap.size ≤ g) (hE : E ≤ w'.heap.size) :
    (∃ v, w'.cell? ⟨G, i, none⟩ = some v) ∧ w'.frozen? ⟨G, i, none⟩ = false ∧ DM (u + 1) (w'.setCell ⟨G, i, none⟩ (.slice (some ⟨g, 0, none⟩) l c)) B (w'.setCell ⟨G, i, none⟩ (.slice (some ⟨g, 0, none⟩) l c)).heap.size G n cap ∧ w'.grownBy (w'.setCell ⟨G, i, none⟩ (.slice (some ⟨g, 0, none⟩) l c)) (some G) := by
  obtain ⟨h1, h2, h3, h4⟩ := MatZ.grew tiNe hM hi hA hg (own_zI hrow) hat hE (hrow.lt g rfl).2
  refine ⟨⟨_, h1⟩, h2, ⟨_, _, _, _, h3.wide h4.size, fun j hj => ?_⟩, h4⟩
  by_cases e : j = i
  · simp only [if_pos e]; exact hl
  · simp only [if_neg e]; exact ⟨(hL j hj).1, Nat.le_succ_of_le (hL j hj).2⟩
theorem matBase {w : World} {B B' E : Nat} {a : Option Addr} {n cap : Nat} {A : Nat → Option Addr} {L C : Nat → Nat} {Z : Nat → Nat → Int} (h : MatI w B E a n cap A L C Z) (hB : B' ≤ B) : MatI w B' E a n cap A L C Z :=
  ⟨own_base h.out hB, h.oE, fun i hi => own_base (h.row i hi) hB, h.rE, h.apart⟩
theorem DM.hdr {u : Nat} {w : World} {B E G n cap i : Nat} (h : DM u w B E G n cap) (hi : i < n) : (∃ v, w.cell? ⟨G, i, none⟩ = some v) ∧ w.frozen? ⟨G, i, none⟩ = false := by
  obtain ⟨A, L, C, Z, hM, _⟩ := h
  exact ⟨⟨_, hM.hdr hi⟩, hM.ofree i⟩
theorem DM.olt {u : Nat} {w : World} {B E G n cap : Nat} (h : DM u w B E G n cap) : B ≤ G ∧ G < w.heap.size := by
  obtain ⟨A, L, C, Z, hM, _⟩ := h
  exact hM.olt
/-- A new row for an old one. -/
theorem DM.setRow {u : Nat} {w : World} {B E G n cap g l c i : Nat} {xs : List Int} (h : DM u w B E G n cap) (hi : i < n) (hrow : w.ownsRow B 3 1 (.slice (some ⟨g, 0, none⟩) l c) l (xs.map (Value.int .i64))) (hl : 1 ≤ l ∧ l ≤ u) (hE : E ≤ w.heap.size) (hg : E ≤ g) :
    DM u (w.setCell ⟨G, i, none⟩ (.slice (some ⟨g, 0, none⟩) l c)) B (w.setCell ⟨G, i, none⟩ (.slice (some ⟨g, 0, none⟩) l c)).heap.size G n cap ∧ w.grownBy (w.setCell ⟨G, i, none⟩ (.slice (some ⟨g, 0, none⟩) l c)) (some G) := by
  obtain ⟨A, L, C, Z, hM, hL⟩ := h
  have h1 := (hM.wide hE).setRow tiNe hi (own_zI hrow) (hrow.lt g rfl).2 (fun j hj _ x ex => by have := hM.rE j hj x ex; omega)
  refine ⟨⟨_, _, _, _, h1.1.wide h1.2.size, fun j hj => ?_⟩, h1.2⟩
  by_cases e : j = i
  · simp only [if_pos e]; exact hl
  · simp only [if_neg e]; exact hL j hj
theorem DM.setElt {u : Nat} {w : World} {B G n cap g0 i j : Nat} {A : Nat → Option Addr} {L C : Nat → Nat} {Z : Nat → Nat → Int} (hM : MatI w B w.heap.size (some ⟨G, 0, none⟩) n cap A L C Z) (hL : ∀ i, i < n → 1 ≤ L i ∧ L i ≤ u) (hi : i < n) (hA : A i = some ⟨g0, 0, none⟩) (hj : j < L i) (v : Int) :
    DM u (w.setCell ⟨g0, j, none⟩ (.int .i64 v)) B (w.setCell ⟨g0, j, none⟩ (.int .i64 v)).heap.size G n cap ∧ w.grownBy (w.setCell ⟨g0, j, none⟩ (.int .i64 v)) (some g0) := by
  have h1 := hM.setElt tiNe hi hA hj v
  exact ⟨⟨_, _, _, _, h1.1.wide h1.2.size, hL⟩, h1.2⟩

set_option maxRecDepth 100000 in
set_option maxHeartbeats 4000000 in
theorem matrix_any (g n cap : Nat) (a : Option Addr) (r c : Nat) (w : World) (hc : Cur w g a n cap) (hab : Under a n g) (hr : 1 ≤ r ∧ r ≤ 5) (hcc : 1 ≤ c ∧ c ≤ 5) :
    Calls Try.prog 82 #[.pointer (some ⟨g, 0, none⟩), .int .i64 (r : Int), .int .i64 (c : Int)] w fun e w' => ∃ G m cap2, e = .returned (.slice (some ⟨G, 0, none⟩) m cap2) ∧ m ≤ 17 ∧ DM 6 w' w.heap.size w'.heap.size G m cap2 ∧ w.grownBy w' (some g) ∧ Cur w' g a n cap := by
  obtain ⟨i0, hi, hz0, hz1, hz2⟩ := info_parts Try.infoInt
  obtain ⟨i1, hj, hy0, hy1, hy2⟩ := info_parts Try.infoInts
  have hgl := hc.lt
  have H0 : Hid (DM 5 (w.alloc (.cells #[] 31)) w.heap.size (w.alloc (.cells #[] 31)).heap.size w.heap.size 0 0) := ⟨fun _ => none, fun _ => 0, fun _ => 0, fun _ _ => 0, litM w _ _ _ _, fun i hi => absurd hi (Nat.not_lt_zero _)⟩
  have HG0 : Hid (w.grownBy (w.alloc (.cells #[] 31)) (some g)) := World.grownBy_alloc _ _ _
  have HC0 : Hid (Cur (w.alloc (.cells #[] 31)) g a n cap) := hc.alloc _
  obtain ⟨hr1, hr5⟩ := hr
  obtain ⟨hc1, hc5⟩ := hcc
  clear hc
  go_enter Try.func82, Try.ntmps82
  go_wp2
  go_loopw [7, 8] (fun v i wr => ∃ k G cap2, k ≤ r ∧ i = .int .i64 ((k : Nat) : Int) ∧ v = .slice (some ⟨G, 0, none⟩) k cap2 ∧ DM 5 wr w.heap.size wr.heap.size G k cap2 ∧ w.grownBy wr (some g) ∧ Cur wr g a n cap) (fun _ i _ => r - (intOf i).toNat)
  case atStart => exact ⟨0, _, _, Nat.zero_le _, rfl, rfl, H0.out, HG0.out, HC0.out⟩
  case round =>
    obtain ⟨k, G, cap2, hk, rfl, rfl, hM, hgr, hcr⟩ := hrel
    clear H0 HG0 HC0
    have hsz0 := hgr.size
    by_cases hlt : k < r
    · have hki : (k : Int) < (r : Int) := by omega
      have hba : Below wr.heap.size wr (wr.alloc (.cells #[] 3)) := (Below.refl _ _).alloc (Nat.le_refl _) _
      have KR : Hid ((wr.alloc (.cells #[] 3)).ownsRow wr.heap.size 3 1 (.slice (some ⟨wr.heap.size, 0, none⟩) 0 0) 0 (([] : List Int).map (Value.int .i64))) := World.ownsRow_lit wr #[] 0 (Nat.le_refl _) (by unfold maxLen; omega) rfl
      have KM : Hid (DM 5 (wr.alloc (.cells #[] 3)) w.heap.size wr.heap.size G k cap2) := hM.below hba
      have KG : Hid (w.grownBy (wr.alloc (.cells #[] 3)) (some g)) := grownBy_trans hgr (World.grownBy_alloc _ _ _)
      have KC : Hid (Cur (wr.alloc (.cells #[] 3)) g a n cap) := hcr.alloc _
      clear hM hgr hcr hba
      obtain ⟨b0, hb0⟩ : ∃ b0, wr.heap.size = b0 := ⟨_, rfl⟩
      rw [hb0] at KR KM hsz0
      go_wp2
      clear hb0
      go_loopw [9, 10] (fun v i wr => ∃ q gr capr xs, q ≤ c ∧ i = .int .i64 ((q : Nat) : Int) ∧ v = .slice (some ⟨gr, 0, none⟩) q capr ∧ wr.ownsRow b0 3 1 (.slice (some ⟨gr, 0, none⟩) q capr) q ((xs : List Int).map (Value.int .i64)) ∧ DM 5 wr w.heap.size b0 G k cap2 ∧ w.grownBy wr (some g) ∧ Cur wr g a n cap) (fun _ i _ => c - (intOf i).toNat)
      case atStart => exact ⟨0, _, _, [], Nat.zero_le _, rfl, rfl, KR.out, KM.out, KG.out, KC.out⟩
      case round =>
        obtain ⟨q, gr, capr, xs, hq, rfl, rfl, hown, hM, hgr, hcr⟩ := hrel
        clear KR KM KG KC
        have hgrl := hown.lt gr rfl
        have hszr := hgr.size
        by_cases hqc : q < c
        · have hqi : (q : Int) < (c : Int) := by omega
          have KM : Hid _ := hM
          clear hM
          go_wp2_with fail
          refine (belowN_any g n cap a _ _ hcr).mono ?_
          rintro e w1 ⟨x, x0, x1, _, rfl, hg1, hc1⟩
          have hown1 := hown.kept hg1 (.inr (by simp [Value.ownBlock]; omega))
          have KM1 : Hid (DM 5 w1 w.heap.size b0 G k cap2) := DM.cur KM.out hg1 hgl
          have hg01 := grownBy_trans hgr hg1
          have hs1 := hg1.size
          clear hown hcr x1 KM hgr hg1
          go_wp2_with (at_builtin; refine wpList_append_lies _ (by rfl) _ _ 31 (by rfl) b0 3 i0 (.int .i64 0) 1 8 Try.underlying31 hi hz0 hz1 hz2 rfl (by decide) (.slice (some ⟨gr, 0, none⟩) q capr) q _ (by rfl) (hown1.alloc _) ⟨w1.heap.size, 0, none⟩ 1 1 [.int .i64 x] (by rfl) (by rfl) (World.news_of_block (cs := #[.int .i64 x]) (t := 3) (fr := (0, 0)) (heap_alloc_new w1 _)) (by simp [Value.oneCell']) (by omega) (by unfold maxLen; omega) (by omega) (by simp; omega) (w1.heap.size + 1) (by simp) ?_; intro g2 cap3 w2 hown2 hgrow hat hltg)
          have hgrow' : (w1.alloc (.cells #[.int .i64 x] 3)).grownBy w2 (some gr) := hgrow
          have KM2 : Hid (DM 5 w2 w.heap.size b0 G k cap2) := by
            obtain ⟨A, L, C, Z, hM, hL⟩ := KM1.out
            exact ⟨A, L, C, Z, (hM.below ((Below.refl _ _).alloc (Nat.le_refl _) _)).keptE hgrow' hgrl.1, hL⟩
          have HO : Hid (w2.ownsRow b0 3 1 (.slice (some ⟨g2, 0, none⟩) (q + 1) cap3) (q + 1) ((xs ++ [x]).map (Value.int .i64))) := by rw [List.map_append]; exact hown2
          have HG : Hid (w.grownBy w2 (some g)) := grown_new (grownBy_trans hg01 (World.grownBy_alloc w1 _ _)) hgrow' (by omega)
          have HC : Hid (Cur w2 g a n cap) := (hc1.alloc _).far hgrow' (by omega) hab
          clear hown2 hgrow hgrow' hat hltg hown1 KM1 hg01 hc1
          go_roundw
          case rel => exact ⟨q + 1, g2, cap3, xs ++ [x], by omega, by go_num, rfl, HO.out, KM2.out, HG.out, HC.out⟩
          case measure => simp [intOf] <;> omega
        · obtain rfl : c = q := by omega
          have hqi : ¬ (c : Int) < (c : Int) := by omega
          obtain ⟨A, L, C, Z, hMM, hLL⟩ := hM
          have KL : Hid _ := hLL
          have hGl := hMM.olt
          clear hLL
          go_wp2_with (at_builtin; refine wpList_append_lies _ (by rfl) _ _ 24 (by rfl) w.heap.size 31 i1 (.slice none 0 0) 1 24 Try.underlying24 hj hy0 hy1 hy2 rfl (by decide) (.slice (some ⟨G, 0, none⟩) k cap2) k _ (by rfl) (World.ownsRow.alloc hMM.out _) ⟨wr.heap.size, 0, none⟩ 1 1 [.slice (some ⟨gr, 0, none⟩) c capr] (by rfl) (by rfl) (World.news_of_block (cs := #[.slice (some ⟨gr, 0, none⟩) c capr]) (t := 31) (fr := (0, 0)) (heap_alloc_new wr _)) (by simp [Value.oneCell']) (by omega) (by unfold maxLen; omega) (by omega) (by simp; omega) (wr.heap.size + 1) (by simp) ?_; intro g2 cap3 w2 hown2 hgrow hat hltg)
          have HP : Hid (DM 5 w2 w.heap.size w2.heap.size g2 (k + 1) cap3) := DM.pushed _ hMM KL.out ⟨by omega, by omega⟩ (by omega) hown hgrow hown2
          have hgrow' : (wr.alloc (.cells #[.slice (some ⟨gr, 0, none⟩) c capr] 31)).grownBy w2 (some G) := hgrow
          have HG : Hid (w.grownBy w2 (some g)) := grown_new (grownBy_trans hgr (World.grownBy_alloc wr _ _)) hgrow' hGl.1
          have HC : Hid (Cur w2 g a n cap) := (hcr.alloc _).far hgrow' (by omega) hab
          clear hown2 hgrow hgrow' hat hltg hown hMM KL hgr hcr
          go_roundw
          case rel => exact ⟨k + 1, g2, cap3, by omega, by go_num, rfl, HP.out, HG.out, HC.out⟩
          case measure => simp [intOf] <;> omega
    · obtain rfl : k = r := by omega
      have hki : ¬ (k : Int) < (k : Int) := by omega
      have KG : Hid (w.grownBy wr (some g)) := hgr
      have KM : Hid (DM 5 wr w.heap.size wr.heap.size G k cap2) := hM
      clear hM hgr
      have hGB : w.heap.size ≤ G := KM.out.olt.1
      by_cases h1 : k = 1
      case pos =>
        have h1i : ¬ (k : Int) > 1 := by omega
        clear h1
        go_wp2_with fail
        clear hsz0 h1i
        refine (belowN_any g n cap a _ _ hcr).mono ?_
        rintro e w5 ⟨x, x0, x1, _, rfl, hg5, hc5⟩
        have KG5 : Hid (w.grownBy w5 (some g)) := grownBy_trans KG.out hg5
        have KM5 : Hid (DM 5 w5 w.heap.size w5.heap.size G k cap2) := (DM.cur KM.out hg5 hgl).tight
        have x2 := x1 (by omega)
        clear KG KM hcr x1 hg5
        by_cases e0 : x = 0
        case pos =>
          subst e0
          obtain ⟨A, L, C, Z, hMM, hLL⟩ := KM5.out
          have hL0 := hLL 0 (by omega)
          obtain ⟨g0, hA0, hg0B, hg0l, _⟩ := drawRow hMM (i := 0) (by omega) hL0.1
          have hd0 := hMM.hdr (i := 0) (by omega)
          have he0 := hMM.elt (i := 0) (j := 0) (by omega) hA0 (by omega)
          have hf0 := hMM.free (i := 0) (by omega) hA0 0
          rw [hA0] at hd0
          have hGl := hMM.olt.2
          have KMM : Hid (MatI w5 w.heap.size w5.heap.size (some ⟨G, 0, none⟩) k cap2 A L C Z) := hMM
          have KLL : Hid (∀ i, i < k → 1 ≤ L i ∧ L i ≤ 5) := hLL
          have KA0 : Hid (A 0 = some ⟨g0, 0, none⟩) := hA0
          have hl0i : (0 : Int) < (L 0 : Int) := by omega
          generalize Z 0 0 = z00 at he0
          clear hMM hLL hA0
          have hc5' := hc5.lt
          go_wp2_with fail
          go_region_with ((go_at_call 116; refine (pick_any g n cap a w5.heap.size 0 2 2 _ (Cur.alloc (show Cur w5.drew g a n cap from hc5) _) (by omega) (by omega) (by omega) (lit_cells (cs := [-1, 256]))).mono ?_; rintro e w6 ⟨z, rfl, hg6, hc6⟩; have hal : Below w5.heap.size w5 (w5.drew.alloc (.cells #[.int .i64 (-1), .int .i64 256] 3)) := (((Below.refl _ _).drew).alloc (Nat.le_refl _) _); have hd6 := hg6.cell ((hal.cell (p := ⟨G, 0, none⟩) hGl).trans hd0) (by simp; omega); have he6 := hg6.cell ((hal.cell (p := ⟨g0, 0, none⟩) hg0l).trans he0) (by simp; omega); have KM6 : Hid (MatI w6 w.heap.size w6.heap.size (some ⟨G, 0, none⟩) k cap2 A L C Z) := ((KMM.out.below hal).cur hg6 hgl).tight; have hf6 := KM6.out.free (i := 0) (by omega) KA0.out 0; have KG6 : Hid (w.grownBy w6 (some g)) := grownBy_trans (grownBy_trans KG5.out ⟨hal.os, hal.tape, hal.output, hal.size, fun j hj _ => hal.block j hj⟩) hg6))
          all_goals
            have h7 := DM.setElt (i := 0) (j := 0) KM6.out KLL.out (by omega) KA0.out (by have := (KLL.out 0 (by omega)).1; omega) z
            have HM7 : Hid _ := h7.1
            have HG7 : Hid _ := grown_new KG6.out h7.2 hg0B
            have HC7 : Hid _ := hc6.far h7.2 (by omega) hab
            clear h7 hc6 hg6
            go_wp2
            go_ret
            exact ⟨G, k, cap2, rfl, by omega, DM.le HM7.out (by omega), HG7.out, HC7.out⟩
        have e0' : (x == 0) = false := by simpa using e0
        by_cases e1 : x = 1
        case pos =>
          subst e1
          obtain ⟨A, L, C, Z, hMM, hLL⟩ := KM5.out
          have hL0 := hLL 0 (by omega)
          obtain ⟨g0, hA0, hg0B, hg0l, _⟩ := drawRow hMM (i := 0) (by omega) hL0.1
          have hba : Below w5.heap.size w5 (w5.alloc (.cells #[.int .i64 1] 3)) := (Below.refl _ _).alloc (Nat.le_refl _) _
          have hMa := hMM.below hba
          have hd0 := hMM.hdr (i := 0) (by omega)
          have hrow := hMa.row 0 (by omega)
          rw [hA0] at hd0 hrow
          have KMa : Hid (MatI (w5.alloc (.cells #[.int .i64 1] 3)) w.heap.size w5.heap.size (some ⟨G, 0, none⟩) k cap2 A L C Z) := hMa
          have KLL : Hid (∀ i, i < k → 1 ≤ L i ∧ L i ≤ 5) := hLL
          have KA0 : Hid (A 0 = some ⟨g0, 0, none⟩) := hA0
          obtain ⟨l0, hl0⟩ : ∃ l0, L 0 = l0 := ⟨_, rfl⟩
          obtain ⟨c0, hc0⟩ : ∃ c0, C 0 = c0 := ⟨_, rfl⟩
          rw [hl0] at hL0 hd0 hrow
          rw [hc0] at hd0 hrow
          obtain ⟨xs, hxs⟩ : ∃ xs, zI (Z 0) l0 = xs := ⟨_, rfl⟩
          rw [hxs] at hrow
          have hs5 := KG5.out.size
          clear hMM hMa hLL hA0 hl0 hc0 hba hxs
          go_wp2_with (at_builtin; refine wpList_append_lies _ (by rfl) _ _ 31 (by rfl) w.heap.size 3 i0 (.int .i64 0) 1 8 Try.underlying31 hi hz0 hz1 hz2 rfl (by decide) (.slice (some ⟨g0, 0, none⟩) l0 c0) l0 _ (by rfl) hrow ⟨w5.heap.size, 0, none⟩ 1 1 [.int .i64 1] (by rfl) (by rfl) (World.news_of_block (cs := #[.int .i64 1]) (t := 3) (fr := (0, 0)) (heap_alloc_new w5 _)) (by simp [Value.oneCell']) (by omega) (by unfold maxLen; omega) (by omega) (by simp; omega) (w5.heap.size + 1) (by simp) ?_; intro g3 cap3 w3 hown3 hgrow3 hat3 hltg3; have hgrow3' : (w5.alloc (.cells #[.int .i64 1] 3)).grownBy w3 (some g0) := hgrow3; have hsz3 := hgrow3.size; have h7 := DM.grew (xs := xs ++ [1]) KMa.out KLL.out (by omega) KA0.out hgrow3' (by rw [List.map_append]; exact hown3) ⟨by omega, by omega⟩ (by rcases hat3 with e | e; cases e; exact .inl rfl; right; simp; omega) (by simp at hsz3; omega); obtain ⟨⟨old, hold⟩, hfr, HM8', HG8'⟩ := h7; have HM8 : Hid _ := HM8'; have HG8 : Hid _ := HG8'; clear HM8' HG8' hown3 hgrow3)
          have HG7 : Hid _ := grown_new (grown_new (grownBy_trans KG5.out (World.grownBy_alloc w5 _ _)) hgrow3' hg0B) HG8.out hGB
          have HC7 : Hid _ := ((hc5.alloc _).far hgrow3' (by omega) hab).far HG8.out (by omega) hab
          clear hgrow3' HG8 hc5 KMa KM5 KG5
          go_ret
          exact ⟨G, k, cap2, rfl, by omega, HM8.out, HG7.out, HC7.out⟩
        have e1' : (x == 1) = false := by simpa using e1
        by_cases e2 : x = 2
        case pos =>
          subst e2
          go_wp2
          go_loopw [7] (fun v wr => ∃ m G cap2, v = .slice (some ⟨G, 0, none⟩) m cap2 ∧ 1 ≤ m ∧ m ≤ 17 ∧ DM 5 wr w.heap.size wr.heap.size G m cap2 ∧ w.grownBy wr (some g) ∧ Cur wr g a n cap) (fun v _ => 17 - lenV v)
          case atStart => exact ⟨k, G, cap2, rfl, by omega, by omega, KM5.out, KG5.out, hc5⟩
          case round =>
            obtain ⟨m, G, cap2, rfl, hm1, hm2, hM, hgr, hcr⟩ := hrel
            have KM : Hid (DM 5 wr w.heap.size wr.heap.size G m cap2) := hM
            have KG : Hid (w.grownBy wr (some g)) := hgr
            clear hM hgr KM5 KG5 hc5
            go_wp2_with fail
            refine (belowN_any g n cap a _ _ hcr).mono ?_
            rintro e w2 ⟨y, y0, y1, _, rfl, hg2, hc2⟩
            have y2 := y1 (by omega)
            have KG2 : Hid (w.grownBy w2 (some g)) := grownBy_trans KG.out hg2
            have KM2 : Hid (DM 5 w2 w.heap.size w2.heap.size G m cap2) := (DM.cur KM.out hg2 hgl).tight
            clear KG KM hcr hg2 y1
            by_cases hmy : (m : Int) < 16 + y
            · obtain ⟨A, L, C, Z, hMM, hLL⟩ := KM2.out
              have hL0 := hLL 0 (by omega)
              obtain ⟨g0, hA0, hg0B, hg0l, hnews⟩ := drawRow hMM (i := 0) (by omega) hL0.1
              have hba : Below w2.heap.size w2 (w2.alloc (.cells #[] 3)) := (Below.refl _ _).alloc (Nat.le_refl _) _
              have hd0 := (hMM.below hba).hdr (i := 0) (by omega)
              rw [hA0] at hd0
              have KW : Hid _ := news_below hnews hba
              have hlen2 : ((zI (Z 0) (L 0)).map (Value.int .i64)).length = L 0 * 1 := by simp [zI_len]
              have KONE : Hid _ := one_ints (zI (Z 0) (L 0))
              obtain ⟨xs, hxs⟩ : ∃ xs, zI (Z 0) (L 0) = xs := ⟨_, rfl⟩
              rw [hxs] at KW hlen2 KONE
              have KMM : Hid (MatI w2 w.heap.size w2.heap.size (some ⟨G, 0, none⟩) m cap2 A L C Z) := hMM
              have KLL : Hid (∀ i, i < m → 1 ≤ L i ∧ L i ≤ 5) := hLL
              obtain ⟨l0, hl0⟩ : ∃ l0, L 0 = l0 := ⟨_, rfl⟩
              obtain ⟨c0, hc0⟩ : ∃ c0, C 0 = c0 := ⟨_, rfl⟩
              rw [hl0] at hL0 hlen2 hd0
              rw [hc0] at hd0
              have KR : Hid ((w2.alloc (.cells #[] 3)).ownsRow w2.heap.size 3 1 (.slice (some ⟨w2.heap.size, 0, none⟩) 0 0) 0 (([] : List Int).map (Value.int .i64))) := World.ownsRow_lit w2 #[] 0 (Nat.le_refl _) (by unfold maxLen; omega) rfl
              have hs2 : w.heap.size ≤ w2.heap.size := KG2.out.size
              clear hMM hLL hnews hxs hba hA0 hl0 hc0
              have hGB2 := KMM.out.olt.1
              go_wp2_with (first | (guard_hyp KR; at_builtin; refine wpList_append_lies _ (by rfl) _ _ 31 (by rfl) w2.heap.size 3 i0 (.int .i64 0) 1 8 Try.underlying31 hi hz0 hz1 hz2 rfl (by decide) (.slice (some ⟨w2.heap.size, 0, none⟩) 0 0) 0 _ (by rfl) KR.out ⟨g0, 0, none⟩ l0 c0 (xs.map (Value.int .i64)) (by rfl) hlen2 KW.out KONE.out (by omega) (by unfold maxLen; omega) (by omega) (by simp) (w2.heap.size + 1) (by simp) ?_; intro g3 cap3 w3 hown3 hgrow3 hat3 hltg3; have hgrow3' : (w2.alloc (.cells #[] 3)).grownBy w3 (some w2.heap.size) := hgrow3; have hM3 : MatI w3 w.heap.size w2.heap.size (some ⟨G, 0, none⟩) m cap2 A L C Z := (KMM.out.below ((Below.refl _ _).alloc (Nat.le_refl _) _)).keptE hgrow3' (Nat.le_refl _); have hs3 : w2.heap.size ≤ w3.heap.size := (by have := hgrow3.size; simp at this; omega); clear KR KW hgrow3 hat3 hltg3 KMM) | (guard_hyp hM3; at_builtin; refine wpList_append_lies _ (by rfl) _ _ 24 (by rfl) w.heap.size 31 i1 (.slice none 0 0) 1 24 Try.underlying24 hj hy0 hy1 hy2 rfl (by decide) (.slice (some ⟨G, 0, none⟩) m cap2) m _ (by rfl) (World.ownsRow.alloc hM3.out _) ⟨w3.heap.size, 0, none⟩ 1 1 [.slice (some ⟨g3, 0, none⟩) l0 cap3] (by rfl) (by rfl) (World.news_of_block (cs := #[.slice (some ⟨g3, 0, none⟩) l0 cap3]) (t := 31) (fr := (0, 0)) (heap_alloc_new w3 _)) (by simp [Value.oneCell']) (by omega) (by unfold maxLen; omega) (by omega) (by simp; omega) (w3.heap.size + 1) (by simp) ?_; intro g4 cap4 w4 hown4 hgrow4 hat4 hltg4))
              have hgrow4' : (w3.alloc (.cells #[.slice (some ⟨g3, 0, none⟩) l0 cap3] 31)).grownBy w4 (some G) := hgrow4
              have HP : Hid (DM 5 w4 w.heap.size w4.heap.size g4 (m + 1) cap4) := DM.pushed _ hM3 KLL.out hL0 hs2 (by rw [Nat.zero_add] at hown3; exact hown3) hgrow4' hown4
              have HG : Hid (w.grownBy w4 (some g)) := grown_new (grownBy_trans (grown_new (grownBy_trans KG2.out (World.grownBy_alloc w2 _ _)) hgrow3' hs2) (World.grownBy_alloc w3 _ _)) hgrow4' hGB2
              have HC : Hid (Cur w4 g a n cap) := ((((hc2.alloc _).far hgrow3' (by omega) hab).alloc _).far hgrow4' (by omega) hab)
              clear hown4 hgrow4 hgrow4' hat4 hltg4 hown3 hgrow3' hM3 hc2 KG2 KM2
              go_roundw
              case rel => exact ⟨m + 1, g4, cap4, rfl, by omega, by omega, HP.out, HG.out, HC.out⟩
              case measure => simp [lenV] <;> omega
            · go_wp2
              go_ret
              exact ⟨G, m, cap2, rfl, hm2, DM.le KM2.out (by omega), KG2.out, hc2⟩
        have e2' : (x == 2) = false := by simpa using e2
        by_cases e3 : x = 3
        case pos =>
          subst e3
          have HM7 : Hid (DM 5 (w5.alloc (.cells #[] 31)) w.heap.size (w5.alloc (.cells #[] 31)).heap.size w5.heap.size 0 0) := ⟨fun _ => none, fun _ => 0, fun _ => 0, fun _ _ => 0, matBase (litM w5 _ _ _ _) KG5.out.size, fun i hi => absurd hi (Nat.not_lt_zero _)⟩
          have HG7 : Hid (w.grownBy (w5.alloc (.cells #[] 31)) (some g)) := grownBy_trans KG5.out (World.grownBy_alloc _ _ _)
          have HC7 : Hid (Cur (w5.alloc (.cells #[] 31)) g a n cap) := hc5.alloc _
          clear KM5 KG5 hc5
          go_wp2
          go_ret
          exact ⟨_, 0, 0, rfl, by omega, DM.le HM7.out (by omega), HG7.out, HC7.out⟩
        have e3' : (x == 3) = false := by simpa using e3
        go_wp2
        go_ret
        exact ⟨G, k, cap2, rfl, by omega, DM.le KM5.out (by omega), KG5.out, hc5⟩
      have h1i : (k : Int) > 1 := by omega
      go_wp2_with fail
      refine (once_any g n cap a _ _ hcr).mono ?_
      rintro e w2 ⟨y, rfl, hg2, hc2⟩
      have KG2 : Hid (w.grownBy w2 (some g)) := grownBy_trans KG.out hg2
      have KM2 : Hid (DM 5 w2 w.heap.size w2.heap.size G k cap2) := (DM.cur KM.out hg2 hgl).tight
      clear KG KM hcr hsz0 hg2
      cases y
      case false =>
        go_wp2_with fail
        clear h1i
        have KG : Hid (w.grownBy w2 (some g)) := KG2.out
        have KM : Hid (DM 5 w2 w.heap.size w2.heap.size G k cap2) := KM2.out
        have hcr := hc2
        clear KG2 KM2 hc2
        refine (belowN_any g n cap a _ _ hcr).mono ?_
        rintro e w5 ⟨x, x0, x1, _, rfl, hg5, hc5⟩
        have KG5 : Hid (w.grownBy w5 (some g)) := grownBy_trans KG.out hg5
        have KM5 : Hid (DM 5 w5 w.heap.size w5.heap.size G k cap2) := (DM.cur KM.out hg5 hgl).tight
        have x2 := x1 (by omega)
        clear KG KM hcr x1 hg5
        by_cases e0 : x = 0
        case pos =>
          subst e0
          obtain ⟨A, L, C, Z, hMM, hLL⟩ := KM5.out
          have hL0 := hLL 0 (by omega)
          obtain ⟨g0, hA0, hg0B, hg0l, _⟩ := drawRow hMM (i := 0) (by omega) hL0.1
          have hd0 := hMM.hdr (i := 0) (by omega)
          have he0 := hMM.elt (i := 0) (j := 0) (by omega) hA0 (by omega)
          have hf0 := hMM.free (i := 0) (by omega) hA0 0
          rw [hA0] at hd0
          have hGl := hMM.olt.2
          have KMM : Hid (MatI w5 w.heap.size w5.heap.size (some ⟨G, 0, none⟩) k cap2 A L C Z) := hMM
          have KLL : Hid (∀ i, i < k → 1 ≤ L i ∧ L i ≤ 5) := hLL
          have KA0 : Hid (A 0 = some ⟨g0, 0, none⟩) := hA0
          have hl0i : (0 : Int) < (L 0 : Int) := by omega
          generalize Z 0 0 = z00 at he0
          clear hMM hLL hA0
          have hc5' := hc5.lt
          go_wp2_with fail
          go_region_with ((go_at_call 116; refine (pick_any g n cap a w5.heap.size 0 2 2 _ (Cur.alloc (show Cur w5.drew g a n cap from hc5) _) (by omega) (by omega) (by omega) (lit_cells (cs := [-1, 256]))).mono ?_; rintro e w6 ⟨z, rfl, hg6, hc6⟩; have hal : Below w5.heap.size w5 (w5.drew.alloc (.cells #[.int .i64 (-1), .int .i64 256] 3)) := (((Below.refl _ _).drew).alloc (Nat.le_refl _) _); have hd6 := hg6.cell ((hal.cell (p := ⟨G, 0, none⟩) hGl).trans hd0) (by simp; omega); have he6 := hg6.cell ((hal.cell (p := ⟨g0, 0, none⟩) hg0l).trans he0) (by simp; omega); have KM6 : Hid (MatI w6 w.heap.size w6.heap.size (some ⟨G, 0, none⟩) k cap2 A L C Z) := ((KMM.out.below hal).cur hg6 hgl).tight; have hf6 := KM6.out.free (i := 0) (by omega) KA0.out 0; have KG6 : Hid (w.grownBy w6 (some g)) := grownBy_trans (grownBy_trans KG5.out ⟨hal.os, hal.tape, hal.output, hal.size, fun j hj _ => hal.block j hj⟩) hg6))
          all_goals
            have h7 := DM.setElt (i := 0) (j := 0) KM6.out KLL.out (by omega) KA0.out (by have := (KLL.out 0 (by omega)).1; omega) z
            have HM7 : Hid _ := h7.1
            have HG7 : Hid _ := grown_new KG6.out h7.2 hg0B
            have HC7 : Hid _ := hc6.far h7.2 (by omega) hab
            clear h7 hc6 hg6
            go_wp2
            go_ret
            exact ⟨G, k, cap2, rfl, by omega, DM.le HM7.out (by omega), HG7.out, HC7.out⟩
        have e0' : (x == 0) = false := by simpa using e0
        by_cases e1 : x = 1
        case pos =>
          subst e1
          obtain ⟨A, L, C, Z, hMM, hLL⟩ := KM5.out
          have hL0 := hLL 0 (by omega)
          obtain ⟨g0, hA0, hg0B, hg0l, _⟩ := drawRow hMM (i := 0) (by omega) hL0.1
          have hba : Below w5.heap.size w5 (w5.alloc (.cells #[.int .i64 1] 3)) := (Below.refl _ _).alloc (Nat.le_refl _) _
          have hMa := hMM.below hba
          have hd0 := hMM.hdr (i := 0) (by omega)
          have hrow := hMa.row 0 (by omega)
          rw [hA0] at hd0 hrow
          have KMa : Hid (MatI (w5.alloc (.cells #[.int .i64 1] 3)) w.heap.size w5.heap.size (some ⟨G, 0, none⟩) k cap2 A L C Z) := hMa
          have KLL : Hid (∀ i, i < k → 1 ≤ L i ∧ L i ≤ 5) := hLL
          have KA0 : Hid (A 0 = some ⟨g0, 0, none⟩) := hA0
          obtain ⟨l0, hl0⟩ : ∃ l0, L 0 = l0 := ⟨_, rfl⟩
          obtain ⟨c0, hc0⟩ : ∃ c0, C 0 = c0 := ⟨_, rfl⟩
          rw [hl0] at hL0 hd0 hrow
          rw [hc0] at hd0 hrow
          obtain ⟨xs, hxs⟩ : ∃ xs, zI (Z 0) l0 = xs := ⟨_, rfl⟩
          rw [hxs] at hrow
          have hs5 := KG5.out.size
          clear hMM hMa hLL hA0 hl0 hc0 hba hxs
          go_wp2_with (at_builtin; refine wpList_append_lies _ (by rfl) _ _ 31 (by rfl) w.heap.size 3 i0 (.int .i64 0) 1 8 Try.underlying31 hi hz0 hz1 hz2 rfl (by decide) (.slice (some ⟨g0, 0, none⟩) l0 c0) l0 _ (by rfl) hrow ⟨w5.heap.size, 0, none⟩ 1 1 [.int .i64 1] (by rfl) (by rfl) (World.news_of_block (cs := #[.int .i64 1]) (t := 3) (fr := (0, 0)) (heap_alloc_new w5 _)) (by simp [Value.oneCell']) (by omega) (by unfold maxLen; omega) (by omega) (by simp; omega) (w5.heap.size + 1) (by simp) ?_; intro g3 cap3 w3 hown3 hgrow3 hat3 hltg3; have hgrow3' : (w5.alloc (.cells #[.int .i64 1] 3)).grownBy w3 (some g0) := hgrow3; have hsz3 := hgrow3.size; have h7 := DM.grew (xs := xs ++ [1]) KMa.out KLL.out (by omega) KA0.out hgrow3' (by rw [List.map_append]; exact hown3) ⟨by omega, by omega⟩ (by rcases hat3 with e | e; cases e; exact .inl rfl; right; simp; omega) (by simp at hsz3; omega); obtain ⟨⟨old, hold⟩, hfr, HM8', HG8'⟩ := h7; have HM8 : Hid _ := HM8'; have HG8 : Hid _ := HG8'; clear HM8' HG8' hown3 hgrow3)
          have HG7 : Hid _ := grown_new (grown_new (grownBy_trans KG5.out (World.grownBy_alloc w5 _ _)) hgrow3' hg0B) HG8.out hGB
          have HC7 : Hid _ := ((hc5.alloc _).far hgrow3' (by omega) hab).far HG8.out (by omega) hab
          clear hgrow3' HG8 hc5 KMa KM5 KG5
          go_ret
          exact ⟨G, k, cap2, rfl, by omega, HM8.out, HG7.out, HC7.out⟩
        have e1' : (x == 1) = false := by simpa using e1
        by_cases e2 : x = 2
        case pos =>
          subst e2
          go_wp2
          go_loopw [7] (fun v wr => ∃ m G cap2, v = .slice (some ⟨G, 0, none⟩) m cap2 ∧ 1 ≤ m ∧ m ≤ 17 ∧ DM 5 wr w.heap.size wr.heap.size G m cap2 ∧ w.grownBy wr (some g) ∧ Cur wr g a n cap) (fun v _ => 17 - lenV v)
          case atStart => exact ⟨k, G, cap2, rfl, by omega, by omega, KM5.out, KG5.out, hc5⟩
          case round =>
            obtain ⟨m, G, cap2, rfl, hm1, hm2, hM, hgr, hcr⟩ := hrel
            have KM : Hid (DM 5 wr w.heap.size wr.heap.size G m cap2) := hM
            have KG : Hid (w.grownBy wr (some g)) := hgr
            clear hM hgr KM5 KG5 hc5
            go_wp2_with fail
            refine (belowN_any g n cap a _ _ hcr).mono ?_
            rintro e w2 ⟨y, y0, y1, _, rfl, hg2, hc2⟩
            have y2 := y1 (by omega)
            have KG2 : Hid (w.grownBy w2 (some g)) := grownBy_trans KG.out hg2
            have KM2 : Hid (DM 5 w2 w.heap.size w2.heap.size G m cap2) := (DM.cur KM.out hg2 hgl).tight
            clear KG KM hcr hg2 y1
            by_cases hmy : (m : Int) < 16 + y
            · obtain ⟨A, L, C, Z, hMM, hLL⟩ := KM2.out
              have hL0 := hLL 0 (by omega)
              obtain ⟨g0, hA0, hg0B, hg0l, hnews⟩ := drawRow hMM (i := 0) (by omega) hL0.1
              have hba : Below w2.heap.size w2 (w2.alloc (.cells #[] 3)) := (Below.refl _ _).alloc (Nat.le_refl _) _
              have hd0 := (hMM.below hba).hdr (i := 0) (by omega)
              rw [hA0] at hd0
              have KW : Hid _ := news_below hnews hba
              have hlen2 : ((zI (Z 0) (L 0)).map (Value.int .i64)).length = L 0 * 1 := by simp [zI_len]
              have KONE : Hid _ := one_ints (zI (Z 0) (L 0))
              obtain ⟨xs, hxs⟩ : ∃ xs, zI (Z 0) (L 0) = xs := ⟨_, rfl⟩
              rw [hxs] at KW hlen2 KONE
              have KMM : Hid (MatI w2 w.heap.size w2.heap.size (some ⟨G, 0, none⟩) m cap2 A L C Z) := hMM
              have KLL : Hid (∀ i, i < m → 1 ≤ L i ∧ L i ≤ 5) := hLL
              obtain ⟨l0, hl0⟩ : ∃ l0, L 0 = l0 := ⟨_, rfl⟩
              obtain ⟨c0, hc0⟩ : ∃ c0, C 0 = c0 := ⟨_, rfl⟩
              rw [hl0] at hL0 hlen2 hd0
              rw [hc0] at hd0
              have KR : Hid ((w2.alloc (.cells #[] 3)).ownsRow w2.heap.size 3 1 (.slice (some ⟨w2.heap.size, 0, none⟩) 0 0) 0 (([] : List Int).map (Value.int .i64))) := World.ownsRow_lit w2 #[] 0 (Nat.le_refl _) (by unfold maxLen; omega) rfl
              have hs2 : w.heap.size ≤ w2.heap.size := KG2.out.size
              clear hMM hLL hnews hxs hba hA0 hl0 hc0
              have hGB2 := KMM.out.olt.1
              go_wp2_with (first | (guard_hyp KR; at_builtin; refine wpList_append_lies _ (by rfl) _ _ 31 (by rfl) w2.heap.size 3 i0 (.int .i64 0) 1 8 Try.underlying31 hi hz0 hz1 hz2 rfl (by decide) (.slice (some ⟨w2.heap.size, 0, none⟩) 0 0) 0 _ (by rfl) KR.out ⟨g0, 0, none⟩ l0 c0 (xs.map (Value.int .i64)) (by rfl) hlen2 KW.out KONE.out (by omega) (by unfold maxLen; omega) (by omega) (by simp) (w2.heap.size + 1) (by simp) ?_; intro g3 cap3 w3 hown3 hgrow3 hat3 hltg3; have hgrow3' : (w2.alloc (.cells #[] 3)).grownBy w3 (some w2.heap.size) := hgrow3; have hM3 : MatI w3 w.heap.size w2.heap.size (some ⟨G, 0, none⟩) m cap2 A L C Z := (KMM.out.below ((Below.refl _ _).alloc (Nat.le_refl _) _)).keptE hgrow3' (Nat.le_refl _); have hs3 : w2.heap.size ≤ w3.heap.size := (by have := hgrow3.size; simp at this; omega); clear KR KW hgrow3 hat3 hltg3 KMM) | (guard_hyp hM3; at_builtin; refine wpList_append_lies _ (by rfl) _ _ 24 (by rfl) w.heap.size 31 i1 (.slice none 0 0) 1 24 Try.underlying24 hj hy0 hy1 hy2 rfl (by decide) (.slice (some ⟨G, 0, none⟩) m cap2) m _ (by rfl) (World.ownsRow.alloc hM3.out _) ⟨w3.heap.size, 0, none⟩ 1 1 [.slice (some ⟨g3, 0, none⟩) l0 cap3] (by rfl) (by rfl) (World.news_of_block (cs := #[.slice (some ⟨g3, 0, none⟩) l0 cap3]) (t := 31) (fr := (0, 0)) (heap_alloc_new w3 _)) (by simp [Value.oneCell']) (by omega) (by unfold maxLen; omega) (by omega) (by simp; omega) (w3.heap.size + 1) (by simp) ?_; intro g4 cap4 w4 hown4 hgrow4 hat4 hltg4))
              have hgrow4' : (w3.alloc (.cells #[.slice (some ⟨g3, 0, none⟩) l0 cap3] 31)).grownBy w4 (some G) := hgrow4
              have HP : Hid (DM 5 w4 w.heap.size w4.heap.size g4 (m + 1) cap4) := DM.pushed _ hM3 KLL.out hL0 hs2 (by rw [Nat.zero_add] at hown3; exact hown3) hgrow4' hown4
              have HG : Hid (w.grownBy w4 (some g)) := grown_new (grownBy_trans (grown_new (grownBy_trans KG2.out (World.grownBy_alloc w2 _ _)) hgrow3' hs2) (World.grownBy_alloc w3 _ _)) hgrow4' hGB2
              have HC : Hid (Cur w4 g a n cap) := ((((hc2.alloc _).far hgrow3' (by omega) hab).alloc _).far hgrow4' (by omega) hab)
              clear hown4 hgrow4 hgrow4' hat4 hltg4 hown3 hgrow3' hM3 hc2 KG2 KM2
              go_roundw
              case rel => exact ⟨m + 1, g4, cap4, rfl, by omega, by omega, HP.out, HG.out, HC.out⟩
              case measure => simp [lenV] <;> omega
            · go_wp2
              go_ret
              exact ⟨G, m, cap2, rfl, hm2, DM.le KM2.out (by omega), KG2.out, hc2⟩
        have e2' : (x == 2) = false := by simpa using e2
        by_cases e3 : x = 3
        case pos =>
          subst e3
          have HM7 : Hid (DM 5 (w5.alloc (.cells #[] 31)) w.heap.size (w5.alloc (.cells #[] 31)).heap.size w5.heap.size 0 0) := ⟨fun _ => none, fun _ => 0, fun _ => 0, fun _ _ => 0, matBase (litM w5 _ _ _ _) KG5.out.size, fun i hi => absurd hi (Nat.not_lt_zero _)⟩
          have HG7 : Hid (w.grownBy (w5.alloc (.cells #[] 31)) (some g)) := grownBy_trans KG5.out (World.grownBy_alloc _ _ _)
          have HC7 : Hid (Cur (w5.alloc (.cells #[] 31)) g a n cap) := hc5.alloc _
          clear KM5 KG5 hc5
          go_wp2
          go_ret
          exact ⟨_, 0, 0, rfl, by omega, DM.le HM7.out (by omega), HG7.out, HC7.out⟩
        have e3' : (x == 3) = false := by simpa using e3
        go_wp2
        go_ret
        exact ⟨G, k, cap2, rfl, by omega, DM.le KM5.out (by omega), KG5.out, hc5⟩
      case true =>
        obtain ⟨A, L, C, Z, hMM, hLL⟩ := KM2.out
        have hL0 := hLL 0 (by omega)
        obtain ⟨g0, hA0, hg0B, hg0l, hnews⟩ := drawRow hMM (i := 0) (by omega) hL0.1
        have hba : Below w2.heap.size w2 (w2.alloc (.cells #[] 3)) := (Below.refl _ _).alloc (Nat.le_refl _) _
        have hd0 := (hMM.below hba).hdr (i := 0) (by omega)
        rw [hA0] at hd0
        have KW : Hid _ := news_below hnews hba
        have hlen2 : ((zI (Z 0) (L 0)).map (Value.int .i64)).length = L 0 * 1 := by simp [zI_len]
        have KONE : Hid _ := one_ints (zI (Z 0) (L 0))
        obtain ⟨xs, hxs⟩ : ∃ xs, zI (Z 0) (L 0) = xs := ⟨_, rfl⟩
        rw [hxs] at KW hlen2 KONE
        have KMM : Hid (MatI w2 w.heap.size w2.heap.size (some ⟨G, 0, none⟩) k cap2 A L C Z) := hMM
        have KLL : Hid (∀ i, i < k → 1 ≤ L i ∧ L i ≤ 5) := hLL
        obtain ⟨l0, hl0⟩ : ∃ l0, L 0 = l0 := ⟨_, rfl⟩
        obtain ⟨c0, hc0⟩ : ∃ c0, C 0 = c0 := ⟨_, rfl⟩
        rw [hl0] at hL0 hlen2 hd0
        rw [hc0] at hd0
        have KR : Hid ((w2.alloc (.cells #[] 3)).ownsRow w2.heap.size 3 1 (.slice (some ⟨w2.heap.size, 0, none⟩) 0 0) 0 (([] : List Int).map (Value.int .i64))) := World.ownsRow_lit w2 #[] 0 (Nat.le_refl _) (by unfold maxLen; omega) rfl
        have hs2 : w.heap.size ≤ w2.heap.size := KG2.out.size
        clear hMM hLL hnews hxs hba hA0 hl0 hc0
        obtain ⟨kk, hkk⟩ : ∃ kk : Nat, (k : Int) - 1 = (kk : Int) := ⟨k - 1, by omega⟩
        have hkl : kk < k := by omega
        have hki2 : (kk : Int) < (k : Int) := by omega
        go_wp2_with (at_builtin; refine wpList_append_lies _ (by rfl) _ _ 31 (by rfl) w2.heap.size 3 i0 (.int .i64 0) 1 8 Try.underlying31 hi hz0 hz1 hz2 rfl (by decide) (.slice (some ⟨w2.heap.size, 0, none⟩) 0 0) 0 _ (by rfl) KR.out ⟨g0, 0, none⟩ l0 c0 (xs.map (Value.int .i64)) (by rfl) hlen2 KW.out KONE.out (by omega) (by unfold maxLen; omega) (by omega) (by simp) (w2.heap.size + 1) (by simp) ?_; intro g3 cap3 w3 hown3 hgrow3 hat3 hltg3; have hgrow3' : (w2.alloc (.cells #[] 3)).grownBy w3 (some w2.heap.size) := hgrow3; have KM3 : Hid (DM 5 w3 w.heap.size w2.heap.size G k cap2) := (let ⟨A, L, C, Z, hM, hL⟩ := KM2.out; ⟨A, L, C, Z, (hM.below ((Below.refl _ _).alloc (Nat.le_refl _) _)).keptE hgrow3' (Nat.le_refl _), hL⟩); obtain ⟨⟨old, hold⟩, hfr⟩ := DM.hdr KM3.out hkl)
        have hown3' : w3.ownsRow w.heap.size 3 1 (.slice (some ⟨g3, 0, none⟩) l0 cap3) l0 (xs.map (Value.int .i64)) := by rw [Nat.zero_add] at hown3; exact own_base hown3 hs2
        have hg3 := (hown3.lt g3 rfl).1
        have h7 : DM 5 (w3.setCell ⟨G, kk, none⟩ (.slice (some ⟨g3, 0, none⟩) l0 cap3)) w.heap.size (w3.setCell ⟨G, kk, none⟩ (.slice (some ⟨g3, 0, none⟩) l0 cap3)).heap.size G k cap2 ∧ w3.grownBy (w3.setCell ⟨G, kk, none⟩ (.slice (some ⟨g3, 0, none⟩) l0 cap3)) (some G) := DM.setRow KM3.out hkl hown3' hL0 (Nat.le_of_lt (Nat.lt_of_le_of_lt hg3 hltg3)) hg3
        have KG : Hid (w.grownBy (w3.setCell ⟨G, kk, none⟩ (.slice (some ⟨g3, 0, none⟩) l0 cap3)) (some g)) := grown_new (grown_new (grownBy_trans KG2.out (World.grownBy_alloc w2 _ _)) hgrow3' hs2) h7.2 hGB
        have KM : Hid (DM 5 (w3.setCell ⟨G, kk, none⟩ (.slice (some ⟨g3, 0, none⟩) l0 cap3)) w.heap.size (w3.setCell ⟨G, kk, none⟩ (.slice (some ⟨g3, 0, none⟩) l0 cap3)).heap.size G k cap2) := h7.1
        have hcr : Cur (w3.setCell ⟨G, kk, none⟩ (.slice (some ⟨g3, 0, none⟩) l0 cap3)) g a n cap := ((hc2.alloc _).far hgrow3' (Nat.lt_of_lt_of_le hgl hs2) hab).far h7.2 (by omega) hab
        clear h7 KG2 KM2 KM3 hown3 hown3' hgrow3 hgrow3' hat3 hltg3 hold hfr KR KW KONE KMM KLL hc2 hd0 h1i hkk hki2
        generalize w3.setCell ⟨G, kk, none⟩ (.slice (some ⟨g3, 0, none⟩) l0 cap3) = W at *
        refine (belowN_any g n cap a _ _ hcr).mono ?_
        rintro e w5 ⟨x, x0, x1, _, rfl, hg5, hc5⟩
        have KG5 : Hid (w.grownBy w5 (some g)) := grownBy_trans KG.out hg5
        have KM5 : Hid (DM 5 w5 w.heap.size w5.heap.size G k cap2) := (DM.cur KM.out hg5 hgl).tight
        have x2 := x1 (by omega)
        clear KG KM hcr x1 hg5
        by_cases e0 : x = 0
        case pos =>
          subst e0
          obtain ⟨A, L, C, Z, hMM, hLL⟩ := KM5.out
          have hL0 := hLL 0 (by omega)
          obtain ⟨g0, hA0, hg0B, hg0l, _⟩ := drawRow hMM (i := 0) (by omega) hL0.1
          have hd0 := hMM.hdr (i := 0) (by omega)
          have he0 := hMM.elt (i := 0) (j := 0) (by omega) hA0 (by omega)
          have hf0 := hMM.free (i := 0) (by omega) hA0 0
          rw [hA0] at hd0
          have hGl := hMM.olt.2
          have KMM : Hid (MatI w5 w.heap.size w5.heap.size (some ⟨G, 0, none⟩) k cap2 A L C Z) := hMM
          have KLL : Hid (∀ i, i < k → 1 ≤ L i ∧ L i ≤ 5) := hLL
          have KA0 : Hid (A 0 = some ⟨g0, 0, none⟩) := hA0
          have hl0i : (0 : Int) < (L 0 : Int) := by omega
          generalize Z 0 0 = z00 at he0
          clear hMM hLL hA0
          have hc5' := hc5.lt
          go_wp2_with fail
          go_region_with ((go_at_call 116; refine (pick_any g n cap a w5.heap.size 0 2 2 _ (Cur.alloc (show Cur w5.drew g a n cap from hc5) _) (by omega) (by omega) (by omega) (lit_cells (cs := [-1, 256]))).mono ?_; rintro e w6 ⟨z, rfl, hg6, hc6⟩; have hal : Below w5.heap.size w5 (w5.drew.alloc (.cells #[.int .i64 (-1), .int .i64 256] 3)) := (((Below.refl _ _).drew).alloc (Nat.le_refl _) _); have hd6 := hg6.cell ((hal.cell (p := ⟨G, 0, none⟩) hGl).trans hd0) (by simp; omega); have he6 := hg6.cell ((hal.cell (p := ⟨g0, 0, none⟩) hg0l).trans he0) (by simp; omega); have KM6 : Hid (MatI w6 w.heap.size w6.heap.size (some ⟨G, 0, none⟩) k cap2 A L C Z) := ((KMM.out.below hal).cur hg6 hgl).tight; have hf6 := KM6.out.free (i := 0) (by omega) KA0.out 0; have KG6 : Hid (w.grownBy w6 (some g)) := grownBy_trans (grownBy_trans KG5.out ⟨hal.os, hal.tape, hal.output, hal.size, fun j hj _ => hal.block j hj⟩) hg6))
          all_goals
            have h7 := DM.setElt (i := 0) (j := 0) KM6.out KLL.out (by omega) KA0.out (by have := (KLL.out 0 (by omega)).1; omega) z
            have HM7 : Hid _ := h7.1
            have HG7 : Hid _ := grown_new KG6.out h7.2 hg0B
            have HC7 : Hid _ := hc6.far h7.2 (by omega) hab
            clear h7 hc6 hg6
            go_wp2
            go_ret
            exact ⟨G, k, cap2, rfl, by omega, DM.le HM7.out (by omega), HG7.out, HC7.out⟩
        have e0' : (x == 0) = false := by simpa using e0
        by_cases e1 : x = 1
        case pos =>
          subst e1
          obtain ⟨A, L, C, Z, hMM, hLL⟩ := KM5.out
          have hL0 := hLL 0 (by omega)
          obtain ⟨g0, hA0, hg0B, hg0l, _⟩ := drawRow hMM (i := 0) (by omega) hL0.1
          have hba : Below w5.heap.size w5 (w5.alloc (.cells #[.int .i64 1] 3)) := (Below.refl _ _).alloc (Nat.le_refl _) _
          have hMa := hMM.below hba
          have hd0 := hMM.hdr (i := 0) (by omega)
          have hrow := hMa.row 0 (by omega)
          rw [hA0] at hd0 hrow
          have KMa : Hid (MatI (w5.alloc (.cells #[.int .i64 1] 3)) w.heap.size w5.heap.size (some ⟨G, 0, none⟩) k cap2 A L C Z) := hMa
          have KLL : Hid (∀ i, i < k → 1 ≤ L i ∧ L i ≤ 5) := hLL
          have KA0 : Hid (A 0 = some ⟨g0, 0, none⟩) := hA0
          obtain ⟨l0, hl0⟩ : ∃ l0, L 0 = l0 := ⟨_, rfl⟩
          obtain ⟨c0, hc0⟩ : ∃ c0, C 0 = c0 := ⟨_, rfl⟩
          rw [hl0] at hL0 hd0 hrow
          rw [hc0] at hd0 hrow
          obtain ⟨xs, hxs⟩ : ∃ xs, zI (Z 0) l0 = xs := ⟨_, rfl⟩
          rw [hxs] at hrow
          have hs5 := KG5.out.size
          clear hMM hMa hLL hA0 hl0 hc0 hba hxs
          go_wp2_with (at_builtin; refine wpList_append_lies _ (by rfl) _ _ 31 (by rfl) w.heap.size 3 i0 (.int .i64 0) 1 8 Try.underlying31 hi hz0 hz1 hz2 rfl (by decide) (.slice (some ⟨g0, 0, none⟩) l0 c0) l0 _ (by rfl) hrow ⟨w5.heap.size, 0, none⟩ 1 1 [.int .i64 1] (by rfl) (by rfl) (World.news_of_block (cs := #[.int .i64 1]) (t := 3) (fr := (0, 0)) (heap_alloc_new w5 _)) (by simp [Value.oneCell']) (by omega) (by unfold maxLen; omega) (by omega) (by simp; omega) (w5.heap.size + 1) (by simp) ?_; intro g3 cap3 w3 hown3 hgrow3 hat3 hltg3; have hgrow3' : (w5.alloc (.cells #[.int .i64 1] 3)).grownBy w3 (some g0) := hgrow3; have hsz3 := hgrow3.size; have h7 := DM.grew (xs := xs ++ [1]) KMa.out KLL.out (by omega) KA0.out hgrow3' (by rw [List.map_append]; exact hown3) ⟨by omega, by omega⟩ (by rcases hat3 with e | e; cases e; exact .inl rfl; right; simp; omega) (by simp at hsz3; omega); obtain ⟨⟨old, hold⟩, hfr, HM8', HG8'⟩ := h7; have HM8 : Hid _ := HM8'; have HG8 : Hid _ := HG8'; clear HM8' HG8' hown3 hgrow3)
          have HG7 : Hid _ := grown_new (grown_new (grownBy_trans KG5.out (World.grownBy_alloc w5 _ _)) hgrow3' hg0B) HG8.out hGB
          have HC7 : Hid _ := ((hc5.alloc _).far hgrow3' (by omega) hab).far HG8.out (by omega) hab
          clear hgrow3' HG8 hc5 KMa KM5 KG5
          go_ret
          exact ⟨G, k, cap2, rfl, by omega, HM8.out, HG7.out, HC7.out⟩
        have e1' : (x == 1) = false := by simpa using e1
        by_cases e2 : x = 2
        case pos =>
          subst e2
          go_wp2
          go_loopw [7] (fun v wr => ∃ m G cap2, v = .slice (some ⟨G, 0, none⟩) m cap2 ∧ 1 ≤ m ∧ m ≤ 17 ∧ DM 5 wr w.heap.size wr.heap.size G m cap2 ∧ w.grownBy wr (some g) ∧ Cur wr g a n cap) (fun v _ => 17 - lenV v)
          case atStart => exact ⟨k, G, cap2, rfl, by omega, by omega, KM5.out, KG5.out, hc5⟩
          case round =>
            obtain ⟨m, G, cap2, rfl, hm1, hm2, hM, hgr, hcr⟩ := hrel
            have KM : Hid (DM 5 wr w.heap.size wr.heap.size G m cap2) := hM
            have KG : Hid (w.grownBy wr (some g)) := hgr
            clear hM hgr KM5 KG5 hc5
            go_wp2_with fail
            refine (belowN_any g n cap a _ _ hcr).mono ?_
            rintro e w2 ⟨y, y0, y1, _, rfl, hg2, hc2⟩
            have y2 := y1 (by omega)
            have KG2 : Hid (w.grownBy w2 (some g)) := grownBy_trans KG.out hg2
            have KM2 : Hid (DM 5 w2 w.heap.size w2.heap.size G m cap2) := (DM.cur KM.out hg2 hgl).tight
            clear KG KM hcr hg2 y1
            by_cases hmy : (m : Int) < 16 + y
            · obtain ⟨A, L, C, Z, hMM, hLL⟩ := KM2.out
              have hL0 := hLL 0 (by omega)
              obtain ⟨g0, hA0, hg0B, hg0l, hnews⟩ := drawRow hMM (i := 0) (by omega) hL0.1
              have hba : Below w2.heap.size w2 (w2.alloc (.cells #[] 3)) := (Below.refl _ _).alloc (Nat.le_refl _) _
              have hd0 := (hMM.below hba).hdr (i := 0) (by omega)
              rw [hA0] at hd0
              have KW : Hid _ := news_below hnews hba
              have hlen2 : ((zI (Z 0) (L 0)).map (Value.int .i64)).length = L 0 * 1 := by simp [zI_len]
              have KONE : Hid _ := one_ints (zI (Z 0) (L 0))
              obtain ⟨xs, hxs⟩ : ∃ xs, zI (Z 0) (L 0) = xs := ⟨_, rfl⟩
              rw [hxs] at KW hlen2 KONE
              have KMM : Hid (MatI w2 w.heap.size w2.heap.size (some ⟨G, 0, none⟩) m cap2 A L C Z) := hMM
              have KLL : Hid (∀ i, i < m → 1 ≤ L i ∧ L i ≤ 5) := hLL
              obtain ⟨l0, hl0⟩ : ∃ l0, L 0 = l0 := ⟨_, rfl⟩
              obtain ⟨c0, hc0⟩ : ∃ c0, C 0 = c0 := ⟨_, rfl⟩
              rw [hl0] at hL0 hlen2 hd0
              rw [hc0] at hd0
              have KR : Hid ((w2.alloc (.cells #[] 3)).ownsRow w2.heap.size 3 1 (.slice (some ⟨w2.heap.size, 0, none⟩) 0 0) 0 (([] : List Int).map (Value.int .i64))) := World.ownsRow_lit w2 #[] 0 (Nat.le_refl _) (by unfold maxLen; omega) rfl
              have hs2 : w.heap.size ≤ w2.heap.size := KG2.out.size
              clear hMM hLL hnews hxs hba hA0 hl0 hc0
              have hGB2 := KMM.out.olt.1
              go_wp2_with (first | (guard_hyp KR; at_builtin; refine wpList_append_lies _ (by rfl) _ _ 31 (by rfl) w2.heap.size 3 i0 (.int .i64 0) 1 8 Try.underlying31 hi hz0 hz1 hz2 rfl (by decide) (.slice (some ⟨w2.heap.size, 0, none⟩) 0 0) 0 _ (by rfl) KR.out ⟨g0, 0, none⟩ l0 c0 (xs.map (Value.int .i64)) (by rfl) hlen2 KW.out KONE.out (by omega) (by unfold maxLen; omega) (by omega) (by simp) (w2.heap.size + 1) (by simp) ?_; intro g3 cap3 w3 hown3 hgrow3 hat3 hltg3; have hgrow3' : (w2.alloc (.cells #[] 3)).grownBy w3 (some w2.heap.size) := hgrow3; have hM3 : MatI w3 w.heap.size w2.heap.size (some ⟨G, 0, none⟩) m cap2 A L C Z := (KMM.out.below ((Below.refl _ _).alloc (Nat.le_refl _) _)).keptE hgrow3' (Nat.le_refl _); have hs3 : w2.heap.size ≤ w3.heap.size := (by have := hgrow3.size; simp at this; omega); clear KR KW hgrow3 hat3 hltg3 KMM) | (guard_hyp hM3; at_builtin; refine wpList_append_lies _ (by rfl) _ _ 24 (by rfl) w.heap.size 31 i1 (.slice none 0 0) 1 24 Try.underlying24 hj hy0 hy1 hy2 rfl (by decide) (.slice (some ⟨G, 0, none⟩) m cap2) m _ (by rfl) (World.ownsRow.alloc hM3.out _) ⟨w3.heap.size, 0, none⟩ 1 1 [.slice (some ⟨g3, 0, none⟩) l0 cap3] (by rfl) (by rfl) (World.news_of_block (cs := #[.slice (some ⟨g3, 0, none⟩) l0 cap3]) (t := 31) (fr := (0, 0)) (heap_alloc_new w3 _)) (by simp [Value.oneCell']) (by omega) (by unfold maxLen; omega) (by omega) (by simp; omega) (w3.heap.size + 1) (by simp) ?_; intro g4 cap4 w4 hown4 hgrow4 hat4 hltg4))
              have hgrow4' : (w3.alloc (.cells #[.slice (some ⟨g3, 0, none⟩) l0 cap3] 31)).grownBy w4 (some G) := hgrow4
              have HP : Hid (DM 5 w4 w.heap.size w4.heap.size g4 (m + 1) cap4) := DM.pushed _ hM3 KLL.out hL0 hs2 (by rw [Nat.zero_add] at hown3; exact hown3) hgrow4' hown4
              have HG : Hid (w.grownBy w4 (some g)) := grown_new (grownBy_trans (grown_new (grownBy_trans KG2.out (World.grownBy_alloc w2 _ _)) hgrow3' hs2) (World.grownBy_alloc w3 _ _)) hgrow4' hGB2
              have HC : Hid (Cur w4 g a n cap) := ((((hc2.alloc _).far hgrow3' (by omega) hab).alloc _).far hgrow4' (by omega) hab)
              clear hown4 hgrow4 hgrow4' hat4 hltg4 hown3 hgrow3' hM3 hc2 KG2 KM2
              go_roundw
              case rel => exact ⟨m + 1, g4, cap4, rfl, by omega, by omega, HP.out, HG.out, HC.out⟩
              case measure => simp [lenV] <;> omega
            · go_wp2
              go_ret
              exact ⟨G, m, cap2, rfl, hm2, DM.le KM2.out (by omega), KG2.out, hc2⟩
        have e2' : (x == 2) = false := by simpa using e2
        by_cases e3 : x = 3
        case pos =>
          subst e3
          have HM7 : Hid (DM 5 (w5.alloc (.cells #[] 31)) w.heap.size (w5.alloc (.cells #[] 31)).heap.size w5.heap.size 0 0) := ⟨fun _ => none, fun _ => 0, fun _ => 0, fun _ _ => 0, matBase (litM w5 _ _ _ _) KG5.out.size, fun i hi => absurd hi (Nat.not_lt_zero _)⟩
          have HG7 : Hid (w.grownBy (w5.alloc (.cells #[] 31)) (some g)) := grownBy_trans KG5.out (World.grownBy_alloc _ _ _)
          have HC7 : Hid (Cur (w5.alloc (.cells #[] 31)) g a n cap) := hc5.alloc _
          clear KM5 KG5 hc5
          go_wp2
          go_ret
          exact ⟨_, 0, 0, rfl, by omega, DM.le HM7.out (by omega), HG7.out, HC7.out⟩
        have e3' : (x == 3) = false := by simpa using e3
        go_wp2
        go_ret
        exact ⟨G, k, cap2, rfl, by omega, DM.le KM5.out (by omega), KG5.out, hc5⟩
end Go.Proofs.Ytmggogdnfgkljaa
