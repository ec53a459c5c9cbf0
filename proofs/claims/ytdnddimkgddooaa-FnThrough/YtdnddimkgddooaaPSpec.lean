/- The model's functions over polynomials: what each answers, in memory of its own; nothing that was there turns. Conditions: lists of at most 2^20 numbers; byte numbers where sums and products are made. -/
import Derived.Test.YtdnddimkgddooaaPTrim
import Derived.Test.YtdnddimkgddooaaPImplB
namespace Go.Proofs.Ytdnddimkgddooaa
open Go.ChangeShapes Go.WideShapes Go.ChangeAt Go.RowKit

/-- A row of whole numbers of ours. -/
def OwnR (w : World) (B g n cap : Nat) (f : Nat → Nat) : Prop := w.ownsRow B 3 1 (.slice (some ⟨g, 0, none⟩) n cap) n ((eI f n).map (Value.int .i64))
theorem OwnR.cap {w : World} {B g n cap : Nat} {f : Nat → Nat} (h : OwnR w B g n cap f) : n ≤ cap := by
  rcases h.2 with h' | ⟨g', cap', cur, e, _, _, hn, _⟩
  · cases h'.1
  · cases e; exact hn
theorem OwnR.cell {w : World} {B g n cap i : Nat} {f : Nat → Nat} (h : OwnR w B g n cap f) (hi : i < n) : w.cell? ⟨g, i, none⟩ = some (.int .i64 ((f i : Nat) : Int)) := by
  rw [World.ownsRow.cellAt h i (by omega)]
  simp [eI, hi]
theorem OwnR.ints {w : World} {B g n cap : Nat} {f : Nat → Nat} (h : OwnR w B g n cap f) : IntsAt w (some ⟨g, 0, none⟩) n (eI f n) := ownsRow.ints h
theorem OwnR.lt {w : World} {B g n cap : Nat} {f : Nat → Nat} (h : OwnR w B g n cap f) : B ≤ g ∧ g < w.heap.size := World.ownsRow.lt h g rfl
theorem OwnR.below {w w' : World} {B g n cap : Nat} {f : Nat → Nat} (h : OwnR w B g n cap f) (hb : Below w.heap.size w w') : OwnR w' B g n cap f := ownsRow_below h hb
theorem OwnR.other {w w' : World} {B g n cap r : Nat} {f : Nat → Nat} (h : OwnR w B g n cap f) (hg : w.grownBy w' (some r)) (hr : g ≠ r) : OwnR w' B g n cap f :=
  World.ownsRow.kept h hg (.inr (by simp [Value.ownBlock]; exact hr))
theorem OwnR.congr {w : World} {B g n cap : Nat} {f h : Nat → Nat} (ho : OwnR w B g n cap f) (e : ∀ i, i < n → f i = h i) : OwnR w B g n cap h := by
  unfold OwnR at *
  rw [← eI_congr e]
  exact ho
theorem OwnR.set {w : World} {B g n cap k v : Nat} {f : Nat → Nat} (h : OwnR w B g n cap f) (hk : k < n) :
    OwnR (w.setCell ⟨g, k, none⟩ (.int .i64 (v : Int))) B g n cap (fun i => if i = k then v else f i) ∧ w.grownBy (w.setCell ⟨g, k, none⟩ (.int .i64 (v : Int))) (some g) := by
  have hs := World.ownsRow.stored h k (.int .i64 (v : Int))
  rw [eI_set f n k v .i64 hk] at hs
  exact ⟨hs.1, ⟨rfl, rfl, rfl, by simp, fun j _ hj => heap_setCell_other w ⟨g, k, none⟩ j _ (fun e => hj (by simp [e]))⟩⟩
theorem eI_snoc (f : Nat → Nat) (k : Nat) : eI f (k + 1) = eI f k ++ [((f k : Nat) : Int)] := by
  unfold eI
  rw [List.range_succ, List.map_append]
  rfl
theorem OwnR.snoc {w : World} {B g k cap : Nat} {f : Nat → Nat} (h : w.ownsRow B 3 1 (.slice (some ⟨g, 0, none⟩) (k + 1) cap) (k + 1) ((eI f k).map (Value.int .i64) ++ [.int .i64 ((f k : Nat) : Int)])) : OwnR w B g (k + 1) cap f := by
  unfold OwnR
  rw [eI_snoc, List.map_append]
  exact h
theorem OwnR.ofI {w : World} {B g n cap : Nat} {f : Nat → Nat} (h : OwnR w B g n cap f) : OwnI w B (.slice (some ⟨g, 0, none⟩) n cap) (eI f n) := by
  unfold OwnI
  rw [eI_len]
  exact h
theorem intsE {w : World} {a : Option Addr} {n k : Nat} {f : Nat → Nat} (h : IntsAt w a n (eI f n)) (hk : k < n) : ∃ b off, a = some ⟨b, off, none⟩ ∧ w.cell? ⟨b, off + k, none⟩ = some (.int .i64 ((f k : Nat) : Int)) := by
  obtain ⟨b, off, e, hc⟩ := h.2 k hk
  rw [eI_getD f n k hk] at hc
  exact ⟨b, off, e, hc⟩

set_option maxHeartbeats 400000 in
theorem sBytes_any (a : Option Addr) (n cap : Nat) (zs : List Int) (w : World) (h : IntsAt w a n zs) (hn : n ≤ 1048576) :
    Calls Try.prog 44 #[.slice a n cap] w fun e w' => e = .returned (.bool (zs.all isB)) ∧ w' = w := by
  have HL : Hid (zs.length = n) := h.1
  go_enter Try.func44, Try.ntmps44
  go_wp2
  go_loop [3] (fun p => ∃ k : Nat, k ≤ n ∧ p = .int .i64 k ∧ Hid (∀ j : Nat, j < k → isB (zs.getD j 0) = true)) (fun p => n - (intOf p).toNat)
  case atStart => exact ⟨0, by omega, rfl, fun j hj => absurd hj (by omega)⟩
  case round =>
    obtain ⟨k, hk, rfl, HB⟩ := hrel
    by_cases hlt : k < n
    · obtain ⟨b, off, rfl, hc⟩ := h.2 k hlt
      have hltI : (k : Int) < (n : Int) := by omega
      clear h
      obtain ⟨x, HX⟩ : ∃ x, Hid (x = zs.getD k 0) := ⟨_, rfl⟩
      rw [← HX.out] at hc
      by_cases hx : isB x = true
      · go_wp2_with (go_at_call 57; refine (sIs_any _ _).mono ?_; rintro e w' ⟨rfl, rfl⟩)
        go_round
        case rel => exact ⟨k + 1, by omega, by go_num, fun j hj => by
          by_cases e : j = k
          · subst e; rw [← HX.out]; exact hx
          · exact HB.out j (by omega)⟩
        case measure => simp [intOf] <;> omega
      · have hx' : isB x = false := by simpa using hx
        have HR : Hid (zs.all isB = false) := by
          show _ = _
          rw [List.all_eq_false]
          refine ⟨x, ?_, hx⟩
          rw [HX.out]
          have := HL.out
          have hl : k < zs.length := by omega
          simp [List.getD, hl]
        go_wp2_with (go_at_call 57; refine (sIs_any _ _).mono ?_; rintro e w' ⟨rfl, rfl⟩)
        go_ret
        exact ⟨ret_bool HR.out.symm, rfl⟩
    · have HR : Hid (zs.all isB = true) := by
        show _ = _
        rw [List.all_eq_true]
        intro x hx
        obtain ⟨i, hi, rfl⟩ := List.mem_iff_getElem.1 hx
        have := HL.out
        have h2 := HB.out i (by omega)
        simpa [List.getD, hi] using h2
      clear h
      go_wp2
      go_ret
      exact ⟨ret_bool HR.out.symm, rfl⟩

set_option maxHeartbeats 400000 in
theorem sOk_any (a : Option Addr) (n cap : Nat) (zs : List Int) (w : World) (h : IntsAt w a n zs) (hn : n ≤ 1048576) :
    Calls Try.prog 20 #[.slice a n cap] w fun e w' => e = .returned (.bool (okB zs)) ∧ w' = w := by
  have hB := sBytes_any a n cap zs w h hn
  have hl := h.1
  have HO : Hid (okB zs = (decide (n ≤ 40) && (decide (n = 0) || decide (zs.getD (n - 1) 0 ≠ 0)) && zs.all isB)) := by show _ = _; unfold okB; rw [hl]
  by_cases h1 : n ≤ 40
  · have h1' : (n : Int) ≤ 40 := by omega
    by_cases h2 : zs.all isB = true
    · by_cases h0 : n = 0
      · subst h0
        have HR : Hid (okB zs = true) := by show _ = _; rw [HO.out, h2]; rfl
        rw [h2] at hB
        clear h hl HO h2
        go_enter Try.func20, Try.ntmps20
        go_wp2_with fail
        refine hB.mono ?_
        rintro e w1 ⟨rfl, hw⟩
        obtain rfl := hw.symm
        go_wp2
        go_ret
        exact ⟨ret_bool HR.out.symm, rfl⟩
      · have h0' : ((n : Int) == 0) = false := by simp; omega
        obtain ⟨b, off, rfl, hc⟩ := h.some (by omega)
        have hc1 := hc (n - 1) (by omega)
        obtain ⟨k, rfl⟩ : ∃ k, n = k + 1 := ⟨n - 1, by omega⟩
        rw [show k + 1 - 1 = k by omega] at hc1 HO
        by_cases hz : zs.getD k 0 = 0
        · have HR : Hid (okB zs = false) := by show _ = _; rw [HO.out, h2, hz]; simp
          rw [h2] at hB
          rw [hz] at hc1
          clear h hl HO h2 hc h0
          go_enter Try.func20, Try.ntmps20
          go_wp2_with fail
          refine hB.mono ?_
          rintro e w1 ⟨rfl, hw⟩
          obtain rfl := hw.symm
          go_wp2
          go_ret
          exact ⟨ret_bool HR.out.symm, rfl⟩
        · have HR : Hid (okB zs = true) := by show _ = _; rw [HO.out, h2, decide_eq_true h1, decide_eq_true hz]; simp
          have hz' : (zs.getD k 0 != 0) = true := by simpa using hz
          rw [h2] at hB
          clear h hl HO h2 hc h0 hz
          generalize zs.getD k 0 = x at hc1 hz'
          go_enter Try.func20, Try.ntmps20
          go_wp2_with fail
          refine hB.mono ?_
          rintro e w1 ⟨rfl, hw⟩
          obtain rfl := hw.symm
          go_wp2
          go_ret
          exact ⟨ret_bool HR.out.symm, rfl⟩
    · have h2' : zs.all isB = false := by simpa using h2
      have HR : Hid (okB zs = false) := by show _ = _; rw [HO.out, h2', Bool.and_false]
      rw [h2'] at hB
      clear h hl HO h2 h2'
      go_enter Try.func20, Try.ntmps20
      go_wp2_with fail
      refine hB.mono ?_
      rintro e w1 ⟨rfl, hw⟩
      obtain rfl := hw.symm
      go_wp2
      go_ret
      exact ⟨ret_bool HR.out.symm, rfl⟩
  · have h1' : ¬ (n : Int) ≤ 40 := by omega
    have HR : Hid (okB zs = false) := by show _ = _; rw [HO.out, decide_eq_false h1]; rfl
    clear h hl HO hB
    go_enter Try.func20, Try.ntmps20
    go_wp2
    go_ret
    exact ⟨ret_bool HR.out.symm, rfl⟩

theorem lit0 (w : World) (f : Nat → Nat) : OwnR (w.alloc (.cells #[] 3)) w.heap.size w.heap.size 0 0 f :=
  World.ownsRow_lit w #[] 0 (Nat.le_refl _) (by unfold maxLen; omega) rfl

set_option maxHeartbeats 1000000 in
theorem sSum_any (a b : Option Addr) (n m ca cb : Nat) (f g : Nat → Nat) (w : World) (ha : IntsAt w a n (eI f n)) (hb : IntsAt w b m (eI g m)) (hf : Gp.Pol f n) (hg : Gp.Pol g m) (hn : n ≤ 1000) (hm : m ≤ 1000) :
    Calls Try.prog 55 #[.slice a n ca, .slice b m cb] w fun e w' => ∃ v, e = .returned v ∧ OwnI w' w.heap.size v (eI (Gp.ad f g) (Gp.tl (Gp.ad f g) (max n m))) ∧ Below w.heap.size w w' := by
  obtain ⟨i0, hi, hz0, hz1, hz2⟩ := info_parts Try.infoInt
  have H0 : Hid _ := lit0 w (Gp.ad f g)
  obtain ⟨N, hN⟩ : ∃ N, max n m = N := ⟨_, rfl⟩
  rw [hN]
  have hN1 : n ≤ N := by omega
  have hN2 : m ≤ N := by omega
  have hN3 : N = n ∨ N = m := by omega
  clear hN
  go_enter Try.func55, Try.ntmps55
  go_wp2
  go_loopw [5, 6] (fun v i wr => ∃ k gg cap2 : Nat, k ≤ N ∧ i = .int .i64 k ∧ v = .slice (some ⟨gg, 0, none⟩) k cap2 ∧ OwnR wr w.heap.size gg k cap2 (Gp.ad f g) ∧ Below w.heap.size w wr) (fun _ i _ => N - (intOf i).toNat)
  case atStart => exact ⟨0, _, _, Nat.zero_le _, rfl, rfl, H0.out, (Below.refl _ _).alloc (Nat.le_refl _) _⟩
  case round =>
    obtain ⟨k, gg, cap2, hk, rfl, rfl, hown, hbel⟩ := hrel
    clear H0
    have ha' := ha.below hbel
    have hb' := hb.below hbel
    have hgg := hown.lt.1
    have hsz := hbel.size
    have hfk := hf.1 k
    have hgk := hg.1 k
    clear ha hb
    by_cases h1 : k < n
    · obtain ⟨b1, off1, rfl, hc1⟩ := intsE ha' h1
      have h1I : (k : Int) < (n : Int) := by omega
      by_cases h2 : k < m
      · obtain ⟨b2, off2, rfl, hc2⟩ := intsE hb' h2
        have h2I : (k : Int) < (m : Int) := by omega
        have hx := xor_i64 (f k) (g k) (by omega) (by omega)
        have HX : Hid (Gp.ad f g k = f k ^^^ g k) := rfl
        clear ha' hb' hf hg
        go_wp2_with (at_builtin; refine wpList_append_lies _ (by rfl) _ _ 24 (by rfl) w.heap.size 3 i0 (.int .i64 0) 1 8 Try.underlying24 hi hz0 hz1 hz2 rfl (by decide) (.slice (some ⟨gg, 0, none⟩) k cap2) k _ (by rfl) (World.ownsRow.alloc hown _) ⟨wr.heap.size, 0, none⟩ 1 1 [.int .i64 ((f k ^^^ g k : Nat) : Int)] (by rfl) (by rfl) (World.news_of_block (cs := #[.int .i64 ((f k ^^^ g k : Nat) : Int)]) (t := 3) (fr := (0, 0)) (heap_alloc_new wr _)) (by simp [Value.oneCell']) (by omega) (by unfold maxLen; omega) (by omega) (by simp; omega) (wr.heap.size + 1) (by simp) ?_; intro g2 cap3 w2 hown2 hgrow hat hltg)
        have HO : Hid (OwnR w2 w.heap.size g2 (k + 1) cap3 (Gp.ad f g)) := OwnR.snoc (by rw [HX.out]; exact hown2)
        have hb' : Below w.heap.size w w2 := (hbel.alloc hsz _).grown (show World.grownBy _ w2 (some gg) from hgrow) (by simp; omega) (fun j hj => by cases hj; exact hgg)
        clear hown2 hgrow hat hltg hown
        go_roundw
        case rel => exact ⟨k + 1, g2, cap3, by omega, by go_num, rfl, HO.out, hb'⟩
        case measure => simp [intOf] <;> omega
      · have h2I : ¬ (k : Int) < (m : Int) := by omega
        have HX : Hid (Gp.ad f g k = f k) := by show f k ^^^ g k = f k; rw [hg.2 k (by omega), Nat.xor_zero]
        clear ha' hb' hf hg
        go_wp2_with (at_builtin; refine wpList_append_lies _ (by rfl) _ _ 24 (by rfl) w.heap.size 3 i0 (.int .i64 0) 1 8 Try.underlying24 hi hz0 hz1 hz2 rfl (by decide) (.slice (some ⟨gg, 0, none⟩) k cap2) k _ (by rfl) (World.ownsRow.alloc hown _) ⟨wr.heap.size, 0, none⟩ 1 1 [.int .i64 ((f k : Nat) : Int)] (by rfl) (by rfl) (World.news_of_block (cs := #[.int .i64 ((f k : Nat) : Int)]) (t := 3) (fr := (0, 0)) (heap_alloc_new wr _)) (by simp [Value.oneCell']) (by omega) (by unfold maxLen; omega) (by omega) (by simp; omega) (wr.heap.size + 1) (by simp) ?_; intro g2 cap3 w2 hown2 hgrow hat hltg)
        have HO : Hid (OwnR w2 w.heap.size g2 (k + 1) cap3 (Gp.ad f g)) := OwnR.snoc (by rw [HX.out]; exact hown2)
        have hb' : Below w.heap.size w w2 := (hbel.alloc hsz _).grown (show World.grownBy _ w2 (some gg) from hgrow) (by simp; omega) (fun j hj => by cases hj; exact hgg)
        clear hown2 hgrow hat hltg hown
        go_roundw
        case rel => exact ⟨k + 1, g2, cap3, by omega, by go_num, rfl, HO.out, hb'⟩
        case measure => simp [intOf] <;> omega
    · have h1I : ¬ (k : Int) < (n : Int) := by omega
      by_cases h2 : k < m
      · obtain ⟨b2, off2, rfl, hc2⟩ := intsE hb' h2
        have h2I : (k : Int) < (m : Int) := by omega
        have hx : bits .xor .i64 0 ((g k : Nat) : Int) = ((g k : Nat) : Int) := by
          have h := xor_i64 0 (g k) (by omega) (by omega)
          rw [Nat.zero_xor] at h
          exact h
        have HX : Hid (Gp.ad f g k = g k) := by show f k ^^^ g k = g k; rw [hf.2 k (by omega), Nat.zero_xor]
        clear ha' hb' hf hg
        go_wp2_with (at_builtin; refine wpList_append_lies _ (by rfl) _ _ 24 (by rfl) w.heap.size 3 i0 (.int .i64 0) 1 8 Try.underlying24 hi hz0 hz1 hz2 rfl (by decide) (.slice (some ⟨gg, 0, none⟩) k cap2) k _ (by rfl) (World.ownsRow.alloc hown _) ⟨wr.heap.size, 0, none⟩ 1 1 [.int .i64 ((g k : Nat) : Int)] (by rfl) (by rfl) (World.news_of_block (cs := #[.int .i64 ((g k : Nat) : Int)]) (t := 3) (fr := (0, 0)) (heap_alloc_new wr _)) (by simp [Value.oneCell']) (by omega) (by unfold maxLen; omega) (by omega) (by simp; omega) (wr.heap.size + 1) (by simp) ?_; intro g2 cap3 w2 hown2 hgrow hat hltg)
        have HO : Hid (OwnR w2 w.heap.size g2 (k + 1) cap3 (Gp.ad f g)) := OwnR.snoc (by rw [HX.out]; exact hown2)
        have hb' : Below w.heap.size w w2 := (hbel.alloc hsz _).grown (show World.grownBy _ w2 (some gg) from hgrow) (by simp; omega) (fun j hj => by cases hj; exact hgg)
        clear hown2 hgrow hat hltg hown
        go_roundw
        case rel => exact ⟨k + 1, g2, cap3, by omega, by go_num, rfl, HO.out, hb'⟩
        case measure => simp [intOf] <;> omega
      · have h2I : ¬ (k : Int) < (m : Int) := by omega
        obtain rfl : k = N := by omega
        have hT := sTrim_any gg k cap2 (eI (Gp.ad f g) k) wr hown.ints hown.cap (by omega)
        rw [trimI_eI] at hT
        have HT : Hid _ := hT
        clear hT ha' hb' hf hg hown hN1 hN2 hN3
        go_wp2_with fail
        refine Calls.mono HT.out ?_
        rintro e w3 ⟨v, rfl, o3, b3⟩
        have HO : Hid _ := And.intro (OwnI.mono o3 hsz) (below2 hbel b3)
        clear o3 b3 HT
        go_wp2
        go_ret
        exact ⟨v, rfl, HO.out⟩
end Go.Proofs.Ytdnddimkgddooaa
