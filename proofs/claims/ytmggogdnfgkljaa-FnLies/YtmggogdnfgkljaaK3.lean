/- The model's functions over matrices: whether it is one, the unit, a spread. Conditions: at most 2^20 rows, at most 2^20 numbers a row. -/
import Derived.Test.YtmggogdnfgkljaaK2
namespace Go.Proofs.Ytmggogdnfgkljaa
open Go.ChangeShapes Go.WideShapes Go.ChangeAt Go.RowKit

theorem all_zI (z : Nat → Int) (n : Nat) : (zI z n).all isB = true ↔ ∀ j, j < n → isB (z j) = true := by
  simp [zI, List.all_eq_true]
theorem MatI.pushed {wr w2 : World} {B b0 G k cap g2 cap3 gr W capr : Nat} {A : Nat → Option Addr} {C : Nat → Nat} {F : Nat → Nat → Nat} (o : Obj) (hM : MatI wr B b0 (some ⟨G, 0, none⟩) k cap A (fun _ => W) C (fun i j => ((F i j : Nat) : Int)))
    (hb : B ≤ b0) (hr : OwnR wr b0 gr W capr (F k)) (hgrow : (wr.alloc o).grownBy w2 (some G))
    (hout : w2.ownsRow B 31 1 (.slice (some ⟨g2, 0, none⟩) (k + 1) cap3) (k + 1) (hds A (fun _ => W) C k ++ [.slice (some ⟨gr, 0, none⟩) W capr])) :
    ∃ A' C', MatI w2 B w2.heap.size (some ⟨g2, 0, none⟩) (k + 1) cap3 A' (fun _ => W) C' (fun i j => ((F i j : Nat) : Int)) := by
  have hbo : Below wr.heap.size wr (wr.alloc o) := (Below.refl _ _).alloc (Nat.le_refl _) _
  have hM1 := hM.below hbo
  have hr1 : (wr.alloc o).ownsRow B 3 1 (.slice (some ⟨gr, 0, none⟩) W capr) W ((zI (fun j => ((F k j : Nat) : Int)) W).map (Value.int .i64)) := own_base (ownsRow_below hr hbo) hb
  have hgr := hr.lt.1
  refine ⟨_, _, (MatZ.push tiNe hM1 hgrow hout (Nat.le_refl _) ?_ hr1 (fun j hj y u ey eu => ?_)).congr (fun i _ => ⟨rfl, by split <;> rfl, rfl, fun j _ => by by_cases e : i = k; subst e; simp; simp [e]⟩)⟩
  · by_cases h0 : G < b0
    · exact Nat.le_trans (Nat.le_of_lt (Nat.lt_of_le_of_lt hgr hr.lt.2)) (Nat.le_trans hbo.size hgrow.size)
    · exact Nat.le_trans (Nat.le_of_lt (Nat.lt_of_le_of_lt hgr hr.lt.2)) (Nat.le_trans hbo.size hgrow.size)
  · cases eu
    have := hM.rE j hj y ey
    exact Nat.ne_of_lt (Nat.lt_of_lt_of_le this hgr)
theorem MatI.rowed {wr w2 : World} {B b0 gr : Nat} {a : Option Addr} {k cap W : Nat} {A : Nat → Option Addr} {C : Nat → Nat} {F : Nat → Nat → Nat} (o : Obj) (hM : MatI wr B b0 a k cap A (fun _ => W) C (fun i j => ((F i j : Nat) : Int))) (hgr : b0 ≤ gr) (hgrow : (wr.alloc o).grownBy w2 (some gr)) :
    MatI w2 B b0 a k cap A (fun _ => W) C (fun i j => ((F i j : Nat) : Int)) := (hM.below ((Below.refl _ _).alloc (Nat.le_refl _) o)).keptE hgrow hgr
theorem litM (w : World) (A : Nat → Option Addr) (L C : Nat → Nat) (Z : Nat → Nat → Int) : MatI (w.alloc (.cells #[] 31)) w.heap.size (w.alloc (.cells #[] 31)).heap.size (some ⟨w.heap.size, 0, none⟩) 0 0 A L C Z :=
  MatZ.zero _ _ _ _ _ _ _ _ _ _ (World.ownsRow_lit w #[] 0 (Nat.le_refl _) (by unfold maxLen; omega) rfl) (by simp)
theorem resLit0 (w w1 : World) (h : w.heap.size ≤ w1.heap.size) (c : Nat) (F : Nat → Nat → Nat) : ResM w (w1.alloc (.cells #[] 31)) (.slice (some ⟨w1.heap.size, 0, none⟩) 0 0) 0 c F :=
  ResM.mk (litM w1 (fun _ => none) (fun _ => c) (fun _ => 0) _) h

set_option maxHeartbeats 2000000 in
theorem sMatOk_any (a : Option Addr) (n cap : Nat) (L : Nat → Nat) (Z : Nat → Nat → Int) (w : World) (h : MatAt w a n L Z) (hL : ∀ i, i < n → L i ≤ 1048576) :
    Calls Try.prog 22 #[.slice a n cap] w fun e w' => e = .returned (.bool (okM n L Z)) ∧ Below w.heap.size w w' := by
  by_cases hn : 1 ≤ n ∧ n ≤ 16
  · have hs1 : inB (n : Int) 1 16 = true := by unfold inB; simp; omega
    have hn0' : 0 < n := by omega
    have hn0i : (0 : Int) < (n : Int) := by omega
    obtain ⟨b0, off0, ai0, ci0, e0, hc0, _⟩ := h 0 (by omega)
    subst e0
    rw [Nat.add_zero] at hc0
    by_cases hl : 1 ≤ L 0 ∧ L 0 ≤ 16
    · have hs2 : inB (L 0 : Int) 1 16 = true := by unfold inB; simp; omega
      have KO : Hid (∀ q, q ≤ n → (∀ i, i < q → L i = L 0 ∧ ∀ j, j < L 0 → isB (Z i j) = true) → q < n → ¬ (L q = L 0 ∧ ∀ j, j < L 0 → isB (Z q j) = true) → okM n L Z = false) := fun q _ _ h2 h3 => okM_no (fun hh => h3 (hh.2.2.2.2 q h2))
      have KY : Hid ((∀ i, i < n → L i = L 0 ∧ ∀ j, j < L 0 → isB (Z i j) = true) → okM n L Z = true) := fun h1 => okM_yes ⟨hn.1, hn.2, hl.1, hl.2, h1⟩
      generalize okM n L Z = okf at KO KY
      have KH : Hid (MatAt w (some ⟨b0, off0, none⟩) n L Z) := h
      obtain ⟨l, hl0⟩ : ∃ l, L 0 = l := ⟨_, rfl⟩
      rw [hl0] at hc0 hl hs2 KO KY
      have KL : Hid _ := hL
      clear h hL hl0
      go_enter Try.func22, Try.ntmps22
      go_wp2_with (go_at_call 75; refine (sIn_any _ _ _ _).mono ?_; rintro e w' ⟨rfl, hw⟩; obtain rfl := hw.symm)
      go_loopw [3] (fun p wr => ∃ k : Nat, k ≤ n ∧ p = .int .i64 (k : Int) ∧ Hid (∀ i, i < k → L i = l ∧ ∀ j, j < l → isB (Z i j) = true) ∧ Below w.heap.size w wr) (fun p _ => n - (intOf p).toNat)
      case atStart => exact ⟨0, Nat.zero_le _, rfl, fun i hi => by omega, Below.refl _ _⟩
      case round =>
        obtain ⟨k, hk, rfl, HB, hbel⟩ := hrel
        by_cases hlt : k < n
        · have hki : (k : Int) < (n : Int) := by omega
          obtain ⟨b, off, ai, ci, eb, hc, hr⟩ := KH.out.below hbel k hlt
          cases eb
          have hc0' := (hbel.cell (p := ⟨b0, off0, none⟩) (block_lt_of_cell hc0)).trans hc0
          have hLk := KL.out k hlt
          clear hc0
          by_cases hkl : L k = l
          · rw [hkl] at hc hr
            have hS := fun w h => sBytes_any ai l ci (zI (Z k) l) w h (by omega)
            have hall := all_zI (Z k) l
            obtain ⟨ba, hba⟩ : ∃ ba, (zI (Z k) l).all isB = ba := ⟨_, rfl⟩
            rw [hba] at hS hall
            clear hba
            cases ba with
            | true =>
              have HB2 : Hid (∀ i, i < k + 1 → L i = l ∧ ∀ j, j < l → isB (Z i j) = true) := fun i hi => by
                by_cases e : i = k
                · subst e; exact ⟨hkl, hall.1 rfl⟩
                · exact HB.out i (by omega)
              clear hall
              generalize zI (Z k) l = zs at hr hS
              go_wp2_with fail
              go_quiet ((go_at_call 76; exact Calls.quiet_of_same (hS _ (hr.below ⟨rfl, rfl, rfl, Nat.le_refl _, fun _ _ => rfl⟩))))
              go_wp2
              go_roundw
              case rel => exact ⟨k + 1, by omega, by go_num, HB2, below_drewN hbel _⟩
              case measure => simp [intOf] <;> omega
            | false =>
              have HN : Hid (okf = false) := KO.out k (by omega) HB.out hlt (fun hh => by have := hall.2 hh.2; cases this)
              clear hall
              generalize zI (Z k) l = zs at hr hS
              go_wp2_with fail
              go_quiet ((go_at_call 76; exact Calls.quiet_of_same (hS _ (hr.below ⟨rfl, rfl, rfl, Nat.le_refl _, fun _ _ => rfl⟩))))
              go_wp2
              go_ret
              exact ⟨ret_bool HN.out.symm, below_drewN hbel _⟩
          · have HN : Hid (okf = false) := KO.out k (by omega) HB.out hlt (fun hh => hkl hh.1)
            have hne : ((L k : Int) != (l : Int)) = true := by simp; omega
            clear hr
            generalize L k = lk at hc hne
            go_wp2_with fail
            go_quiet (fail)
            go_wp2
            go_ret
            exact ⟨ret_bool HN.out.symm, below_drewN hbel _⟩
        · obtain rfl : k = n := by omega
          have HN : Hid (okf = true) := KY.out HB.out
          go_wp2
          go_ret
          exact ⟨ret_bool HN.out.symm, hbel⟩
    · have hs2 : inB (L 0 : Int) 1 16 = false := by unfold inB; simp; omega
      have HN : Hid (okM n L Z = false) := okM_no (fun hh => hl ⟨hh.2.2.1, hh.2.2.2.1⟩)
      generalize okM n L Z = okf at HN
      clear h hL hl
      generalize L 0 = l at hc0 hs2
      go_enter Try.func22, Try.ntmps22
      go_wp2_with (go_at_call 75; refine (sIn_any _ _ _ _).mono ?_; rintro e w' ⟨rfl, hw⟩; obtain rfl := hw.symm)
      go_ret
      exact ⟨ret_bool HN.out.symm, Below.refl _ _⟩
  · have hs1 : inB (n : Int) 1 16 = false := by unfold inB; simp; omega
    have HN : Hid (okM n L Z = false) := okM_no (fun hh => hn ⟨hh.1, hh.2.1⟩)
    generalize okM n L Z = okf at HN
    clear h hL
    go_enter Try.func22, Try.ntmps22
    go_wp2_with (go_at_call 75; refine (sIn_any _ _ _ _).mono ?_; rintro e w' ⟨rfl, hw⟩; obtain rfl := hw.symm)
    go_ret
    exact ⟨ret_bool HN.out.symm, Below.refl _ _⟩
end Go.Proofs.Ytmggogdnfgkljaa

/- The model's unit, of any number of rows up to 2^10; the unit; a spread. -/
namespace Go.Proofs.Ytmggogdnfgkljaa
open Go.ChangeShapes Go.WideShapes Go.ChangeAt Go.RowKit

set_option maxHeartbeats 2000000 in
theorem sUnit0_any (n : Nat) (w : World) (hn : n ≤ 1000) :
    Calls Try.prog 71 #[.int .i64 (n : Int)] w fun e w' => ∃ G cap A C, e = .returned (.slice (some ⟨G, 0, none⟩) n cap) ∧ MatI w' w.heap.size w'.heap.size (some ⟨G, 0, none⟩) n cap A (fun _ => n) C (fun i j => ((Gm.dl i j : Nat) : Int)) ∧ Below w.heap.size w w' := by
  obtain ⟨i0, hi, hz0, hz1, hz2⟩ := info_parts Try.infoInt
  obtain ⟨i1, hj, hy0, hy1, hy2⟩ := info_parts Try.infoInts
  have H0 : Hid (MatI (w.alloc (.cells #[] 31)) w.heap.size (w.alloc (.cells #[] 31)).heap.size (some ⟨w.heap.size, 0, none⟩) 0 0 (fun _ => none) (fun _ => n) (fun _ => 0) (fun i j => ((Gm.dl i j : Nat) : Int))) := litM w _ _ _ _
  go_enter Try.func71, Try.ntmps71
  go_wp2
  go_loopw [3, 4] (fun v i wr => ∃ k G cap A C, k ≤ n ∧ i = .int .i64 ((k : Nat) : Int) ∧ v = .slice (some ⟨G, 0, none⟩) k cap ∧ MatI wr w.heap.size wr.heap.size (some ⟨G, 0, none⟩) k cap A (fun _ => n) C (fun i j => ((Gm.dl i j : Nat) : Int)) ∧ Below w.heap.size w wr) (fun _ i _ => n - (intOf i).toNat)
  case atStart => exact ⟨0, _, _, _, _, Nat.zero_le _, rfl, rfl, H0.out, (Below.refl _ _).alloc (Nat.le_refl _) _⟩
  case round =>
    obtain ⟨k, G, cap, A, C, hk, rfl, rfl, hM, hbel⟩ := hrel
    clear H0
    by_cases hlt : k < n
    · have hki : (k : Int) < (n : Int) := by omega
      have hsz0 := hbel.size
      have KR : Hid (OwnR (wr.alloc (.cells #[] 3)) wr.heap.size wr.heap.size 0 0 (Gm.dl k)) := lit0 wr (Gm.dl k)
      have KM : Hid (MatI (wr.alloc (.cells #[] 3)) w.heap.size wr.heap.size (some ⟨G, 0, none⟩) k cap A (fun _ => n) C (fun i j => ((Gm.dl i j : Nat) : Int))) := hM.below ((Below.refl _ _).alloc (Nat.le_refl _) _)
      have KB : Hid (Below w.heap.size w (wr.alloc (.cells #[] 3))) := hbel.alloc hsz0 _
      have hGl := hM.olt.1
      clear hM hbel
      obtain ⟨b0, hb0⟩ : ∃ b0, wr.heap.size = b0 := ⟨_, rfl⟩
      rw [hb0] at KR KM hsz0
      go_wp2
      clear hb0
      go_loopw [5, 6] (fun v i wr => ∃ q gr capr, q ≤ n ∧ i = .int .i64 ((q : Nat) : Int) ∧ v = .slice (some ⟨gr, 0, none⟩) q capr ∧ OwnR wr b0 gr q capr (Gm.dl k) ∧ MatI wr w.heap.size b0 (some ⟨G, 0, none⟩) k cap A (fun _ => n) C (fun i j => ((Gm.dl i j : Nat) : Int)) ∧ Below w.heap.size w wr) (fun _ i _ => n - (intOf i).toNat)
      case atStart => exact ⟨0, _, _, Nat.zero_le _, rfl, rfl, KR.out, KM.out, KB.out⟩
      case round =>
        obtain ⟨q, gr, capr, hq, rfl, rfl, hown, hM, hbel⟩ := hrel
        clear KR KM KB
        have hgr := hown.lt.1
        have hsz := hbel.size
        have hglt := hown.lt.2
        by_cases hqn : q < n
        · have hqi : (q : Int) < (n : Int) := by omega
          obtain ⟨x, hx⟩ : ∃ x, Gm.dl k q = x := ⟨_, rfl⟩
          by_cases e : k = q
          · subst e
            have hxe : Gm.dl k k = 1 := Gm.dl_self k
            clear hx
            go_wp2_with (at_builtin; refine wpList_append_lies _ (by rfl) _ _ 31 (by rfl) b0 3 i0 (.int .i64 0) 1 8 Try.underlying31 hi hz0 hz1 hz2 rfl (by decide) (.slice (some ⟨gr, 0, none⟩) k capr) k _ (by rfl) (World.ownsRow.alloc hown _) ⟨wr.heap.size, 0, none⟩ 1 1 [.int .i64 1] (by rfl) (by rfl) (World.news_of_block (cs := #[.int .i64 1]) (t := 3) (fr := (0, 0)) (heap_alloc_new wr _)) (by simp [Value.oneCell']) (by omega) (by unfold maxLen; omega) (by omega) (by simp; omega) (wr.heap.size + 1) (by simp) ?_; intro g2 cap3 w2 hown2 hgrow hat hltg)
            have HO : Hid (OwnR w2 b0 g2 (k + 1) cap3 (Gm.dl k)) := OwnR.snoc (by rw [hxe]; exact hown2)
            have HM : Hid (MatI w2 w.heap.size b0 (some ⟨G, 0, none⟩) k cap A (fun _ => n) C (fun i j => ((Gm.dl i j : Nat) : Int))) := MatI.rowed _ hM hgr hgrow
            have hb' : Below w.heap.size w w2 := (hbel.alloc hsz _).grown (show World.grownBy _ w2 (some gr) from hgrow) (by simp; omega) (fun j hj => by cases hj; omega)
            clear hown2 hgrow hat hltg hown hM
            go_roundw
            case rel => exact ⟨k + 1, g2, cap3, by omega, by go_num, rfl, HO.out, HM.out, hb'⟩
            case measure => simp [intOf] <;> omega
          · have hxe : Gm.dl k q = 0 := Gm.dl_ne e
            have hee : ((k : Int) == (q : Int)) = false := by simp; omega
            clear hx
            go_wp2_with (at_builtin; refine wpList_append_lies _ (by rfl) _ _ 31 (by rfl) b0 3 i0 (.int .i64 0) 1 8 Try.underlying31 hi hz0 hz1 hz2 rfl (by decide) (.slice (some ⟨gr, 0, none⟩) q capr) q _ (by rfl) (World.ownsRow.alloc hown _) ⟨wr.heap.size, 0, none⟩ 1 1 [.int .i64 0] (by rfl) (by rfl) (World.news_of_block (cs := #[.int .i64 0]) (t := 3) (fr := (0, 0)) (heap_alloc_new wr _)) (by simp [Value.oneCell']) (by omega) (by unfold maxLen; omega) (by omega) (by simp; omega) (wr.heap.size + 1) (by simp) ?_; intro g2 cap3 w2 hown2 hgrow hat hltg)
            have HO : Hid (OwnR w2 b0 g2 (q + 1) cap3 (Gm.dl k)) := OwnR.snoc (by rw [hxe]; exact hown2)
            have HM : Hid (MatI w2 w.heap.size b0 (some ⟨G, 0, none⟩) k cap A (fun _ => n) C (fun i j => ((Gm.dl i j : Nat) : Int))) := MatI.rowed _ hM hgr hgrow
            have hb' : Below w.heap.size w w2 := (hbel.alloc hsz _).grown (show World.grownBy _ w2 (some gr) from hgrow) (by simp; omega) (fun j hj => by cases hj; omega)
            clear hown2 hgrow hat hltg hown hM
            go_roundw
            case rel => exact ⟨q + 1, g2, cap3, by omega, by go_num, rfl, HO.out, HM.out, hb'⟩
            case measure => simp [intOf] <;> omega
        · obtain rfl : q = n := by omega
          have hqi : ¬ (q : Int) < (q : Int) := by omega
          go_wp2_with (at_builtin; refine wpList_append_lies _ (by rfl) _ _ 24 (by rfl) w.heap.size 31 i1 (.slice none 0 0) 1 24 Try.underlying24 hj hy0 hy1 hy2 rfl (by decide) (.slice (some ⟨G, 0, none⟩) k cap) k _ (by rfl) (World.ownsRow.alloc hM.out _) ⟨wr.heap.size, 0, none⟩ 1 1 [.slice (some ⟨gr, 0, none⟩) q capr] (by rfl) (by rfl) (World.news_of_block (cs := #[.slice (some ⟨gr, 0, none⟩) q capr]) (t := 31) (fr := (0, 0)) (heap_alloc_new wr _)) (by simp [Value.oneCell']) (by omega) (by unfold maxLen; omega) (by omega) (by simp; omega) (wr.heap.size + 1) (by simp) ?_; intro g2 cap3 w2 hown2 hgrow hat hltg)
          obtain ⟨A', C', hP⟩ := MatI.pushed _ hM hsz0 hown hgrow hown2
          have HP : Hid (MatI w2 w.heap.size w2.heap.size (some ⟨g2, 0, none⟩) (k + 1) cap3 A' (fun _ => q) C' (fun i j => ((Gm.dl i j : Nat) : Int))) := hP
          have hb' : Below w.heap.size w w2 := (hbel.alloc hsz _).grown (show World.grownBy _ w2 (some G) from hgrow) (by simp; omega) (fun j hj => by cases hj; exact hGl)
          clear hown2 hgrow hat hltg hown hM hP
          go_roundw
          case rel => exact ⟨k + 1, g2, cap3, A', C', by omega, by go_num, rfl, HP.out, hb'⟩
          case measure => simp [intOf] <;> omega
    · obtain rfl : k = n := by omega
      have KM : Hid _ := hM
      clear hM
      go_wp2
      go_ret
      exact ⟨G, cap, A, C, rfl, KM.out, hbel⟩
end Go.Proofs.Ytmggogdnfgkljaa

/- The model's functions that build a matrix row by row: the unit, a spread, turned, a product. Conditions: at most 2^20 rows, at most 2^20 numbers a row. Written by mkspec.py. -/
namespace Go.Proofs.Ytmggogdnfgkljaa
open Go.ChangeShapes Go.WideShapes Go.ChangeAt Go.RowKit

theorem side_inB (n : Int) : inB n 1 16 = side n := rfl
theorem invM {x : Nat} (h : x < 256) (h0 : x ≠ 0) : invI (x : Int) = ((Gf.inv x : Nat) : Int) := by
  unfold invI
  rw [if_pos (by omega)]
  simp

set_option maxHeartbeats 2000000 in
theorem sSpread_any (k n : Int) (w : World) : Calls Try.prog 30 #[.int .i64 k, .int .i64 n] w fun e w' => ∃ v, e = .returned (.tuple #[v, .bool (sprOk k n)]) ∧ ResM w w' v (sprR k n) k.toNat (Gm.sprd k.toNat) ∧ Below w.heap.size w w' := by
  obtain ⟨i0, hi, hz0, hz1, hz2⟩ := info_parts Try.infoInt
  obtain ⟨i1, hj, hy0, hy1, hy2⟩ := info_parts Try.infoInts
  have hin := side_inB n
  by_cases h1 : side n = true
  case neg =>
    have h1' : side n = false := by simpa using h1
    have hok : sprOk k n = false := by unfold sprOk; simp [h1']
    have hN : sprR k n = 0 := by unfold sprR; rw [if_neg (by rw [hok]; simp)]
    rw [hN, hok]
    rw [h1'] at hin
    clear hok hN hi hz0 hz1 hz2 hj hy0 hy1 hy2
    go_enter Try.func30, Try.ntmps30
    go_wp2_with (go_at_call 75; refine (sIn_any _ _ _ _).mono ?_; rintro e w' ⟨rfl, hw⟩; obtain rfl := hw.symm)
    go_ret2
    exact ⟨_, rfl, resLit0 _ _ (Nat.le_refl _) _ _, (Below.refl _ _).alloc (Nat.le_refl _) _⟩
  rw [h1] at hin
  by_cases h2 : 1 ≤ k ∧ k ≤ n
  case neg =>
    have hok : sprOk k n = false := by unfold sprOk; simp [h2]
    have hN : sprR k n = 0 := by unfold sprR; rw [if_neg (by rw [hok]; simp)]
    have hin2 : inB k 1 n = false := by unfold inB; simpa using h2
    rw [hN, hok]
    clear hok hN h2 hi hz0 hz1 hz2 hj hy0 hy1 hy2
    go_enter Try.func30, Try.ntmps30
    go_wp2_with (go_at_call 75; refine (sIn_any _ _ _ _).mono ?_; rintro e w' ⟨rfl, hw⟩; obtain rfl := hw.symm)
    go_ret2
    exact ⟨_, rfl, resLit0 _ _ (Nat.le_refl _) _ _, (Below.refl _ _).alloc (Nat.le_refl _) _⟩
  have hr : 1 ≤ n ∧ n ≤ 16 := by simpa [side] using h1
  have hin2 : inB k 1 n = true := by unfold inB; simpa using h2
  have hok : sprOk k n = true := by unfold sprOk; rw [h1]; simp; omega
  obtain ⟨N, rfl⟩ : ∃ N : Nat, n = (N : Int) := ⟨n.toNat, by omega⟩
  obtain ⟨K, rfl⟩ : ∃ K : Nat, k = (K : Int) := ⟨k.toNat, by omega⟩
  have hN : sprR (K : Int) (N : Int) = N := by unfold sprR; rw [if_pos hok]; simp
  rw [hN, hok, Int.toNat_natCast]
  have hK1 : 1 ≤ K := by omega
  have hKN : K ≤ N := by omega
  have hN16 : N ≤ 16 := by omega
  clear hN hok hr h1 h2
  have KU : Hid _ := sUnit0_any K w (by omega)
  go_enter Try.func30, Try.ntmps30
  go_wp2_with (go_at_call 75; refine (sIn_any _ _ _ _).mono ?_; rintro e w' ⟨rfl, hw⟩; obtain rfl := hw.symm)
  refine Calls.mono KU.out ?_
  rintro e w1 ⟨G1, cap1, A1, C1, rfl, hM1, hb1⟩
  have H0 : Hid (MatI w1 w.heap.size w1.heap.size (some ⟨G1, 0, none⟩) K cap1 A1 (fun _ => K) C1 (fun i j => ((Gm.sprd K i j : Nat) : Int))) := hM1.congr (fun i hi => ⟨rfl, rfl, rfl, fun j _ => by unfold Gm.sprd; rw [if_pos hi]⟩)
  clear hM1 KU hin hin2
  go_wp2
  go_loopw [6, 7] (fun v i wr => ∃ k G cap A C, K ≤ k ∧ k ≤ N ∧ i = .int .i64 ((k : Nat) : Int) ∧ v = .slice (some ⟨G, 0, none⟩) k cap ∧ MatI wr w.heap.size wr.heap.size (some ⟨G, 0, none⟩) k cap A (fun _ => K) C (fun i j => ((Gm.sprd K i j : Nat) : Int)) ∧ Below w.heap.size w wr) (fun _ i _ => N - (intOf i).toNat)
  case atStart => exact ⟨K, G1, cap1, A1, C1, Nat.le_refl _, hKN, rfl, rfl, H0.out, hb1⟩
  case round =>
    obtain ⟨k, G, cap, A, C, hk0, hk, rfl, rfl, hM, hbel⟩ := hrel
    clear H0
    by_cases hlt : k < N
    · have hki : (k : Int) < (N : Int) := by omega
      have hsz0 := hbel.size
      have KR : Hid (OwnR (wr.alloc (.cells #[] 3)) wr.heap.size wr.heap.size 0 0 (Gm.sprd K k)) := lit0 wr (Gm.sprd K k)
      have KM : Hid (MatI (wr.alloc (.cells #[] 3)) w.heap.size wr.heap.size (some ⟨G, 0, none⟩) k cap A (fun _ => K) C (fun i j => ((Gm.sprd K i j : Nat) : Int))) := hM.below ((Below.refl _ _).alloc (Nat.le_refl _) _)
      have KB : Hid (Below w.heap.size w (wr.alloc (.cells #[] 3))) := hbel.alloc hsz0 _
      have hGl := hM.olt.1

      clear hM hbel
      obtain ⟨b0, hb0⟩ : ∃ b0, wr.heap.size = b0 := ⟨_, rfl⟩
      rw [hb0] at KR KM hsz0
      go_wp2
      clear hb0
      go_loopw [8, 9] (fun v i wr => ∃ q gr capr, q ≤ K ∧ i = .int .i64 ((q : Nat) : Int) ∧ v = .slice (some ⟨gr, 0, none⟩) q capr ∧ OwnR wr b0 gr q capr (Gm.sprd K k) ∧ MatI wr w.heap.size b0 (some ⟨G, 0, none⟩) k cap A (fun _ => K) C (fun i j => ((Gm.sprd K i j : Nat) : Int)) ∧ Below w.heap.size w wr) (fun _ i _ => K - (intOf i).toNat)
      case atStart => exact ⟨0, _, _, Nat.zero_le _, rfl, rfl, KR.out, KM.out, KB.out⟩
      case round =>
        obtain ⟨q, gr, capr, hq, rfl, rfl, hown, hM, hbel⟩ := hrel
        clear KR KM KB
        have hgr := hown.lt.1
        have hsz := hbel.size
        have hglt := hown.lt.2
        by_cases hqn : q < K
        · have hqi : (q : Int) < (K : Int) := by omega
          have hxr := xor_i64 k q (by omega) (by omega)
          have hx0 : k ^^^ q ≠ 0 := fun e => by have := Gp.xor_eq e; omega
          have hxl : k ^^^ q < 256 := Gf.xor_lt (by omega) (by omega)
          have HV : Hid (Gm.sprd K k q = Gf.inv (k ^^^ q)) := by show _ = _; unfold Gm.sprd; rw [if_neg (by omega)]
          have hiv := invM hxl hx0
          have hS := fun w => sInv_any ((k ^^^ q : Nat) : Int) w
          rw [hiv] at hS
          generalize Gf.inv (k ^^^ q) = V at HV hS
          clear hiv hx0
          go_wp2_with (first | (go_at_call 89; refine (hS _).mono ?_; rintro e w' ⟨rfl, hw⟩; obtain rfl := hw.symm) | (at_builtin; refine wpList_append_lies _ (by rfl) _ _ 31 (by rfl) b0 3 i0 (.int .i64 0) 1 8 Try.underlying31 hi hz0 hz1 hz2 rfl (by decide) (.slice (some ⟨gr, 0, none⟩) q capr) q _ (by rfl) (World.ownsRow.alloc hown _) ⟨wr.heap.size, 0, none⟩ 1 1 [.int .i64 (V : Int)] (by rfl) (by rfl) (World.news_of_block (cs := #[.int .i64 (V : Int)]) (t := 3) (fr := (0, 0)) (heap_alloc_new wr _)) (by simp [Value.oneCell']) (by omega) (by unfold maxLen; omega) (by omega) (by simp; omega) (wr.heap.size + 1) (by simp) ?_; intro g2 cap3 w2 hown2 hgrow hat hltg))
          have HO : Hid (OwnR w2 b0 g2 (q + 1) cap3 (Gm.sprd K k)) := OwnR.snoc (by rw [HV.out]; exact hown2)
          have HM : Hid (MatI w2 w.heap.size b0 (some ⟨G, 0, none⟩) k cap A (fun _ => K) C (fun i j => ((Gm.sprd K i j : Nat) : Int))) := MatI.rowed _ hM hgr hgrow
          have hb' : Below w.heap.size w w2 := (hbel.alloc hsz _).grown (show World.grownBy _ w2 (some gr) from hgrow) (by simp; omega) (fun j hj => by cases hj; omega)
          clear hown2 hgrow hat hltg hown hM
          go_roundw
          case rel => exact ⟨q + 1, g2, cap3, by omega, by go_num, rfl, HO.out, HM.out, hb'⟩
          case measure => simp [intOf] <;> omega
        · obtain rfl : K = q := by omega
          have hqi : ¬ (K : Int) < (K : Int) := by omega

          go_wp2_with (at_builtin; refine wpList_append_lies _ (by rfl) _ _ 24 (by rfl) w.heap.size 31 i1 (.slice none 0 0) 1 24 Try.underlying24 hj hy0 hy1 hy2 rfl (by decide) (.slice (some ⟨G, 0, none⟩) k cap) k _ (by rfl) (World.ownsRow.alloc hM.out _) ⟨wr.heap.size, 0, none⟩ 1 1 [.slice (some ⟨gr, 0, none⟩) K capr] (by rfl) (by rfl) (World.news_of_block (cs := #[.slice (some ⟨gr, 0, none⟩) K capr]) (t := 31) (fr := (0, 0)) (heap_alloc_new wr _)) (by simp [Value.oneCell']) (by omega) (by unfold maxLen; omega) (by omega) (by simp; omega) (wr.heap.size + 1) (by simp) ?_; intro g2 cap3 w2 hown2 hgrow hat hltg)
          obtain ⟨A', C', hP⟩ := MatI.pushed _ hM hsz0 hown hgrow hown2
          have HP : Hid (MatI w2 w.heap.size w2.heap.size (some ⟨g2, 0, none⟩) (k + 1) cap3 A' (fun _ => K) C' (fun i j => ((Gm.sprd K i j : Nat) : Int))) := hP
          have hb' : Below w.heap.size w w2 := (hbel.alloc hsz _).grown (show World.grownBy _ w2 (some G) from hgrow) (by simp; omega) (fun j hj => by cases hj; exact hGl)
          clear hown2 hgrow hat hltg hown hM hP
          go_roundw
          case rel => exact ⟨k + 1, g2, cap3, A', C', by omega, by omega, by go_num, rfl, HP.out, hb'⟩
          case measure => simp [intOf] <;> omega
    · obtain rfl : k = N := by omega
      have KM : Hid _ := hM
      clear hM

      go_wp2
      go_ret2
      exact ⟨_, rfl, ResM.mk KM.out (Nat.le_refl _), hbel⟩

set_option maxHeartbeats 2000000 in
theorem sTurn0_any (a : Option Addr) (n ca : Nat) (L : Nat → Nat) (Z : Nat → Nat → Int) (w : World) (h : MatAt w a n L Z) (ok : OkM n L Z) :
    Calls Try.prog 83 #[.slice a n ca] w fun e w' => ∃ G cap A C, e = .returned (.slice (some ⟨G, 0, none⟩) (L 0) cap) ∧ MatI w' w.heap.size w'.heap.size (some ⟨G, 0, none⟩) (L 0) cap A (fun _ => n) C (fun i j => ((bZ n L Z j i : Nat) : Int)) ∧ Below w.heap.size w w' := by
  obtain ⟨i0, hi, hz0, hz1, hz2⟩ := info_parts Try.infoInt
  obtain ⟨i1, hj, hy0, hy1, hy2⟩ := info_parts Try.infoInts
  obtain ⟨b1, off1, ai1, ci1, e1, hc1, _⟩ := h 0 (by have := ok.1; omega)
  subst e1
  rw [Nat.add_zero] at hc1
  have hb1 := block_lt_of_cell hc1
  have KV : Hid (∀ i j, i < n → j < L 0 → Z i j = ((bZ n L Z i j : Nat) : Int)) := fun i j hi hj => by
    rw [bZ_eq ok hi hj]
    obtain ⟨X, hX, e⟩ := isB_nat ((ok.2.2.2.2 i hi).2 j hj)
    unfold cZ
    rw [e]
    simp
  have KL : Hid (∀ i, i < n → L i = L 0) := fun i hi => (ok.2.2.2.2 i hi).1
  have hn1 : 1 ≤ n := ok.1
  have hn2 : n ≤ 16 := ok.2.1
  have hl1 : 1 ≤ L 0 := ok.2.2.1
  have hl2 : L 0 ≤ 16 := ok.2.2.2.1
  generalize bZ n L Z = B at KV
  obtain ⟨l, hl⟩ : ∃ l, L 0 = l := ⟨_, rfl⟩
  rw [hl] at KV KL hl1 hl2 hc1 ⊢
  have KH : Hid (MatAt w (some ⟨b1, off1, none⟩) n L Z) := h
  have hn0' : 0 < n := by omega
  clear h ok hl
  obtain ⟨T, hT⟩ : ∃ T : Nat → Nat → Nat, T = fun i j => B j i := ⟨_, rfl⟩
  have KTT : Hid (∀ i j, T i j = B j i) := fun i j => by rw [hT]
  rw [show (fun i j => ((B j i : Nat) : Int)) = fun i j => ((T i j : Nat) : Int) by rw [hT]]
  clear hT
  have H0 : Hid (MatI (w.alloc (.cells #[] 31)) w.heap.size (w.alloc (.cells #[] 31)).heap.size (some ⟨w.heap.size, 0, none⟩) 0 0 (fun _ => none) (fun _ => n) (fun _ => 0) (fun i j => ((T i j : Nat) : Int))) := litM w _ _ _ _
  go_enter Try.func83, Try.ntmps83
  go_wp2
  go_loopw [3, 4] (fun v i wr => ∃ k G cap A C, k ≤ l ∧ i = .int .i64 ((k : Nat) : Int) ∧ v = .slice (some ⟨G, 0, none⟩) k cap ∧ MatI wr w.heap.size wr.heap.size (some ⟨G, 0, none⟩) k cap A (fun _ => n) C (fun i j => ((T i j : Nat) : Int)) ∧ Below w.heap.size w wr) (fun _ i _ => l - (intOf i).toNat)
  case atStart => exact ⟨0, _, _, _, _, Nat.zero_le _, rfl, rfl, H0.out, (Below.refl _ _).alloc (Nat.le_refl _) _⟩
  case round =>
    obtain ⟨k, G, cap, A, C, hk, rfl, rfl, hM, hbel⟩ := hrel
    clear H0
    by_cases hlt : k < l
    · have hki : (k : Int) < (l : Int) := by omega
      have hsz0 := hbel.size
      have KR : Hid (OwnR (wr.alloc (.cells #[] 3)) wr.heap.size wr.heap.size 0 0 (T k)) := lit0 wr (T k)
      have KM : Hid (MatI (wr.alloc (.cells #[] 3)) w.heap.size wr.heap.size (some ⟨G, 0, none⟩) k cap A (fun _ => n) C (fun i j => ((T i j : Nat) : Int))) := hM.below ((Below.refl _ _).alloc (Nat.le_refl _) _)
      have KB : Hid (Below w.heap.size w (wr.alloc (.cells #[] 3))) := hbel.alloc hsz0 _
      have hGl := hM.olt.1
      have hc1' := (hbel.cell (p := ⟨b1, off1, none⟩) hb1).trans hc1
      clear hM hbel
      obtain ⟨b0, hb0⟩ : ∃ b0, wr.heap.size = b0 := ⟨_, rfl⟩
      rw [hb0] at KR KM hsz0
      go_wp2
      clear hb0
      go_loopw [5, 6] (fun v i wr => ∃ q gr capr, q ≤ n ∧ i = .int .i64 ((q : Nat) : Int) ∧ v = .slice (some ⟨gr, 0, none⟩) q capr ∧ OwnR wr b0 gr q capr (T k) ∧ MatI wr w.heap.size b0 (some ⟨G, 0, none⟩) k cap A (fun _ => n) C (fun i j => ((T i j : Nat) : Int)) ∧ Below w.heap.size w wr) (fun _ i _ => n - (intOf i).toNat)
      case atStart => exact ⟨0, _, _, Nat.zero_le _, rfl, rfl, KR.out, KM.out, KB.out⟩
      case round =>
        obtain ⟨q, gr, capr, hq, rfl, rfl, hown, hM, hbel⟩ := hrel
        clear KR KM KB
        have hgr := hown.lt.1
        have hsz := hbel.size
        have hglt := hown.lt.2
        by_cases hqn : q < n
        · have hqi : (q : Int) < (n : Int) := by omega
          obtain ⟨b2, off2, ai, ci, eb, hc, hr⟩ := KH.out.below hbel q hqn
          cases eb
          rw [KL.out q hqn] at hc hr
          obtain ⟨b3, off3, rfl, hcz⟩ := hr.2 k hlt
          rw [zI_getD _ _ _ hlt, KV.out q k hqn hlt] at hcz
          have HV : Hid (T k q = B q k) := KTT.out k q
          generalize B q k = V at hcz HV
          clear hr
          go_wp2_with (at_builtin; refine wpList_append_lies _ (by rfl) _ _ 31 (by rfl) b0 3 i0 (.int .i64 0) 1 8 Try.underlying31 hi hz0 hz1 hz2 rfl (by decide) (.slice (some ⟨gr, 0, none⟩) q capr) q _ (by rfl) (World.ownsRow.alloc hown _) ⟨wr.heap.size, 0, none⟩ 1 1 [.int .i64 (V : Int)] (by rfl) (by rfl) (World.news_of_block (cs := #[.int .i64 (V : Int)]) (t := 3) (fr := (0, 0)) (heap_alloc_new wr _)) (by simp [Value.oneCell']) (by omega) (by unfold maxLen; omega) (by omega) (by simp; omega) (wr.heap.size + 1) (by simp) ?_; intro g2 cap3 w2 hown2 hgrow hat hltg)
          have HO : Hid (OwnR w2 b0 g2 (q + 1) cap3 (T k)) := OwnR.snoc (by rw [HV.out]; exact hown2)
          have HM : Hid (MatI w2 w.heap.size b0 (some ⟨G, 0, none⟩) k cap A (fun _ => n) C (fun i j => ((T i j : Nat) : Int))) := MatI.rowed _ hM hgr hgrow
          have hb' : Below w.heap.size w w2 := (hbel.alloc hsz _).grown (show World.grownBy _ w2 (some gr) from hgrow) (by simp; omega) (fun j hj => by cases hj; omega)
          clear hown2 hgrow hat hltg hown hM
          go_roundw
          case rel => exact ⟨q + 1, g2, cap3, by omega, by go_num, rfl, HO.out, HM.out, hb'⟩
          case measure => simp [intOf] <;> omega
        · obtain rfl : n = q := by omega
          have hqi : ¬ (n : Int) < (n : Int) := by omega

          go_wp2_with (at_builtin; refine wpList_append_lies _ (by rfl) _ _ 24 (by rfl) w.heap.size 31 i1 (.slice none 0 0) 1 24 Try.underlying24 hj hy0 hy1 hy2 rfl (by decide) (.slice (some ⟨G, 0, none⟩) k cap) k _ (by rfl) (World.ownsRow.alloc hM.out _) ⟨wr.heap.size, 0, none⟩ 1 1 [.slice (some ⟨gr, 0, none⟩) n capr] (by rfl) (by rfl) (World.news_of_block (cs := #[.slice (some ⟨gr, 0, none⟩) n capr]) (t := 31) (fr := (0, 0)) (heap_alloc_new wr _)) (by simp [Value.oneCell']) (by omega) (by unfold maxLen; omega) (by omega) (by simp; omega) (wr.heap.size + 1) (by simp) ?_; intro g2 cap3 w2 hown2 hgrow hat hltg)
          obtain ⟨A', C', hP⟩ := MatI.pushed _ hM hsz0 hown hgrow hown2
          have HP : Hid (MatI w2 w.heap.size w2.heap.size (some ⟨g2, 0, none⟩) (k + 1) cap3 A' (fun _ => n) C' (fun i j => ((T i j : Nat) : Int))) := hP
          have hb' : Below w.heap.size w w2 := (hbel.alloc hsz _).grown (show World.grownBy _ w2 (some G) from hgrow) (by simp; omega) (fun j hj => by cases hj; exact hGl)
          clear hown2 hgrow hat hltg hown hM hP
          go_roundw
          case rel => exact ⟨k + 1, g2, cap3, A', C', by omega, by go_num, rfl, HP.out, hb'⟩
          case measure => simp [intOf] <;> omega
    · obtain rfl : k = l := by omega
      have KM : Hid _ := hM
      clear hM
      have hc1' := (hbel.cell (p := ⟨b1, off1, none⟩) hb1).trans hc1
      go_wp2
      go_ret
      exact ⟨G, cap, A, C, rfl, KM.out, hbel⟩
end Go.Proofs.Ytmggogdnfgkljaa

/- The model's product of matrices. Conditions: at most 2^20 rows, at most 2^20 numbers a row. Written by mkspec.py. -/
namespace Go.Proofs.Ytmggogdnfgkljaa
open Go.ChangeShapes Go.WideShapes Go.ChangeAt Go.RowKit

theorem dotGo_mp (F H : Nat → Nat → Nat) (i j n : Nat) (xs ys : List Int) (hx : ∀ t, t < n → xs.getD t 0 = ((F i t : Nat) : Int)) (hy : ∀ t, t < n → ys.getD t 0 = ((H t j : Nat) : Int)) (hF : Gm.Byt F) (hH : Gm.Byt H) (k : Nat) (hk : k ≤ n) :
    dotGo xs ys (n - k) k (Gm.sm (fun t => Gp.m (F i t) (H t j)) k) = ((Gm.mp n F H i j : Nat) : Int) := by
  induction hd : n - k generalizing k with
  | zero =>
    have : k = n := by omega
    subst this
    rfl
  | succ d ih =>
    have h1 := dotGo_yes (xs := xs) (ys := ys) (n := n) (k := k) (X := Gm.sm (fun t => Gp.m (F i t) (H t j)) k) (by omega) (hx k (by omega)).symm (hy k (by omega)).symm (hF i k) (hH k j)
    rw [hd] at h1
    rw [h1, Gp.m_nat (hF i k) (hH k j), ← Gm.sm_s (fun t => Gp.m (F i t) (H t j)), show n - (k + 1) = d by omega]
    exact ih (k + 1) (by omega) (by omega)
set_option maxHeartbeats 4000000 in
theorem sMul_mat (a : Option Addr) (n ca : Nat) (L : Nat → Nat) (Z : Nat → Nat → Int) (a' : Option Addr) (n' ca' : Nat) (L' : Nat → Nat) (Z' : Nat → Nat → Int) (w : World) (h : MatAt w a n L Z) (h' : MatAt w a' n' L' Z') (hL : ∀ i, i < n → L i ≤ 1048576) (hL' : ∀ i, i < n' → L' i ≤ 1048576) :
    Calls Try.prog 26 #[.slice a n ca, .slice a' n' ca'] w fun e w' => ∃ v, e = .returned (.tuple #[v, .bool (muOk n L Z n' L' Z')]) ∧ ResM w w' v (muR n L Z n' L' Z') (L' 0) (Gm.mp n' (bZ n L Z) (bZ n' L' Z')) ∧ Below w.heap.size w w' := by
  obtain ⟨i0, hi, hz0, hz1, hz2⟩ := info_parts Try.infoInt
  obtain ⟨i1, hj, hy0, hy1, hy2⟩ := info_parts Try.infoInts
  have KO1 : Hid _ := sMatOk_any a n ca L Z w h hL
  have KO2 : Hid (∀ W, Below w.heap.size w W → _) := fun W hW => sMatOk_any a' n' ca' L' Z' W (h'.below hW) hL'
  by_cases ok : OkM n L Z
  case neg =>
    have hO : muOk n L Z n' L' Z' = false := muOk_no (fun hh => ok hh.1)
    have hR : muR n L Z n' L' Z' = 0 := by unfold muR; rw [if_neg (by rw [hO]; simp)]
    rw [okM_no ok] at KO1
    rw [hO, hR]
    clear hO hR ok h h' hL hL' KO2 hi hz0 hz1 hz2 hj hy0 hy1 hy2
    go_enter Try.func26, Try.ntmps26
    go_wp2_with fail
    refine Calls.mono KO1.out ?_
    rintro e w1 ⟨rfl, hb1⟩
    go_wp2
    go_ret2
    exact ⟨_, rfl, resLit0 _ _ hb1.size _ _, below2 hb1 ((Below.refl _ _).alloc (Nat.le_refl _) _)⟩
  rw [okM_yes ok] at KO1
  by_cases ok' : OkM n' L' Z'
  case neg =>
    have hO : muOk n L Z n' L' Z' = false := muOk_no (fun hh => ok' hh.2.1)
    have hR : muR n L Z n' L' Z' = 0 := by unfold muR; rw [if_neg (by rw [hO]; simp)]
    rw [okM_no ok'] at KO2
    rw [hO, hR]
    clear hO hR ok ok' h h' hL hL' hi hz0 hz1 hz2 hj hy0 hy1 hy2
    go_enter Try.func26, Try.ntmps26
    go_wp2_with fail
    refine Calls.mono KO1.out ?_
    rintro e w1 ⟨rfl, hb1⟩
    have hK2 := KO2.out w1 hb1
    go_wp2_with fail
    refine Calls.mono hK2 ?_
    rintro e w2 ⟨rfl, hb2⟩
    clear hK2
    go_wp2
    go_ret2
    exact ⟨_, rfl, resLit0 _ _ (Nat.le_trans hb1.size hb2.size) _ _, below2 (below2 hb1 hb2) ((Below.refl _ _).alloc (Nat.le_refl _) _)⟩
  rw [okM_yes ok'] at KO2
  obtain ⟨b1, off1, ai1, ci1, e1, hc1, _⟩ := h 0 (by have := ok.1; omega)
  subst e1
  rw [Nat.add_zero] at hc1
  have hlt1 := block_lt_of_cell hc1
  have hn0' : 0 < n := by have := ok.1; omega
  by_cases e : L 0 = n'
  case neg =>
    have hO : muOk n L Z n' L' Z' = false := muOk_no (fun hh => e hh.2.2)
    have hR : muR n L Z n' L' Z' = 0 := by unfold muR; rw [if_neg (by rw [hO]; simp)]
    rw [hO, hR]
    have hne : ((L 0 : Int) != (n' : Int)) = true := by simp; omega
    clear hO hR ok ok' h h' hL hL' e hi hz0 hz1 hz2 hj hy0 hy1 hy2
    generalize L 0 = l at hc1 hne
    go_enter Try.func26, Try.ntmps26
    go_wp2_with fail
    refine Calls.mono KO1.out ?_
    rintro e w1 ⟨rfl, hb1⟩
    have hK2 := KO2.out w1 hb1
    go_wp2_with fail
    refine Calls.mono hK2 ?_
    rintro e w2 ⟨rfl, hb2⟩
    have hc2 := ((below2 hb1 hb2).cell (p := ⟨b1, off1, none⟩) hlt1).trans hc1
    clear hK2 hc1
    go_wp2
    go_ret2
    exact ⟨_, rfl, resLit0 _ _ (Nat.le_trans hb1.size hb2.size) _ _, below2 (below2 hb1 hb2) ((Below.refl _ _).alloc (Nat.le_refl _) _)⟩
  have hO : muOk n L Z n' L' Z' = true := muOk_yes ⟨ok, ok', e⟩
  have hR : muR n L Z n' L' Z' = n := by unfold muR; rw [if_pos hO]
  rw [hO, hR]
  have KT : Hid (∀ W, Below w.heap.size w W → _) := fun W hW => sTurn0_any a' n' ca' L' Z' W (h'.below hW) ok'
  have KV : Hid (∀ i j, i < n → j < L 0 → Z i j = ((bZ n L Z i j : Nat) : Int)) := fun i j hi hj => by
    rw [bZ_eq ok hi hj]
    obtain ⟨X, hX, e⟩ := isB_nat ((ok.2.2.2.2 i hi).2 j hj)
    unfold cZ
    rw [e]
    simp
  have KL : Hid (∀ i, i < n → L i = L 0) := fun i hi => (ok.2.2.2.2 i hi).1
  have KBF : Hid (Gm.Byt (bZ n L Z)) := bZ_byt n L Z
  have KBH : Hid (Gm.Byt (bZ n' L' Z')) := bZ_byt n' L' Z'
  have hn2 : n ≤ 16 := ok.2.1
  have hm2 : n' ≤ 16 := ok'.2.1
  have hp1 : 1 ≤ L' 0 := ok'.2.2.1
  have hp2 : L' 0 ≤ 16 := ok'.2.2.2.1
  have KH : Hid (MatAt w (some ⟨b1, off1, none⟩) n L Z) := h
  generalize bZ n L Z = F at KV KBF
  generalize bZ n' L' Z' = H at KT KBH
  rw [e] at KV KL hc1
  generalize L' 0 = l' at *
  clear h h' hL hL' ok ok' e hO hR
  obtain ⟨P, hP⟩ : ∃ P, Gm.mp n' F H = P := ⟨_, rfl⟩
  rw [hP]
  have KP : Hid (Gm.mp n' F H = P) := hP
  clear hP
  go_enter Try.func26, Try.ntmps26
  go_wp2_with fail
  refine Calls.mono KO1.out ?_
  rintro e w1 ⟨rfl, hb1⟩
  have hK2 := KO2.out w1 hb1
  go_wp2_with fail
  refine Calls.mono hK2 ?_
  rintro e w2 ⟨rfl, hb2⟩
  have hc2 := ((below2 hb1 hb2).cell (p := ⟨b1, off1, none⟩) hlt1).trans hc1
  have hb12 := below2 hb1 hb2
  have hKT := KT.out w2 hb12
  clear hK2 hc1 KO1 KO2 KT hb1 hb2
  go_wp2_with fail
  refine Calls.mono hKT ?_
  rintro e w3 ⟨GT, cT, AT, CT, rfl, hMT, hb3⟩
  have KMT : Hid (MatAt w3 (some ⟨GT, 0, none⟩) l' (fun _ => n') (fun i j => ((H j i : Nat) : Int))) := hMT.at
  have hsz3 : w.heap.size ≤ w3.heap.size := Nat.le_trans hb12.size hb3.size
  have KB3 : Hid (Below w.heap.size w w3) := below2 hb12 hb3
  have hGT3 := hMT.olt.2
  have hb13 : b1 < w3.heap.size := by omega
  clear hMT hKT hc2 hb12 hb3
  have H0 : Hid (MatI (w3.alloc (.cells #[] 31)) w3.heap.size (w3.alloc (.cells #[] 31)).heap.size (some ⟨w3.heap.size, 0, none⟩) 0 0 (fun _ => none) (fun _ => l') (fun _ => 0) (fun i j => ((P i j : Nat) : Int))) := litM w3 _ _ _ _
  have KB4 : Hid (Below w3.heap.size w3 (w3.alloc (.cells #[] 31))) := (Below.refl _ _).alloc (Nat.le_refl _) _
  have KH3 : Hid (MatAt w3 (some ⟨b1, off1, none⟩) n L Z) := KH.out.below KB3.out
  clear KH
  go_wp2
  go_loopw [7, 8] (fun v i wr => ∃ k G cap A C, k ≤ n ∧ i = .int .i64 ((k : Nat) : Int) ∧ v = .slice (some ⟨G, 0, none⟩) k cap ∧ MatI wr w3.heap.size wr.heap.size (some ⟨G, 0, none⟩) k cap A (fun _ => l') C (fun i j => ((P i j : Nat) : Int)) ∧ Below w3.heap.size w3 wr) (fun _ i _ => n - (intOf i).toNat)
  case atStart => exact ⟨0, _, _, _, _, Nat.zero_le _, rfl, rfl, H0.out, KB4.out⟩
  case round =>
    obtain ⟨k, G, cap, A, C, hk, rfl, rfl, hM, hbel⟩ := hrel
    clear H0
    by_cases hlt : k < n
    · have hki : (k : Int) < (n : Int) := by omega
      have hsz0 := hbel.size
      have KR : Hid (OwnR (wr.alloc (.cells #[] 3)) wr.heap.size wr.heap.size 0 0 (P k)) := lit0 wr (P k)
      have KM : Hid (MatI (wr.alloc (.cells #[] 3)) w3.heap.size wr.heap.size (some ⟨G, 0, none⟩) k cap A (fun _ => l') C (fun i j => ((P i j : Nat) : Int))) := hM.below ((Below.refl _ _).alloc (Nat.le_refl _) _)
      have KB : Hid (Below w3.heap.size w3 (wr.alloc (.cells #[] 3))) := hbel.alloc hsz0 _
      have hGl := hM.olt.1

      clear hM hbel
      obtain ⟨b0, hb0⟩ : ∃ b0, wr.heap.size = b0 := ⟨_, rfl⟩
      rw [hb0] at KR KM hsz0
      go_wp2
      clear hb0
      go_loopw [9, 10] (fun v i wr => ∃ q gr capr, q ≤ l' ∧ i = .int .i64 ((q : Nat) : Int) ∧ v = .slice (some ⟨gr, 0, none⟩) q capr ∧ OwnR wr b0 gr q capr (P k) ∧ MatI wr w3.heap.size b0 (some ⟨G, 0, none⟩) k cap A (fun _ => l') C (fun i j => ((P i j : Nat) : Int)) ∧ Below w3.heap.size w3 wr) (fun _ i _ => l' - (intOf i).toNat)
      case atStart => exact ⟨0, _, _, Nat.zero_le _, rfl, rfl, KR.out, KM.out, KB.out⟩
      case round =>
        obtain ⟨q, gr, capr, hq, rfl, rfl, hown, hM, hbel⟩ := hrel
        clear KR KM KB
        have hgr := hown.lt.1
        have hsz := hbel.size
        have hglt := hown.lt.2
        by_cases hqn : q < l'
        · have hqi : (q : Int) < (l' : Int) := by omega
          obtain ⟨b2, off2, ai, ci, eb, hc, hr⟩ := KH3.out.below hbel k hlt
          cases eb
          rw [KL.out k hlt] at hc hr
          obtain ⟨b3, off3, at3, ct3, eb3, hct, hrt⟩ := KMT.out.below hbel q hqn
          cases eb3
          rw [Nat.zero_add] at hct
          have hdv := dotGo_mp F H k q n' (zI (Z k) n') (zI (fun j => ((H j q : Nat) : Int)) n') (fun t ht => by rw [zI_getD _ _ _ ht]; exact KV.out k t hlt ht) (fun t ht => by rw [zI_getD _ _ _ ht]) KBF.out KBH.out 0 (Nat.zero_le _)
          have hD := fun w h1 h2 => sDot_same ai at3 n' ci ct3 (zI (Z k) n') (zI (fun j => ((H j q : Nat) : Int)) n') w h1 h2 (by omega)
          rw [show n' - 0 = n' from rfl, show Gm.sm (fun t => Gp.m (F k t) (H t q)) 0 = 0 from rfl, KP.out] at hdv
          rw [hdv] at hD
          clear hdv
          have hcl := block_lt_of_cell hc
          have hctl := block_lt_of_cell hct
          have hcb : b1 < b0 := by omega
          have hctb : GT < b0 := by omega
          have hne1 : b1 ≠ gr := by omega
          have hne2 : GT ≠ gr := by omega
          have hbx : b0 ≤ wr.heap.size := by omega
          have hrd : IntsAt wr.drew ai n' (zI (Z k) n') := hr.below ⟨rfl, rfl, rfl, Nat.le_refl _, fun _ _ => rfl⟩
          have hrtd : IntsAt wr.drew at3 n' (zI (fun j => ((H j q : Nat) : Int)) n') := hrt.below ⟨rfl, rfl, rfl, Nat.le_refl _, fun _ _ => rfl⟩
          go_wp2_with fail
          go_region_held3 (fun w' => w'.cell? ⟨b1, off1 + k, none⟩ = some (.slice ai n' ci) ∧ w'.cell? ⟨GT, q, none⟩ = some (.slice at3 n' ct3)) (go_keep) ((first | (go_at_call 84; refine Calls.mono (hD wr.drew hrd hrtd) ?_; rintro e w5 ⟨rfl, hb5'⟩; have hb5 := below_of_drew hb5'; clear hb5'; have hs5 := hb5.size; have cc5 := (hb5.cell (p := ⟨b1, off1 + k, none⟩) hcl).trans hc; have cd5 := (hb5.cell (p := ⟨GT, q, none⟩) hctl).trans hct; have hba : Below w5.heap.size w5 (w5.alloc (.cells #[.int .i64 ((P k q : Nat) : Int)] 3)) := (Below.refl _ _).alloc (Nat.le_refl _) _; have ca5 := (hba.cell (p := ⟨b1, off1 + k, none⟩) (block_lt_of_cell cc5)).trans cc5; have cb5 := (hba.cell (p := ⟨GT, q, none⟩) (block_lt_of_cell cd5)).trans cd5; have hown5 := OwnR.below hown hb5) | (guard_hyp hown5; refine step_append_lies _ (by rfl) _ _ _ (by rfl) b0 3 i0 _ 1 8 Try.underlying31 hi hz0 hz1 hz2 rfl (by omega) (.slice (some ⟨gr, 0, none⟩) q capr) q _ (by rfl) (World.ownsRow.alloc hown5 _) ⟨w5.heap.size, 0, none⟩ 1 1 [.int .i64 ((P k q : Nat) : Int)] (by rfl) (by rfl) (World.news_of_block (cs := #[.int .i64 ((P k q : Nat) : Int)]) (t := 3) (fr := (0, 0)) (heap_alloc_new w5 _)) (by simp [Value.oneCell']) (by omega) (by unfold maxLen; omega) (by omega) (by simp; omega) (w5.heap.size + 1) (by simp) ?_; intro g2 cap3 w2 hown2 hgrow hat hltg; have ca2 := hgrow.cell (row := some gr) ca5 (fun e => absurd (Option.some.inj e) hne1); have cb2 := hgrow.cell (row := some gr) cb5 (fun e => absurd (Option.some.inj e) hne2))))
          all_goals
            have hsz5 : b0 ≤ w5.heap.size := by have := hb5.size; omega
            have HO : Hid (OwnR w2 b0 g2 (q + 1) cap3 (P k)) := OwnR.snoc hown2
            have HM : Hid (MatI w2 w3.heap.size b0 (some ⟨G, 0, none⟩) k cap A (fun _ => l') C (fun i j => ((P i j : Nat) : Int))) := MatI.rowed _ (hM.below hb5) hgr hgrow
            have hb' : Below w3.heap.size w3 w2 := ((below2 hbel hb5).alloc (Nat.le_trans hsz hb5.size) _).grown (show World.grownBy _ w2 (some gr) from hgrow) (by simp; omega) (fun j hj => by cases hj; omega)
            clear hown2 hgrow hat hltg hown hM hown5
            go_wp2
            go_roundw
            case rel => exact ⟨q + 1, g2, cap3, by omega, by go_num, rfl, HO.out, HM.out, hb'⟩
            case measure => simp [intOf] <;> omega

        · obtain rfl : l' = q := by omega
          have hqi : ¬ (l' : Int) < (l' : Int) := by omega

          go_wp2_with (at_builtin; refine wpList_append_lies _ (by rfl) _ _ 24 (by rfl) w3.heap.size 31 i1 (.slice none 0 0) 1 24 Try.underlying24 hj hy0 hy1 hy2 rfl (by decide) (.slice (some ⟨G, 0, none⟩) k cap) k _ (by rfl) (World.ownsRow.alloc hM.out _) ⟨wr.heap.size, 0, none⟩ 1 1 [.slice (some ⟨gr, 0, none⟩) l' capr] (by rfl) (by rfl) (World.news_of_block (cs := #[.slice (some ⟨gr, 0, none⟩) l' capr]) (t := 31) (fr := (0, 0)) (heap_alloc_new wr _)) (by simp [Value.oneCell']) (by omega) (by unfold maxLen; omega) (by omega) (by simp; omega) (wr.heap.size + 1) (by simp) ?_; intro g2 cap3 w2 hown2 hgrow hat hltg)
          obtain ⟨A', C', hP⟩ := MatI.pushed _ hM hsz0 hown hgrow hown2
          have HP : Hid (MatI w2 w3.heap.size w2.heap.size (some ⟨g2, 0, none⟩) (k + 1) cap3 A' (fun _ => l') C' (fun i j => ((P i j : Nat) : Int))) := hP
          have hb' : Below w3.heap.size w3 w2 := (hbel.alloc hsz _).grown (show World.grownBy _ w2 (some G) from hgrow) (by simp; omega) (fun j hj => by cases hj; exact hGl)
          clear hown2 hgrow hat hltg hown hM hP
          go_roundw
          case rel => exact ⟨k + 1, g2, cap3, A', C', by omega, by go_num, rfl, HP.out, hb'⟩
          case measure => simp [intOf] <;> omega
    · obtain rfl : k = n := by omega
      have KM : Hid _ := hM
      clear hM

      go_wp2
      go_ret2
      exact ⟨_, rfl, ResM.mk KM.out hsz3, below2 KB3.out hbel⟩
end Go.Proofs.Ytmggogdnfgkljaa

/- The model's rows picked out. Conditions: at most 2^20 rows, at most 2^20 numbers a row, at most 2^20 places. -/
namespace Go.Proofs.Ytmggogdnfgkljaa
open Go.ChangeShapes Go.WideShapes Go.ChangeAt Go.RowKit

set_option maxHeartbeats 4000000 in
theorem sPick_any (a : Option Addr) (n ca : Nat) (L : Nat → Nat) (Z : Nat → Nat → Int) (ra : Option Addr) (nr rc : Nat) (zs : List Int) (w : World) (h : MatAt w a n L Z) (hz : IntsAt w ra nr zs) (hL : ∀ i, i < n → L i ≤ 1048576) (hnr : nr ≤ 1048576) :
    Calls Try.prog 32 #[.slice a n ca, .slice ra nr rc] w fun e w' => ∃ v, e = .returned (.tuple #[v, .bool (pkOk n L Z zs)]) ∧ ResM w w' v (pkR n L Z zs) (L 0) (pkF (bZ n L Z) zs) ∧ Below w.heap.size w w' := by
  obtain ⟨i0, hi, hz0, hz1, hz2⟩ := info_parts Try.infoInt
  obtain ⟨i1, hj, hy0, hy1, hy2⟩ := info_parts Try.infoInts
  have hlen := hz.1
  have KO : Hid _ := sMatOk_any a n ca L Z w h hL
  by_cases ok : OkM n L Z
  case neg =>
    have hO := pkOk_no (Z := Z) (L := L) (n := n) (zs := zs) (fun hh => ok hh.1)
    have hR : pkR n L Z zs = 0 := by unfold pkR; rw [if_neg (by rw [hO]; simp)]
    rw [okM_no ok] at KO
    rw [hO, hR]
    clear hO hR ok h hz hL hi hz0 hz1 hz2 hj hy0 hy1 hy2
    go_enter Try.func32, Try.ntmps32
    go_wp2_with fail
    refine Calls.mono KO.out ?_
    rintro e w1 ⟨rfl, hb1⟩
    go_wp2
    go_ret2
    exact ⟨_, rfl, resLit0 _ _ hb1.size _ _, below2 hb1 ((Below.refl _ _).alloc (Nat.le_refl _) _)⟩
  rw [okM_yes ok] at KO
  by_cases hs : 1 ≤ nr ∧ nr ≤ 16
  case neg =>
    have hO := pkOk_no (Z := Z) (L := L) (n := n) (zs := zs) (fun hh => hs ⟨by have := hh.2.1; omega, by have := hh.2.2.1; omega⟩)
    have hR : pkR n L Z zs = 0 := by unfold pkR; rw [if_neg (by rw [hO]; simp)]
    have hin : inB (nr : Int) 1 16 = false := by unfold inB; simp; omega
    rw [hO, hR]
    clear hO hR ok h hz hL hi hz0 hz1 hz2 hj hy0 hy1 hy2 hs
    go_enter Try.func32, Try.ntmps32
    go_wp2_with fail
    refine Calls.mono KO.out ?_
    rintro e w1 ⟨rfl, hb1⟩
    go_wp2_with (go_at_call 75; refine (sIn_any _ _ _ _).mono ?_; rintro e w' ⟨rfl, hw⟩; obtain rfl := hw.symm)
    go_ret2
    exact ⟨_, rfl, resLit0 _ _ hb1.size _ _, below2 hb1 ((Below.refl _ _).alloc (Nat.le_refl _) _)⟩
  have hin : inB (nr : Int) 1 16 = true := by unfold inB; simp; omega
  have KV : Hid (∀ i j, i < n → j < L 0 → Z i j = ((bZ n L Z i j : Nat) : Int)) := fun i j hi hj => by
    rw [bZ_eq ok hi hj]
    obtain ⟨X, hX, e⟩ := isB_nat ((ok.2.2.2.2 i hi).2 j hj)
    unfold cZ
    rw [e]
    simp
  have KL : Hid (∀ i, i < n → L i = L 0) := fun i hi => (ok.2.2.2.2 i hi).1
  have hn1 : 1 ≤ n := ok.1
  have hn2 : n ≤ 16 := ok.2.1
  have hl1 : 1 ≤ L 0 := ok.2.2.1
  have hl2 : L 0 ≤ 16 := ok.2.2.2.1
  have KY : Hid ((∀ i, i < nr → 0 ≤ zs.getD i 0 ∧ zs.getD i 0 < (n : Int)) → pkOk n L Z zs = true ∧ pkR n L Z zs = nr) := fun hp => by
    have h1 := pkOk_yes (zs := zs) ⟨ok, by omega, by omega, fun i hi => hp i (by omega)⟩
    exact ⟨h1, by unfold pkR; rw [if_pos h1]; exact hlen⟩
  have KN : Hid (∀ i, i < nr → ¬ (0 ≤ zs.getD i 0 ∧ zs.getD i 0 < (n : Int)) → pkOk n L Z zs = false ∧ pkR n L Z zs = 0) := fun i hi hp => by
    have h1 := pkOk_no (Z := Z) (L := L) (n := n) (zs := zs) (fun hh => hp (hh.2.2.2 i (by omega)))
    exact ⟨h1, by unfold pkR; rw [if_neg (by rw [h1]; simp)]⟩
  generalize pkOk n L Z zs = okf at KY KN
  generalize pkR n L Z zs = R at KY KN
  generalize bZ n L Z = B at KV
  obtain ⟨l, hl⟩ : ∃ l, L 0 = l := ⟨_, rfl⟩
  rw [hl] at KV KL hl1 hl2 ⊢
  obtain ⟨P, hP⟩ : ∃ P, pkF B zs = P := ⟨_, rfl⟩
  have KP : Hid (∀ i j, P i j = B (zs.getD i 0).toNat j) := fun i j => by rw [← hP]; rfl
  rw [hP]
  have KH : Hid (MatAt w a n L Z) := h
  have KZ : Hid (IntsAt w ra nr zs) := hz
  clear h hz hL ok hl hP hs
  go_enter Try.func32, Try.ntmps32
  go_wp2_with fail
  refine Calls.mono KO.out ?_
  rintro e w1 ⟨rfl, hb1⟩
  go_wp2_with (go_at_call 75; refine (sIn_any _ _ _ _).mono ?_; rintro e w' ⟨rfl, hw⟩; obtain rfl := hw.symm)
  have hsz1 := hb1.size
  have H0 : Hid (MatI (w1.alloc (.cells #[] 31)) w1.heap.size (w1.alloc (.cells #[] 31)).heap.size (some ⟨w1.heap.size, 0, none⟩) 0 0 (fun _ => none) (fun _ => l) (fun _ => 0) (fun i j => ((P i j : Nat) : Int))) := litM w1 _ _ _ _
  have KB0 : Hid (Below w1.heap.size w1 (w1.alloc (.cells #[] 31))) := (Below.refl _ _).alloc (Nat.le_refl _) _
  have KH1 : Hid (MatAt w1 a n L Z) := KH.out.below hb1
  have KZ1 : Hid (IntsAt w1 ra nr zs) := KZ.out.below hb1
  clear KH KZ KO hin
  go_loopw [6, 7] (fun v i wr => ∃ k G cap A C, k ≤ nr ∧ i = .int .i64 ((k : Nat) : Int) ∧ v = .slice (some ⟨G, 0, none⟩) k cap ∧ Hid (∀ i, i < k → 0 ≤ zs.getD i 0 ∧ zs.getD i 0 < (n : Int)) ∧ MatI wr w1.heap.size wr.heap.size (some ⟨G, 0, none⟩) k cap A (fun _ => l) C (fun i j => ((P i j : Nat) : Int)) ∧ Below w1.heap.size w1 wr) (fun _ i _ => nr - (intOf i).toNat)
  case atStart => exact ⟨0, _, _, _, _, Nat.zero_le _, rfl, rfl, fun i hi => absurd hi (Nat.not_lt_zero _), H0.out, KB0.out⟩
  case round =>
    obtain ⟨k, G, cap, A, C, hk, rfl, rfl, HPl, hM, hbel⟩ := hrel
    clear H0 KB0
    by_cases hlt : k < nr
    · have hki : (k : Int) < (nr : Int) := by omega
      have hsz := hbel.size
      obtain ⟨b2, off2, rfl, hcz⟩ := (KZ1.out.below hbel).2 k hlt
      by_cases hx : 0 ≤ zs.getD k 0 ∧ zs.getD k 0 < (n : Int)
      · obtain ⟨x, hxe⟩ : ∃ x : Nat, zs.getD k 0 = (x : Int) := ⟨(zs.getD k 0).toNat, by omega⟩
        have HPl2 : Hid (∀ i, i < k + 1 → 0 ≤ zs.getD i 0 ∧ zs.getD i 0 < (n : Int)) := fun i hi => by
          by_cases e : i = k
          · subst e; exact hx
          · exact HPl.out i (by omega)
        have HPx : Hid (∀ j, P k j = B x j) := fun j => by rw [KP.out, hxe]; simp
        rw [hxe] at hcz hx
        have hxn : x < n := by omega
        have hxi : (x : Int) < (n : Int) := by omega
        have hwr : IntKind.i64.wrap ((n : Int) - 1) = (n : Int) - 1 := by rw [IntKind.wrap_i64]; omega
        have hin2 : inB (x : Int) 0 ((n : Int) - 1) = true := by unfold inB; simp; omega
        obtain ⟨b3, off3, ai, ci, rfl, hc, hr⟩ := KH1.out.below hbel x hxn
        rw [KL.out x hxn] at hc hr
        obtain ⟨b4, off4, rfl, hcell⟩ := hr.some (by omega)
        have hnews : ∀ j u, ((eI (P k) l).map (Value.int .i64))[j]? = some u → wr.cell? ((⟨b4, off4, none⟩ : Addr).add j) = some u := fun j u hu => by
          have hjl : j < l := by
            by_cases hh : j < l
            · exact hh
            · rw [List.getElem?_eq_none (by simp [eI_len]; omega)] at hu; cases hu
          have ea : (⟨b4, off4, none⟩ : Addr).add j = ⟨b4, off4 + j, none⟩ := by unfold Addr.add; split <;> simp_all
          rw [ea, hcell j hjl, zI_getD _ _ _ hjl, KV.out x j hxn hjl, ← HPx.out j]
          simpa [eI, hjl] using hu
        have hba : Below wr.heap.size wr (wr.alloc (.cells #[] 3)) := (Below.refl _ _).alloc (Nat.le_refl _) _
        have hcz2 := (hba.cell (p := ⟨b2, off2 + k, none⟩) (block_lt_of_cell hcz)).trans hcz
        have hc2 := (hba.cell (p := ⟨b3, off3 + x, none⟩) (block_lt_of_cell hc)).trans hc
        have hcl := fun j u hu => block_lt_of_cell (hnews j u hu)
        have KW : Hid (∀ j u, ((eI (P k) l).map (Value.int .i64))[j]? = some u → (wr.alloc (.cells #[] 3)).cell? ((⟨b4, off4, none⟩ : Addr).add j) = some u) := fun j u hu => (hba.cell (p := (⟨b4, off4, none⟩ : Addr).add j) (hcl j u hu)).trans (hnews j u hu)
        have KM : Hid (MatI wr w1.heap.size wr.heap.size (some ⟨G, 0, none⟩) k cap A (fun _ => l) C (fun i j => ((P i j : Nat) : Int))) := hM
        have KR : Hid (OwnR (wr.alloc (.cells #[] 3)) wr.heap.size wr.heap.size 0 0 (P k)) := lit0 wr (P k)
        have KBe : Hid (Below w1.heap.size w1 wr) := hbel
        have hlen2 : ((eI (P k) l).map (Value.int .i64)).length = l * 1 := by simp [eI_len]
        have hGl := hM.olt.1
        obtain ⟨news, hnw⟩ : ∃ news, (eI (P k) l).map (Value.int .i64) = news := ⟨_, rfl⟩
        have KNW : Hid ((eI (P k) l).map (Value.int .i64) = news) := hnw
        have hone : ∀ u ∈ news, u.oneCell' = true := by rw [← hnw]; intro u hu; simp at hu; obtain ⟨y, _, rfl⟩ := hu; rfl
        have KONE : Hid (∀ u ∈ news, u.oneCell' = true) := hone
        rw [hnw] at KW hlen2
        clear hr hcell hnews hcl hM hba hnw hone hbel
        go_wp2_with (first | (go_at_call 75; refine (sIn_any _ _ _ _).mono ?_; rintro e w' ⟨rfl, hw⟩; obtain rfl := hw.symm; clear hw) | (guard_hyp KR; at_builtin; refine wpList_append_lies _ (by rfl) _ _ 31 (by rfl) wr.heap.size 3 i0 (.int .i64 0) 1 8 Try.underlying31 hi hz0 hz1 hz2 rfl (by decide) (.slice (some ⟨wr.heap.size, 0, none⟩) 0 0) 0 _ (by rfl) KR.out ⟨b4, off4, none⟩ l ci news (by rfl) hlen2 KW.out KONE.out (by omega) (by unfold maxLen; omega) (by omega) (by simp) (wr.heap.size + 1) (by simp) ?_; intro g2 cap3 w2 hown2 hgrow hat hltg; have KO2 : Hid (OwnR w2 wr.heap.size g2 l cap3 (P k)) := (by rw [Nat.zero_add] at hown2; rw [← KNW.out] at hown2; exact hown2); have hM2 : MatI w2 w1.heap.size wr.heap.size (some ⟨G, 0, none⟩) k cap A (fun _ => l) C (fun i j => ((P i j : Nat) : Int)) := MatI.rowed _ KM.out (Nat.le_refl _) hgrow; have KB2 : Hid (Below w1.heap.size w1 w2) := (KBe.out.alloc hsz _).grown (show World.grownBy _ w2 (some wr.heap.size) from hgrow) (by simp; omega) (fun j hj => by cases hj; exact hsz); have hsz2 : wr.heap.size ≤ w2.heap.size := (by have := hgrow.size; simp at this; omega); clear KR KW hown2 hgrow hat hltg KM KBe) | (guard_hyp hM2; at_builtin; refine wpList_append_lies _ (by rfl) _ _ 24 (by rfl) w1.heap.size 31 i1 (.slice none 0 0) 1 24 Try.underlying24 hj hy0 hy1 hy2 rfl (by decide) (.slice (some ⟨G, 0, none⟩) k cap) k _ (by rfl) (World.ownsRow.alloc hM2.out _) ⟨w2.heap.size, 0, none⟩ 1 1 [.slice (some ⟨g2, 0, none⟩) l cap3] (by rfl) (by rfl) (World.news_of_block (cs := #[.slice (some ⟨g2, 0, none⟩) l cap3]) (t := 31) (fr := (0, 0)) (heap_alloc_new w2 _)) (by simp [Value.oneCell']) (by omega) (by unfold maxLen; omega) (by omega) (by simp; omega) (w2.heap.size + 1) (by simp) ?_; intro g4 cap4 w4 hown4 hgrow4 hat4 hltg4))
        obtain ⟨A', C', hP⟩ := MatI.pushed _ hM2 hsz KO2.out hgrow4 hown4
        have HP : Hid (MatI w4 w1.heap.size w4.heap.size (some ⟨g4, 0, none⟩) (k + 1) cap4 A' (fun _ => l) C' (fun i j => ((P i j : Nat) : Int))) := hP
        have hb' : Below w1.heap.size w1 w4 := (KB2.out.alloc (Nat.le_trans hsz hsz2) _).grown (show World.grownBy _ w4 (some G) from hgrow4) (by simp; omega) (fun j hj => by cases hj; exact hGl)
        clear hown4 hgrow4 hat4 hltg4 hM2 hP
        go_roundw
        case rel => exact ⟨k + 1, g4, cap4, A', C', by omega, by go_num, rfl, HPl2, HP.out, hb'⟩
        case measure => simp [intOf] <;> omega
      · have HN := KN.out k hlt hx
        obtain ⟨rfl, rfl⟩ := HN
        have hwr : IntKind.i64.wrap ((n : Int) - 1) = (n : Int) - 1 := by rw [IntKind.wrap_i64]; omega
        generalize zs.getD k 0 = x at hcz hx
        have hin2 : inB x 0 ((n : Int) - 1) = false := by unfold inB; simp; omega
        clear hM hx
        go_wp2_with (go_at_call 75; refine (sIn_any _ _ _ _).mono ?_; rintro e w' ⟨rfl, hw⟩; obtain rfl := hw.symm)
        go_ret2
        exact ⟨_, rfl, resLit0 _ _ (Nat.le_trans hsz1 hsz) _ _, below2 (below2 hb1 hbel) ((Below.refl _ _).alloc (Nat.le_refl _) _)⟩
    · obtain rfl : k = nr := by omega
      obtain ⟨rfl, rfl⟩ := KY.out HPl.out
      have KM : Hid _ := hM
      clear hM
      go_wp2
      go_ret2
      exact ⟨_, rfl, ResM.mk KM.out hsz1, below2 hb1 hbel⟩
end Go.Proofs.Ytmggogdnfgkljaa

/- Matrices in memory, the second part: a row that has grown is put in its place again. Lemmas alone; conditions stand at each. -/
namespace Go.Proofs.Ytmggogdnfgkljaa
open Go.ChangeShapes Go.WideShapes Go.ChangeAt Go.RowKit
section
variable {k : IntKind} {T TT : Nat} {w w' : World} {B E : Nat} {n cap : Nat} {A : Nat → Option Addr} {L C : Nat → Nat} {Z : Nat → Nat → Int}
theorem MatZ.grew (hT : T ≠ TT) {G g0 g i l c E' : Nat} {z : Nat → Int} (h : MatZ k T TT w B E (some ⟨G, 0, none⟩) n cap A L C Z) (hi : i < n) (hA : A i = some ⟨g0, 0, none⟩) (hg : w.grownBy w' (some g0))
    (hrow : w'.ownsRow B T 1 (.slice (some ⟨g, 0, none⟩) l c) l ((zI z l).map (Value.int k))) (hat : g = g0 ∨ w.heap.size ≤ g) (hE : E ≤ E') (hE' : g < E') :
    w'.cell? ⟨G, i, none⟩ = some (.slice (A i) (L i) (C i)) ∧ w'.frozen? ⟨G, i, none⟩ = false ∧
    MatZ k T TT (w'.setCell ⟨G, i, none⟩ (.slice (some ⟨g, 0, none⟩) l c)) B E' (some ⟨G, 0, none⟩) n cap (fun j => if j = i then some ⟨g, 0, none⟩ else A j) (fun j => if j = i then l else L j) (fun j => if j = i then c else C j) (fun j => if j = i then z else Z j) ∧ w'.grownBy (w'.setCell ⟨G, i, none⟩ (.slice (some ⟨g, 0, none⟩) l c)) (some G) := by
  have hgs := grown_set w' G i (.slice (some ⟨g, 0, none⟩) l c)
  have ho := own_kept h.out hg (fun x e => by cases e; exact (h.off hT hi hA).symm)
  have hgG : g ≠ G := by
    intro e
    subst e
    rcases own_shape hrow with ⟨h', _⟩ | ⟨g1, c1, e1, _, hg1, _⟩
    · cases h'
    · rcases own_shape ho with ⟨h', _⟩ | ⟨g2, c2, e2, _, hg2, _⟩
      · cases h'
      · cases e1
        cases e2
        rw [hg1] at hg2
        cases hg2
        exact hT rfl
  refine ⟨?_, ho.frozenAt i, ⟨?_, fun x e => ?_, fun p hp => ?_, fun p hp x ex => ?_, fun p q hp hq hpq x y ex ey => ?_⟩, hgs⟩
  · rw [ho.cellAt i (by omega), hds_get _ _ _ _ _ hi]
  · have h1 := (ho.stored i (.slice (some ⟨g, 0, none⟩) l c)).1
    rw [hds_set] at h1
    exact h1
  · have := h.oE x e; omega
  · by_cases e : p = i
    · subst e
      simp only [if_pos]
      exact own_kept hrow hgs (fun x ex => by cases ex; exact hgG)
    · simp only [if_neg e]
      have h1 := own_kept (h.row p hp) hg (fun x ex => h.apart p i hp hi e x _ ex hA)
      refine own_kept h1 hgs (fun x ex => ?_)
      have hr := h.row p hp
      rw [ex] at hr
      rcases own_shape hr with ⟨h', _⟩ | ⟨g1, c1, e1, _⟩
      · cases h'
      · cases e1
        exact h.off hT hp ex
  · by_cases e : p = i
    · simp only [if_pos e] at ex; cases ex; exact hE'
    · simp only [if_neg e] at ex
      have := h.rE p hp x ex
      omega
  · have key : ∀ q, q < n → q ≠ i → ∀ y, A q = some y → y.block ≠ g := fun q hq hqi y ey => by
      rcases hat with rfl | hat
      · exact h.apart q i hq hi hqi y _ ey hA
      · have hr := h.row q hq
        rw [ey] at hr
        have := (hr.lt y.block rfl).2
        omega
    by_cases e : p = i
    · simp only [if_pos e] at ex
      cases ex
      simp only [if_neg (show q ≠ i by omega)] at ey
      exact (key q hq (by omega) y ey).symm
    · simp only [if_neg e] at ex
      by_cases e2 : q = i
      · simp only [if_pos e2] at ey
        cases ey
        exact key p hp e x ex
      · simp only [if_neg e2] at ey
        exact h.apart p q hp hq hpq x y ex ey
end
theorem news_below {w w' : World} {ad : Addr} {news : List Value} (h : ∀ j u, news[j]? = some u → w.cell? (ad.add j) = some u) (hb : Below w.heap.size w w') : ∀ j u, news[j]? = some u → w'.cell? (ad.add j) = some u := fun j u hu =>
  (hb.cell (p := ad.add j) (block_lt_of_cell (h j u hu))).trans (h j u hu)
theorem own_zI {w : World} {B T l : Nat} {v : Value} {xs : List Int} (h : w.ownsRow B T 1 v l (xs.map (Value.int .i64))) : w.ownsRow B T 1 v l ((zI (fun j => xs.getD j 0) l).map (Value.int .i64)) := by
  have hlen : xs.length = l := by simpa using h.1
  have e : zI (fun j => xs.getD j 0) l = xs := by rw [← hlen]; exact zI_of xs
  rw [e]
  exact h
end Go.Proofs.Ytmggogdnfgkljaa
