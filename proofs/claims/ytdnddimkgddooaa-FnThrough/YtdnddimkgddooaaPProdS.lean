/- The model's product of two polynomials. Conditions: byte numbers, lists of at most 1000. -/
import Derived.Test.YtdnddimkgddooaaPSpec
namespace Go.Proofs.Ytdnddimkgddooaa
open Go.ChangeShapes Go.WideShapes Go.ChangeAt Go.RowKit

set_option maxHeartbeats 1000000 in
theorem sProd_any (a b : Option Addr) (n m ca cb : Nat) (f g : Nat → Nat) (w : World) (ha : IntsAt w a n (eI f n)) (hb : IntsAt w b m (eI g m)) (hf : Gp.Pol f n) (hg : Gp.Pol g m) (hn : n ≤ 1000) (hm : m ≤ 1000) :
    Calls Try.prog 42 #[.slice a n ca, .slice b m cb] w fun e w' => ∃ v, e = .returned v ∧ OwnI w' w.heap.size v (eI (Gp.cv f g n) (Gp.tl (Gp.cv f g n) (n + m))) ∧ Below w.heap.size w w' := by
  obtain ⟨i0, hi, hz0, hz1, hz2⟩ := info_parts Try.infoInt
  have H0 : Hid _ := lit0 w (fun _ => 0)
  obtain ⟨N, hN⟩ : ∃ N, n + m = N := ⟨_, rfl⟩
  rw [hN]
  have hNI : (n : Int) + (m : Int) = (N : Int) := by omega
  have hNb : N ≤ 2000 := by omega
  go_enter Try.func42, Try.ntmps42
  go_wp2
  go_loopw [5, 6] (fun v i wr => ∃ k gg cap2 : Nat, k ≤ N ∧ i = .int .i64 k ∧ v = .slice (some ⟨gg, 0, none⟩) k cap2 ∧ OwnR wr w.heap.size gg k cap2 (fun _ => 0) ∧ Below w.heap.size w wr) (fun _ i _ => N - (intOf i).toNat)
  case atStart => exact ⟨0, _, _, Nat.zero_le _, rfl, rfl, H0.out, (Below.refl _ _).alloc (Nat.le_refl _) _⟩
  case round =>
    obtain ⟨k, gg, cap2, hk, rfl, rfl, hown, hbel⟩ := hrel
    clear H0
    have hgg := hown.lt.1
    have hsz := hbel.size
    by_cases h1 : k < N
    · have h1I : (k : Int) < (N : Int) := by omega
      have hd : Hid True := trivial
      · clear ha hb hf hg
        go_wp2_with (at_builtin; refine wpList_append_lies _ (by rfl) _ _ 24 (by rfl) w.heap.size 3 i0 (.int .i64 0) 1 8 Try.underlying24 hi hz0 hz1 hz2 rfl (by decide) (.slice (some ⟨gg, 0, none⟩) k cap2) k _ (by rfl) (World.ownsRow.alloc hown _) ⟨wr.heap.size, 0, none⟩ 1 1 [.int .i64 0] (by rfl) (by rfl) (World.news_of_block (cs := #[.int .i64 0]) (t := 3) (fr := (0, 0)) (heap_alloc_new wr _)) (by simp [Value.oneCell']) (by omega) (by unfold maxLen; omega) (by omega) (by simp; omega) (wr.heap.size + 1) (by simp) ?_; intro g2 cap3 w2 hown2 hgrow hat hltg)
        have HO : Hid (OwnR w2 w.heap.size g2 (k + 1) cap3 (fun _ => 0)) := OwnR.snoc (by exact hown2)
        have hb' : Below w.heap.size w w2 := (hbel.alloc hsz _).grown (show World.grownBy _ w2 (some gg) from hgrow) (by simp; omega) (fun j hj => by cases hj; exact hgg)
        clear hown2 hgrow hat hltg hown
        go_roundw
        case rel => exact ⟨k + 1, g2, cap3, by omega, by go_num, rfl, HO.out, hb'⟩
        case measure => simp [intOf] <;> omega
    · have h1I : ¬ (k : Int) < (N : Int) := by omega
      obtain rfl : k = N := by omega
      have o0 : OwnR wr w.heap.size gg k cap2 (Gp.cv f g 0) := hown
      have H0 : Hid _ := And.intro o0 hbel
      clear hown o0 hbel
      go_wp2
      go_loopw [7] (fun i wr => ∃ c : Nat, c ≤ n ∧ i = .int .i64 c ∧ OwnR wr w.heap.size gg k cap2 (Gp.cv f g c) ∧ Below w.heap.size w wr) (fun i _ => n - (intOf i).toNat)
      case atStart => exact ⟨0, Nat.zero_le _, rfl, H0.out.1, H0.out.2⟩
      case round =>
        obtain ⟨c, hc, rfl, hown, hbel⟩ := hrel
        clear H0
        by_cases h2 : c < n
        · have h2I : (c : Int) < (n : Int) := by omega
          have H1 : Hid _ := And.intro (OwnR.congr (h := onTop (Gp.cv f g c) g (f c) c 0) hown (fun i _ => by unfold onTop; rw [if_neg (by omega)])) hbel
          have HE : Hid (∀ i, onTop (Gp.cv f g c) g (f c) c m i = Gp.cv f g (c + 1) i) := fun i => by rw [onTop_sh hg.2]; rfl
          clear hown hbel
          go_wp2
          go_loopw [8] (fun i wr => ∃ d : Nat, d ≤ m ∧ i = .int .i64 d ∧ OwnR wr w.heap.size gg k cap2 (onTop (Gp.cv f g c) g (f c) c d) ∧ Below w.heap.size w wr) (fun i _ => m - (intOf i).toNat)
          case atStart => exact ⟨0, Nat.zero_le _, rfl, H1.out.1, H1.out.2⟩
          case round =>
            obtain ⟨d, hd, rfl, hown, hbel⟩ := hrel
            clear H1
            by_cases h3 : d < m
            · have h3I : (d : Int) < (m : Int) := by omega
              obtain ⟨b1, off1, rfl, hc1⟩ := intsE (ha.below hbel) h2
              obtain ⟨b2, off2, rfl, hc2⟩ := intsE (hb.below hbel) h3
              obtain ⟨j, hj⟩ : ∃ j, c + d = j := ⟨_, rfl⟩
              have hjn : j < k := by omega
              have hjnI : (j : Int) < (k : Int) := by omega
              have hj0 : (0 : Int) ≤ (j : Int) := by omega
              have hwr : IntKind.i64.wrap ((c : Int) + (d : Int)) = (j : Int) := by rw [IntKind.wrap_i64]; omega
              have hco := hown.cell (i := j) hjn
              have hsk : onTop (Gp.cv f g c) g (f c) c d j = Gp.cv f g c j := by unfold onTop; rw [if_neg (by omega)]
              rw [hsk] at hco
              have hcl := Gp.cv_lt f g c j
              have hfc := hf.1 c
              have hgd := hg.1 d
              have hml := Gf.mul_lt hfc hgd
              have hxr := xor_i64 (Gp.cv f g c j) (Gf.mul (f c) (g d)) (by omega) (by omega)
              have hfr := World.ownsRow.frozenAt hown j
              have HS : Hid _ := OwnR.set (k := j) (v := Gp.cv f g c j ^^^ Gf.mul (f c) (g d)) hown hjn
              have HT : Hid (∀ i, (if i = j then Gp.cv f g c j ^^^ Gf.mul (f c) (g d) else onTop (Gp.cv f g c) g (f c) c d i) = onTop (Gp.cv f g c) g (f c) c (d + 1) i) := fun i => by
                rw [Gf.mul_comm hfc hgd]
                exact onTop_step hgd hfc hj i
              have hgg2 := hown.lt.1
              have HB : Hid (Below w.heap.size w (wr.setCell ⟨gg, j, none⟩ (.int .i64 ((Gp.cv f g c j ^^^ Gf.mul (f c) (g d) : Nat) : Int)))) := hbel.setCell hgg2 _
              clear hown hsk hj ha hb hf hg HE hbel
              generalize Gp.cv f g c j = y at *
              generalize f c = x at *
              generalize g d = z at *
              go_wp2_with fail
              go_region_with ((go_at_call 40; refine (sMul_nat x z _ hfc hgd).mono ?_; rintro e w2 ⟨rfl, rfl⟩))
              all_goals
                go_wp2
                go_roundw
                case rel => exact ⟨d + 1, by omega, by go_num, World.ownsRow.drew (OwnR.congr HS.out.1 (fun i _ => HT.out i)), HB.out.drew⟩
                case measure => simp [intOf] <;> omega
            · obtain rfl : d = m := by omega
              have HO : Hid _ := And.intro (OwnR.congr (h := Gp.cv f g (c + 1)) hown (fun i _ => HE.out i)) hbel
              clear hown hbel HE
              go_wp2
              go_roundw
              case rel => exact ⟨c + 1, by omega, by go_num, HO.out.1, HO.out.2⟩
              case measure => simp [intOf] <;> omega
        · obtain rfl : c = n := by omega
          have hT := sTrim_any gg k cap2 (eI (Gp.cv f g c) k) wr hown.ints hown.cap (by omega)
          rw [trimI_eI] at hT
          have HT : Hid _ := hT
          clear hT ha hb hf hg hown
          have hsz := hbel.size
          go_wp2_with fail
          refine Calls.mono HT.out ?_
          rintro e w3 ⟨v, rfl, o3, b3⟩
          have HO : Hid _ := And.intro (OwnI.mono o3 hsz) (below2 hbel b3)
          clear o3 b3 HT
          go_wp2
          go_ret
          exact ⟨v, rfl, HO.out⟩
end Go.Proofs.Ytdnddimkgddooaa
