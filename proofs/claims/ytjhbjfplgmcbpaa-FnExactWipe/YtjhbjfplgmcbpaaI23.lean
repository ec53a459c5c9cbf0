/- Marks over lists of numbers and texts, with wide bounds. Conditions: lists of at most 2^20. -/
import Derived.Test.YtjhbjfplgmcbpaaI16
import Derived.Test.YtjhbjfplgmcbpaaI21
import Derived.Test.YtjhbjfplgmcbpaaI9
namespace Go.Proofs.Ytjhbjfplgmcbpaa
set_option maxRecDepth 2000
open Go.ChangeShapes Go.WideShapes Go.ChangeAt Go.RowKit

set_option maxHeartbeats 1000000 in
theorem mark2_any (B E : Nat) (a : Option Addr) (n cap k : Nat) (zs : List Int) (w : World) (h : RowI w B E a n cap zs) (hn : n ≤ 1048576) (hk : k ≤ 50000000) :
    Calls Try.prog 27 #[.slice a n cap, .int .i64 (k : Int)] w fun e w' => e = .returned (.int .i64 ((k + n : Nat) : Int)) ∧ RowI w' B E a n cap (marks k n) ∧ Turned w w' B E := by
  obtain ⟨ho, hl, hcap, hb⟩ := h
  rcases ho.2 with ⟨e, hz⟩ | ⟨g, cap', cur, e, hB, hg, _⟩
  · cases e
    rw [hl] at *
    clear hl
    have HM : Hid (RowI w B E none 0 0 (marks k 0)) := ⟨World.ownsRow_nil w _ _ _, rfl, Nat.le_refl _, fun k hk => by cases hk⟩
    have HT : Hid (Turned w w B E) := ⟨none, World.grownBy.refl _ _, fun g hg => by cases hg⟩
    rw [hz]
    clear ho hb hz hn hcap
    go_enter Try.func27, Try.ntmps27
    go_wp2
    go_loopw [1, 5] (fun p i wr => p = .int .i64 (k : Int) ∧ i = .int .i64 0 ∧ wr = w) (fun _ _ _ => 0)
    case atStart => exact ⟨rfl, rfl, rfl⟩
    case round =>
      obtain ⟨rfl, rfl, rfl⟩ := hrel
      go_wp2
      go_ret
      exact ⟨rfl, HM.out, HT.out⟩
  · have hca : cap = cap' ∧ a = some ⟨g, 0, none⟩ := by cases e; exact ⟨rfl, rfl⟩
    obtain ⟨rfl, rfl⟩ := hca
    have hgE := hb g rfl
    have HL : Hid (zs.length = n) := hl.symm
    have ho' : w.ownsRow B 3 1 (.slice (some ⟨g, 0, none⟩) n cap) n ((marks k 0 ++ zs.drop 0).map (Value.int .i64)) := by
      have h2 := ho
      unfold OwnI at h2
      rw [← hl] at h2
      exact h2
    have H0 : Hid _ := ho'
    clear ho ho' hg e hl hb
    go_enter Try.func27, Try.ntmps27
    go_wp2
    go_loopw [1, 5] (fun p i wr => ∃ c : Nat, c ≤ n ∧ p = .int .i64 ((k + c : Nat) : Int) ∧ i = .int .i64 c ∧ wr.ownsRow B 3 1 (.slice (some ⟨g, 0, none⟩) n cap) n ((marks k c ++ zs.drop c).map (Value.int .i64)) ∧ w.grownBy wr (some g)) (fun _ i _ => n - (intOf i).toNat)
    case atStart => exact ⟨0, Nat.zero_le _, rfl, rfl, H0.out, World.grownBy.refl _ _⟩
    case round =>
      obtain ⟨c, hc, rfl, rfl, hown, hgr⟩ := hrel
      clear H0
      by_cases hlt : c < n
      · have hltI : (c : Int) < (n : Int) := by omega
        obtain ⟨old, hold⟩ : ∃ v, wr.cell? ⟨g, c, none⟩ = some v := by
          rw [hown.cellAt c (by omega)]
          exact ⟨_, List.getElem?_eq_getElem (by rw [hown.1]; omega)⟩
        have hfr := hown.frozenAt c
        have hst := hown.stored c (.int .i64 ((k + c : Nat) : Int))
        rw [marks_step k n c zs HL.out hlt] at hst
        have hg2 : wr.grownBy (wr.setCell ⟨g, c, none⟩ (.int .i64 ((k + c : Nat) : Int))) (some g) := ⟨rfl, rfl, rfl, by simp, fun j _ hj => heap_setCell_other wr ⟨g, c, none⟩ j _ (fun e => hj (by simp [e]))⟩
        have HO : Hid _ := And.intro hst.1 (grownBy_trans hgr hg2)
        clear hst hg2 hown hgr
        obtain ⟨kc, hkc⟩ : ∃ kc, k + c = kc := ⟨_, rfl⟩
        rw [hkc] at HO
        rw [hkc]
        go_wp2
        go_roundw
        case rel => exact ⟨c + 1, by omega, by rw [show k + (c + 1) = kc + 1 by omega]; go_num, by go_num, HO.out.1, HO.out.2⟩
        case measure => simp [intOf] <;> omega
      · obtain rfl : c = n := by omega
        have HR : Hid (RowI wr B E (some ⟨g, 0, none⟩) c cap (marks k c)) := by
          have e : marks k c ++ zs.drop c = marks k c := by rw [List.drop_eq_nil_of_le (by rw [HL.out]; omega), List.append_nil]
          rw [e] at hown
          have hm : (marks k c).length = c := eI_len _ _
          refine ⟨?_, hm.symm, hcap, fun j hj => by cases hj; exact ⟨hB, hgE.2⟩⟩
          unfold OwnI
          rw [hm]
          exact hown
        have HT : Hid (Turned w wr B E) := ⟨some g, hgr, fun j hj => by cases hj; exact ⟨hB, hgE.2⟩⟩
        clear hown hgr
        go_wp2
        go_ret
        exact ⟨rfl, HR.out, HT.out⟩

set_option maxHeartbeats 1000000 in
theorem heldT2_any (a : Option Addr) (n cap k q : Nat) (w : World) (h : TxtAt w a n (fun i => mtxt (k + i))) (hn : n ≤ 1048576) (hk : k ≤ 50000000) (hq : k + n = q) :
    Calls Try.prog 51 #[.slice a n cap, .int .i64 (k : Int)] w fun e w' => e = .returned (.int .i64 (q : Int)) ∧ Below w.heap.size w w' := by
  subst hq
  have KH : Hid (TxtAt w a n (fun i => mtxt (k + i))) := h
  clear h
  go_enter Try.func51, Try.ntmps51
  go_wp2
  go_loopw [1, 5] (fun p i wr => ∃ c x : Nat, c ≤ n ∧ k + c = x ∧ p = .int .i64 (x : Int) ∧ i = .int .i64 (c : Int) ∧ Below w.heap.size w wr) (fun _ i _ => n - (intOf i).toNat)
  case atStart => exact ⟨0, k, Nat.zero_le _, rfl, rfl, rfl, Below.refl _ _⟩
  case round =>
    obtain ⟨c, x, hc, hx, rfl, rfl, hbel⟩ := hrel
    by_cases hlt : c < n
    · have hlti : (c : Int) < (n : Int) := by omega
      obtain ⟨b, off, rfl, hcell⟩ := KH.out.below hbel c hlt
      simp only [hx] at hcell
      have KC : Hid (∀ w, Calls Try.prog 48 #[.int .i64 (x : Int)] w fun e w' => e = .returned (.string (mtxt x)) ∧ Below w.heap.size w w') := fun w => markText_any x w (by omega)
      generalize mtxt x = mx at hcell KC
      have hbq := ba_beq mx
      have hlc := block_lt_of_cell hcell
      go_wp2_with fail
      go_region_held3 (fun w' => w'.cell? ⟨b, off + c, none⟩ = some (.string mx)) (go_keep) ((go_at_call 48; refine Calls.mono (KC.out _) ?_; rintro e w5 ⟨rfl, hb5'⟩; have hb5 := below_of_drew hb5'; clear hb5'; have h50 := (hb5.cell (p := ⟨b, off + c, none⟩) hlc).trans hcell))
      all_goals
        have HB : Hid (Below w.heap.size w w5) := below2 hbel hb5
        clear hb5 h50
        go_wp2
        go_roundw
        case rel => exact ⟨c + 1, x + 1, by omega, by omega, by go_num, by go_num, HB.out⟩
        case measure => simp [intOf] <;> omega
    · obtain rfl : c = n := by omega
      subst hx
      go_wp2
      go_ret
      exact ⟨rfl, hbel⟩
theorem marks_length (k n : Nat) : (marks k n).length = n := by simp [marks, eI]
theorem Trn.ofTurned {w w' : World} {B E : Nat} {F : Nat → Prop} (h : Turned w w' B E) (hF : ∀ g, B ≤ g → g < E → F g) : Trn w w' F := by
  obtain ⟨r, hg, hr⟩ := h
  exact ⟨hg.os, hg.tape, hg.output, hg.size, fun j hj hn => hg.block j hj (fun e => hn (hF j (hr j e.symm).1 (hr j e.symm).2))⟩
/-- Marks over a list of numbers, by data. -/
theorem markD_ints (B : Nat) (v : Value) (zs : List Int) (k q : Nat) (F : Nat → Prop) (w : World) (h : Ow w B (inD zs) v F) (hn : zs.length ≤ 1048576) (hk : k ≤ 50000000) (hq : k + zs.length = q) :
    Calls Try.prog 27 #[v, .int .i64 (k : Int)] w fun e w' => e = .returned (.int .i64 (q : Int)) ∧ Ow w' B (inD (marks k zs.length)) v F ∧ Trn w w' F := by
  obtain ⟨a, cap, rfl, ho, hF⟩ := ints_ow h
  subst hq
  have back : ∀ {w' : World} {C : Nat}, OwnI w' C (.slice a zs.length cap) (marks k zs.length) → B ≤ C → Ow w' B (inD (marks k zs.length)) (.slice a zs.length cap) F := fun {w'} {C} h' hC => by
    have h2 : w'.ownsRow C 3 1 (.slice a (marks k zs.length).length cap) (marks k zs.length).length ((marks k zs.length).map (Value.int .i64)) := by
      have := h'
      unfold OwnI at this
      rw [marks_length] at this ⊢
      exact this
    have := ow_ints (own_base h2 hC) hF
    rw [marks_length] at this
    exact this
  rcases ho.2 with ⟨h0, hz⟩ | ⟨g, cap', cur, e, hB, hg, hcap, hr⟩
  · have ea : a = none ∧ cap = 0 := by
      simp only [Value.slice.injEq] at h0
      exact ⟨h0.1, h0.2.2⟩
    obtain ⟨rfl, rfl⟩ := ea
    refine (mark2_any B B none zs.length 0 k zs w ⟨ho, rfl, by omega, fun x hx => by cases hx⟩ hn hk).mono ?_
    rintro e w' ⟨rfl, hR, hT⟩
    exact ⟨rfl, back hR.1 (Nat.le_refl _), Trn.ofTurned hT (fun g h1 h2 => absurd h1 (by omega))⟩
  · have ea : a = some ⟨g, 0, none⟩ ∧ cap = cap' := by
      simp only [Value.slice.injEq] at e
      exact ⟨e.1, e.2.2⟩
    obtain ⟨rfl, rfl⟩ := ea
    have hO : OwnI w g (.slice (some ⟨g, 0, none⟩) zs.length cap) zs := ⟨ho.1, .inr ⟨g, cap, cur, e, Nat.le_refl _, hg, hcap, hr⟩⟩
    refine (mark2_any g (g + 1) (some ⟨g, 0, none⟩) zs.length cap k zs w ⟨hO, rfl, hcap, fun x hx => by cases hx; exact ⟨Nat.le_refl _, Nat.lt_succ_self _⟩⟩ hn hk).mono ?_
    rintro e w' ⟨rfl, hR, hT⟩
    exact ⟨rfl, back hR.1 hB, Trn.ofTurned hT (fun x h1 h2 => (show x = g by omega) ▸ hF _ rfl)⟩
end Go.Proofs.Ytjhbjfplgmcbpaa
