/- Marks over long lists of texts; a list of texts that came in. Conditions: at most 2^20 texts. -/
import Derived.Test.YtlnpjpdphhpomaaTMark
namespace Go.Proofs.Ytlnpjpdphhpomaa
set_option maxRecDepth 2000
open Go.ChangeShapes Go.WideShapes Go.ChangeAt Go.RowKit

/-- A list of texts that came in. -/
def IsTxt (w : World) (a : Option Addr) (n : Nat) (S : Nat → ByteArray) : Prop := TxtAt w a n S ∧ n ≤ maxLen ∧ ∀ i, i < n → (S i).size ≤ maxLen
/-- As the form reads it. -/
theorem isTxt_of {w : World} {a : Addr} {len cap m : Nat} {S : Nat → ByteArray} (hl : len ≤ cap) (hm : cap ≤ maxLen) (hlm : len ≤ m) (h : ∀ i, i < m → w.cell? (a.add i) = some (.string (S i)) ∧ (S i).size ≤ maxLen) : IsTxt w (some a) len S := by
  refine ⟨fun i hi => ?_, Nat.le_trans hl hm, fun i hi => (h i (by omega)).2⟩
  have h1 := (h i (by omega)).1
  obtain ⟨b, off, spot⟩ := a
  have hspot : spot = none := by
    have h0 := (h 0 (by omega)).1
    simpa [Addr.add] using World.cell?_spot h0
  subst hspot
  have ea : ∀ (b off i : Nat), (⟨b, off, none⟩ : Addr).add i = ⟨b, off + i, none⟩ := fun b off i => by unfold Addr.add; split <;> simp_all
  rw [ea] at h1
  exact ⟨b, off, rfl, h1⟩
/-- The same, known to lie ahead of block 's'. -/
def ArgT (w : World) (s : Nat) (a : Option Addr) (n : Nat) (S : Nat → ByteArray) : Prop := TxtAt w a n S ∧ (0 < n → ∀ b off, a = some ⟨b, off, none⟩ → b < s)
theorem TxtAt.arg {w : World} {a : Option Addr} {n : Nat} {S : Nat → ByteArray} (h : TxtAt w a n S) : ArgT w w.heap.size a n S := by
  refine ⟨h, fun hn b off e => ?_⟩
  obtain ⟨b', off', e', hc⟩ := h 0 hn
  rw [e] at e'
  cases e'
  exact block_lt_of_cell hc
theorem ArgT.below {w w' : World} {s : Nat} {a : Option Addr} {n : Nat} {S : Nat → ByteArray} (h : ArgT w s a n S) (hb : Below w.heap.size w w') : ArgT w' s a n S := ⟨h.1.below hb, h.2⟩
theorem ArgT.keep {w w' : World} {s : Nat} {a : Option Addr} {n : Nat} {S : Nat → ByteArray} (h : ArgT w s a n S) (hb : Below s w w') : ArgT w' s a n S :=
  ⟨fun i hi => by
    obtain ⟨b, off, e, hc⟩ := h.1 i hi
    exact ⟨b, off, e, (hb.cell (p := ⟨b, off + i, none⟩) (h.2 (by omega) b off e)).trans hc⟩, h.2⟩
set_option maxHeartbeats 1000000 in
theorem markT2_any (B E : Nat) (a : Option Addr) (n cap : Nat) (S : Nat → ByteArray) (k q : Nat) (w : World) (h : RowT w B E a n cap S) (hn : n ≤ 1048576) (hk : k ≤ 2000000) (hq : k + n = q) :
    Calls Try.prog 31 #[.slice a n cap, .int .i64 (k : Int)] w fun e w' => e = .returned (.int .i64 (q : Int)) ∧ RowT w' B E a n cap (fun i => mtxt (k + i)) ∧ TurnM w w' B E := by
  subst hq
  have K0 : Hid (RowT w B E a n cap (fun i => if i < 0 then mtxt (k + i) else S i)) := ⟨h.1.congr (fun i _ => by simp), h.2⟩
  clear h
  go_enter Try.func31, Try.ntmps31
  go_wp2
  go_loopw [1, 5] (fun p i wr => ∃ c x : Nat, c ≤ n ∧ k + c = x ∧ p = .int .i64 (x : Int) ∧ i = .int .i64 (c : Int) ∧ RowT wr B E a n cap (fun i => if i < c then mtxt (k + i) else S i) ∧ TurnM w wr B E) (fun _ i _ => n - (intOf i).toNat)
  case atStart => exact ⟨0, k, Nat.zero_le _, rfl, rfl, rfl, K0.out, TurnM.refl _ _ _⟩
  case round =>
    obtain ⟨c, x, hc, hx, rfl, rfl, hR, hT⟩ := hrel
    clear K0
    by_cases hlt : c < n
    · have hlti : (c : Int) < (n : Int) := by omega
      obtain ⟨g, rfl⟩ : ∃ g, a = some ⟨g, 0, none⟩ := by
        rcases own_shape hR.1 with ⟨_, h0, _⟩ | ⟨g, _, e, _⟩
        · omega
        · exact ⟨g, e⟩
      have hgB := hR.2 _ rfl
      have KR : Hid (RowT wr B E (some ⟨g, 0, none⟩) n cap (fun i => if i < c then mtxt (k + i) else S i)) := hR
      have KT : Hid (TurnM w wr B E) := hT
      clear hR hT
      go_wp2_with fail
      refine (markText_any x _ (by omega)).mono ?_
      rintro e w1 ⟨rfl, hb1⟩
      have hR1 := KR.out.below hb1
      obtain ⟨old, hold⟩ : ∃ v, w1.cell? ⟨g, c, none⟩ = some v := by
        rw [World.ownsRow.cellAt hR1.1 c (by omega)]
        exact ⟨_, sL_get _ _ _ hlt⟩
      have hfr := World.ownsRow.frozenAt hR1.1 c
      have hst := World.ownsRow.stored hR1.1 c (.string (mtxt x))
      rw [sL_set _ _ _ _ hlt] at hst
      have HO : Hid (RowT (w1.setCell ⟨g, c, none⟩ (.string (mtxt x))) B E (some ⟨g, 0, none⟩) n cap (fun i => if i < c + 1 then mtxt (k + i) else S i)) := ⟨OwnT.congr hst.1 (fun i _ => by
        by_cases e : i = c
        · subst e; simp [hx]
        · by_cases e2 : i < c
          · simp [e, e2, show i < c + 1 by omega]
          · simp [e, e2, show ¬ i < c + 1 by omega]), hR1.2⟩
      have HT : Hid (TurnM w (w1.setCell ⟨g, c, none⟩ (.string (mtxt x))) B E) := (KT.out.trans (TurnM.ofBelow B E hb1)).trans (TurnM.set w1 c _ hgB.1 hgB.2)
      generalize mtxt x = mx at HO HT
      clear hst hR1 KR KT
      go_wp2
      go_roundw
      case rel => exact ⟨c + 1, x + 1, by omega, by omega, by go_num, by go_num, HO.out, HT.out⟩
      case measure => simp [intOf] <;> omega
    · obtain rfl : c = n := by omega
      subst hx
      have HR : Hid (RowT wr B E a c cap (fun i => mtxt (k + i))) := ⟨hR.1.congr (fun i hi => if_pos hi), hR.2⟩
      have HT : Hid (TurnM w wr B E) := hT
      clear hR hT
      go_wp2
      go_ret
      exact ⟨rfl, HR.out, HT.out⟩
end Go.Proofs.Ytlnpjpdphhpomaa
