/- What a piece is expected to answer to a salt (Expect), in the program and in its model. Conditions: a proof of at most 2^20 texts; texts that a machine holds; the library's table of powers of ten stands as its text lays it. -/
import Derived.Test.YtpempddpenpbhaaDoorH27
import Derived.Test.YtpempddpenpbhaaDoorH40
namespace Go.Proofs.YtpempddpenpbhaaDoor
set_option maxRecDepth 2000
open Go.ChangeShapes Go.WideShapes Go.ChangeAt Go.RowKit

/-- What is summed. -/
noncomputable def exS (r : ByteArray) (k n i : Int) (b : ByteArray) (m : Nat) (S : Nat → ByteArray) (s : ByteArray) : ByteArray := (((⟨#[2]⟩ : ByteArray) ++ strOfNums [(s.size : Int)]) ++ s) ++ pieceT r k n i b m S
noncomputable def exT (r : ByteArray) (k n i : Int) (b : ByteArray) (m : Nat) (S : Nat → ByteArray) (s : ByteArray) : ByteArray := if s.size ≤ 100 ∧ okP r k n i b m S = true then hexT (sumS (exS r k n i b m S s)) else ⟨#[]⟩
/-- What holds of a piece that checks. -/
structure ExK (r : ByteArray) (k n i : Int) (b : ByteArray) (m : Nat) (S : Nat → ByteArray) : Prop where
  sum : r.size + b.size + (m + tot (fun i => (S i).size) m) ≤ 1048576
  uk : -9223372036854775808 ≤ k ∧ k ≤ 9223372036854775807
  un : -9223372036854775808 ≤ n ∧ n ≤ 9223372036854775807
  ui : -9223372036854775808 ≤ i ∧ i ≤ 9223372036854775807
  ut : (pieceT r k n i b m S).size ≤ 5000
theorem tot16 {S : Nat → ByteArray} {m : Nat} (h : ∀ j, j < m → (S j).size = 16) : tot (fun i => (S i).size) m = 16 * m := by
  induction m with
  | zero => rfl
  | succ m ih =>
    show tot (fun i => (S i).size) m + (S m).size = _
    rw [ih (fun j hj => h j (by omega)), h m (by omega)]
    omega
theorem exK {r : ByteArray} {k n i : Int} {b : ByteArray} {m : Nat} {S : Nat → ByteArray} (h : okP r k n i b m S = true) : ExK r k n i b m S := by
  by_cases hk : kOk k n b
  case neg => rw [okP_no hk] at h; cases h
  rw [okP_yes hk] at h
  obtain ⟨h1, h2, _, h4, h5, h6⟩ := pvB_parts h
  obtain ⟨k1, k2, k3, k4, k5⟩ := hk
  have ht := tot16 h6
  have e1 : -9223372036854775808 ≤ k ∧ k ≤ 9223372036854775807 := by omega
  have e2 : -9223372036854775808 ≤ n ∧ n ≤ 9223372036854775807 := by omega
  have e3 : -9223372036854775808 ≤ i ∧ i ≤ 9223372036854775807 := by omega
  have hmi : -9223372036854775808 ≤ (m : Int) ∧ (m : Int) ≤ 9223372036854775807 := by omega
  have h1 := jp_size (r := r) (b := b) (S := S) (its_size k e1.1 e1.2).1 (its_size n e2.1 e2.2).1 (its_size i e3.1 e3.2).1 (its_size (m : Int) hmi.1 hmi.2).1 m
  refine ⟨by omega, e1, e2, e3, ?_⟩
  show (jp (pts r k n i b m S) (6 + m)).size ≤ _
  omega
theorem one_cellU {w : World} {ty : TypeId} {a : Int} : ∀ i, i < 1 → (w.alloc (.cells #[.int .u8 a] ty)).cell? ⟨w.heap.size, 0 + i, none⟩ = some (.int .u8 ([a].getD i 0)) := by
  intro i hi
  rw [Nat.zero_add, cell_of_row _ _ _ _ ty _ (heap_alloc_new w _)]
  match i, hi with
  | 0, _ => rfl
set_option maxHeartbeats 2000000 in
theorem expect_any (r : ByteArray) (k n i : Int) (b : ByteArray) (a : Option Addr) (m cap : Nat) (S : Nat → ByteArray) (s : ByteArray) (w : World) (h : TxtAt w a m S) (hm : m ≤ 1048576) (hL : ∀ i, i < m → (S i).size ≤ maxLen) (htab : TabOk w) :
    Calls Tryd.prog 7 #[pcV r k n i b (.slice a m cap), .string s] w fun e w' => e = .returned (.string (exT r k n i b m S s)) ∧ Below w.heap.size w w' := by
  obtain ⟨w0, HW0⟩ : ∃ x, Hid (x = w.alloc (.cells (pcC r k n i b (.slice a m cap)) 27)) := ⟨_, rfl⟩
  obtain ⟨B, HB⟩ : ∃ x, Hid (x = w.heap.size) := ⟨_, rfl⟩
  have HR : Hid (Row w0 B 27 (pcC r k n i b (.slice a m cap))) := by show Row _ _ _ _; rw [HW0.out, HB.out]; exact Row.new w _ _
  have hb0 : Below w.heap.size w w0 := by rw [HW0.out]; exact (Below.refl _ _).alloc (Nat.le_refl _) _
  have KB0 : Hid (Below w.heap.size w w0) := hb0
  by_cases hs : s.size ≤ 100
  case neg =>
    have hs1 : (s.size : Int) > 100 := by omega
    have HE : Hid (exT r k n i b m S s = ⟨#[]⟩) := if_neg (fun h => hs h.1)
    rw [HE.out]
    clear h hL htab hb0
    go_enter Tryd.func7, Tryd.ntmps7
    go_wp2_with fail
    rw [← HW0.out]
    go_ret
    exact ⟨rfl, KB0.out⟩
  have hs1 : ¬ ((s.size : Int) > 100) := by omega
  have KOk : Hid _ := pieceOk_any r k n i b a m cap S w0 (h.below hb0) hm hL
  have KT : Hid (∀ W, Below w.heap.size w W → TxtAt W a m S ∧ TabOk W) := fun W hW => ⟨h.below hW, htab.below hW⟩
  clear h hL htab hb0
  cases hok : okP r k n i b m S with
  | false =>
    have HE : Hid (exT r k n i b m S s = ⟨#[]⟩) := if_neg (fun h => by rw [hok] at h; cases h.2)
    rw [HE.out]
    rw [hok] at KOk
    clear hok
    go_enter Tryd.func7, Tryd.ntmps7
    go_wp2_with fail
    rw [← HW0.out]
    refine Calls.mono KOk.out ?_
    rintro e w1 ⟨rfl, b1⟩
    go_wp2
    go_ret
    exact ⟨rfl, below2 KB0.out b1⟩
  | true =>
    have HE : Hid (exT r k n i b m S s = hexT (sumS (exS r k n i b m S s))) := if_pos ⟨hs, hok⟩
    have HK : Hid (ExK r k n i b m S) := exK hok
    rw [HE.out]
    rw [hok] at KOk
    clear hok
    obtain ⟨z, hz⟩ : ∃ z, s.size = z := ⟨_, rfl⟩
    have hc : IntKind.u8.wrap (z : Int) = (z : Int) := by rw [IntKind.wrap_u8]; omega
    obtain ⟨hd, HH⟩ : ∃ hd, Hid (strOfNums [(z : Int)] = hd) := ⟨_, rfl⟩
    obtain ⟨pt, HP⟩ : ∃ x, Hid (pieceT r k n i b m S = x) := ⟨_, rfl⟩
    have hhs : hd.size = 1 := by rw [← HH.out, strOfNums_size]; rfl
    have hps : pt.size ≤ 5000 := by rw [← HP.out]; exact HK.out.ut
    have HX : Hid (exS r k n i b m S s = (((⟨#[2]⟩ : ByteArray) ++ hd) ++ s) ++ pt) := by show _ = _; unfold exS; rw [hz, HH.out, HP.out]
    have hb1 : (⟨#[2]⟩ : ByteArray).size = 1 := rfl
    rw [HX.out]
    have KSm : Hid (∀ W, Calls Tryd.prog 17 #[.string ((((⟨#[2]⟩ : ByteArray) ++ hd) ++ s) ++ pt)] W fun e w' => e = .returned (.string (sumS ((((⟨#[2]⟩ : ByteArray) ++ hd) ++ s) ++ pt))) ∧ Below W.heap.size W w') := fun W => sum_wide _ W (by simp only [ByteArray.size_append]; omega)
    have KHx : Hid (∀ W, Calls Tryd.prog 16 #[.string (sumS ((((⟨#[2]⟩ : ByteArray) ++ hd) ++ s) ++ pt))] W fun e w' => e = .returned (.string (hexT (sumS ((((⟨#[2]⟩ : ByteArray) ++ hd) ++ s) ++ pt)))) ∧ Below W.heap.size W w') := fun W => hexText_any _ W (by rw [sumS_size]; omega)
    have KPt : Hid (∀ W, Below w.heap.size w W → Calls Tryd.prog 18 #[pcV r k n i b (.slice a m cap)] W fun e w' => e = .returned (.string pt) ∧ Below W.heap.size W w') := fun W hW => by
      have := pieceText_any r k n i b a m cap S W (KT.out W hW).1 HK.out.sum HK.out.uk HK.out.un HK.out.ui (KT.out W hW).2
      rw [HP.out] at this
      exact this
    have hcv := fun W => run_convert_bytes_arg (P := Tryd.prog) (World.alloc W (.cells #[.int .u8 (z : Int)] 5)) 34 5 Tryd.underlying34 Tryd.underlying5 W.heap.size 0 1 1 [(z : Int)] rfl one_cellU 9 Tryd.underlying9
    simp only [HH.out] at hcv
    clear KT HE HX
    go_enter Tryd.func7, Tryd.ntmps7
    go_wp2_with fail
    rw [← HW0.out, ← HB.out]
    refine Calls.mono KOk.out ?_
    rintro e w1 ⟨rfl, b1⟩
    obtain ⟨w2, HW2⟩ : ∃ x, Hid (x = w1.alloc (.cells #[.int .u8 (z : Int)] 5)) := ⟨_, rfl⟩
    have b2 : Below w1.heap.size w1 w2 := by rw [HW2.out]; exact (Below.refl _ _).alloc (Nat.le_refl _) _
    have HR2 : Hid (Row w2 B 27 (pcC r k n i b (.slice a m cap))) := (HR.out.below b1 HR.out.lt).below b2 (Nat.lt_of_lt_of_le HR.out.lt b1.size)
    have KB2 : Hid (Below w.heap.size w w2) := below2 KB0.out (below2 b1 b2)
    clear b1 b2 KOk
    go_wp2_with (rw [← HW2.out]; refine wpList_load_row (by rfl) 27 _ (by rfl) B (by rfl) 27 _ (0, 0) _ HR2.out Tryd.underlying27 (by rfl) Tryd.infoPc ?_)
    refine Calls.mono (KPt.out _ KB2.out) ?_
    rintro e w3 ⟨rfl, b3⟩
    have KB3 : Hid (Below w.heap.size w w3) := below2 KB2.out b3
    clear b3
    go_wp2_with fail
    refine Calls.mono (KSm.out _) ?_
    rintro e w4 ⟨rfl, b4⟩
    have KB4 : Hid (Below w.heap.size w w4) := below2 KB3.out b4
    clear b4
    go_wp2_with fail
    refine Calls.mono (KHx.out _) ?_
    rintro e w5 ⟨rfl, b5⟩
    have KB5 : Hid (Below w.heap.size w w5) := below2 KB4.out b5
    clear b5
    go_wp2
    go_ret
    exact ⟨rfl, KB5.out⟩
end Go.Proofs.YtpempddpenpbhaaDoor
