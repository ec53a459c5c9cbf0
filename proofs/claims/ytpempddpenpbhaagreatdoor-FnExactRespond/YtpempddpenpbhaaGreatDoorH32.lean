/- What a piece is expected to answer to a salt (Expect), in the model. Conditions: a proof of at most 2^20 texts; texts that a machine holds. -/
import Derived.Test.YtpempddpenpbhaaGreatDoorH30
namespace Go.Proofs.YtpempddpenpbhaaGreatDoor
set_option maxRecDepth 2000
open Go.ChangeShapes Go.WideShapes Go.ChangeAt Go.RowKit

theorem one_cellV {w : World} {b : Nat} {a : Int} (h : w.cell? ⟨b, 0, none⟩ = some (.int .u8 a)) : ∀ i, i < 1 → w.cell? ⟨b, 0 + i, none⟩ = some (.int .u8 ([a].getD i 0)) := by
  intro i hi
  match i, hi with
  | 0, _ => exact h
theorem cellU {w v : World} {z : Int} (hv : Below (w.drew.alloc (.cells #[.int .u8 z] 5)).heap.size (w.drew.alloc (.cells #[.int .u8 z] 5)) v) : v.cell? ⟨w.heap.size, 0, none⟩ = some (.int .u8 z) :=
  (hv.cell (p := ⟨w.heap.size, 0, none⟩) (by simp)).trans (one_cellU (w := w.drew) 0 (by omega))
set_option maxHeartbeats 4000000 in
theorem sExpect_any (r : ByteArray) (k n i : Int) (b : ByteArray) (a : Option Addr) (m cap : Nat) (S : Nat → ByteArray) (s : ByteArray) (w : World) (h : TxtAt w a m S) (hm : m ≤ 1048576) (hL : ∀ i, i < m → (S i).size ≤ maxLen) :
    Calls Tryz.prog 11 #[pcV r k n i b (.slice a m cap), .string s] w fun e w' => e = .returned (.string (exT r k n i b m S s)) ∧ Below w.heap.size w w' := by
  obtain ⟨w0, HW0⟩ : ∃ x, Hid (x = w.alloc (.cells (pcC r k n i b (.slice a m cap)) 36)) := ⟨_, rfl⟩
  obtain ⟨B, HB⟩ : ∃ x, Hid (x = w.heap.size) := ⟨_, rfl⟩
  have HR : Hid (Row w0 B 36 (pcC r k n i b (.slice a m cap))) := by show Row _ _ _ _; rw [HW0.out, HB.out]; exact Row.new w _ _
  have hb0 : Below w.heap.size w w0 := by rw [HW0.out]; exact (Below.refl _ _).alloc (Nat.le_refl _) _
  have KB0 : Hid (Below w.heap.size w w0) := hb0
  have KOk : Hid _ := sPieceOk_any r k n i b a m cap S w0 (h.below hb0) hm hL
  have KT : Hid (∀ W, Below w.heap.size w W → TxtAt W a m S) := fun W hW => h.below hW
  clear h hL hb0
  cases hok : okP r k n i b m S with
  | false =>
    have HE : Hid (exT r k n i b m S s = ⟨#[]⟩) := if_neg (fun h => by rw [hok] at h; cases h.2)
    rw [HE.out]
    rw [hok] at KOk
    clear hok
    go_enter Tryz.func11, Tryz.ntmps11
    go_wp2_with (rw [← HW0.out, ← HB.out]; refine wpList_load_row (by rfl) 36 _ (by rfl) B (by rfl) 36 _ (0, 0) _ HR.out Tryz.underlying36 (by rfl) Tryz.infoPc ?_)
    refine Calls.mono KOk.out ?_
    rintro e w1 ⟨rfl, b1⟩
    go_wp2
    go_ret
    exact ⟨rfl, below2 KB0.out b1⟩
  | true =>
    have HK : Hid (ExK r k n i b m S) := exK hok
    by_cases hs : s.size ≤ 100
    case neg =>
      have hs1 : (s.size : Int) > 100 := by omega
      have HE : Hid (exT r k n i b m S s = ⟨#[]⟩) := if_neg (fun h => hs h.1)
      rw [HE.out]
      rw [hok] at KOk
      clear hok
      go_enter Tryz.func11, Tryz.ntmps11
      go_wp2_with (rw [← HW0.out, ← HB.out]; refine wpList_load_row (by rfl) 36 _ (by rfl) B (by rfl) 36 _ (0, 0) _ HR.out Tryz.underlying36 (by rfl) Tryz.infoPc ?_)
      refine Calls.mono KOk.out ?_
      rintro e w1 ⟨rfl, b1⟩
      go_wp2
      go_ret
      exact ⟨rfl, below2 KB0.out b1⟩
    have hs1 : ¬ ((s.size : Int) > 100) := by omega
    have HE : Hid (exT r k n i b m S s = hexT (sumS (exS r k n i b m S s))) := if_pos ⟨hs, hok⟩
    rw [HE.out]
    rw [hok] at KOk
    clear hok
    obtain ⟨z, hz⟩ : ∃ z, s.size = z := ⟨_, rfl⟩
    have hc : IntKind.u8.wrap (z : Int) = (z : Int) := by rw [IntKind.wrap_u8]; omega
    obtain ⟨hd, HH⟩ : ∃ hd, Hid (strOfNums [(z : Int)] = hd) := ⟨_, rfl⟩
    obtain ⟨pt, HP⟩ : ∃ x, Hid (pieceT r k n i b m S = x) := ⟨_, rfl⟩
    have hhs : hd.size = 1 := by rw [← HH.out, strOfNums_size]; rfl
    have hps : pt.size ≤ 5000 := by rw [← HP.out]; exact HK.out.ut
    have HX : Hid (exS r k n i b m S s = (((⟨#[2]⟩ : ByteArray) ++ hd) ++ s) ++ pt) := by show _ = _; unfold exS; rw [hz, HH.out, HP.out]
    have hb1 : (⟨#[2]⟩ : ByteArray).size = 1 := rfl
    rw [HX.out]
    have KSm : Hid (∀ W, Below w.heap.size w W → Calls Tryz.prog 21 #[.string ((((⟨#[2]⟩ : ByteArray) ++ hd) ++ s) ++ pt)] W fun e w' => e = .returned (.string (sumS ((((⟨#[2]⟩ : ByteArray) ++ hd) ++ s) ++ pt))) ∧ Below w.heap.size w w') := fun W hW => (sSum_wide _ W (by simp only [ByteArray.size_append]; omega)).mono fun _ _ ⟨he, hb⟩ => ⟨he, below2 hW hb⟩
    have KHx : Hid (∀ W, Below w.heap.size w W → Calls Tryz.prog 20 #[.string (sumS ((((⟨#[2]⟩ : ByteArray) ++ hd) ++ s) ++ pt))] W fun e w' => e = .returned (.string (hexT (sumS ((((⟨#[2]⟩ : ByteArray) ++ hd) ++ s) ++ pt)))) ∧ Below w.heap.size w w') := fun W hW => (sHexText_any _ W (by rw [sumS_size]; omega)).mono fun _ _ ⟨he, hb⟩ => ⟨he, below2 hW hb⟩
    have KPt : Hid (∀ W, Below w.heap.size w W → Calls Tryz.prog 22 #[pcV r k n i b (.slice a m cap)] W fun e w' => e = .returned (.string pt) ∧ Below W.heap.size W w') := fun W hW => by
      have := sPieceText_any r k n i b a m cap S W (KT.out W hW) HK.out.sum HK.out.uk HK.out.un HK.out.ui
      rw [HP.out] at this
      exact this
    have hcv := fun (W : World) (g : Nat) (hg : W.cell? ⟨g, 0, none⟩ = some (.int .u8 (z : Int))) => run_convert_bytes_arg (P := Tryz.prog) W 53 5 Tryz.underlying53 Tryz.underlying5 g 0 1 1 [(z : Int)] rfl (one_cellV hg) 9 Tryz.underlying9
    simp only [HH.out] at hcv
    clear KT HE HX
    go_enter Tryz.func11, Tryz.ntmps11
    go_wp2_with (rw [← HW0.out, ← HB.out]; refine wpList_load_row (by rfl) 36 _ (by rfl) B (by rfl) 36 _ (0, 0) _ HR.out Tryz.underlying36 (by rfl) Tryz.infoPc ?_)
    refine Calls.mono KOk.out ?_
    rintro e w1 ⟨rfl, b1⟩
    have HR1 : Hid (Row w1 B 36 (pcC r k n i b (.slice a m cap))) := HR.out.below b1 HR.out.lt
    have KB1 : Hid (Below w.heap.size w w1) := below2 KB0.out b1
    clear b1 KOk
    have q0 := HR1.out.cell 0
    have q1 := HR1.out.cell 1
    have q2 := HR1.out.cell 2
    have q3 := HR1.out.cell 3
    have q4 := HR1.out.cell 4
    have q5 := HR1.out.cell 5
    simp at q0 q1 q2 q3 q4 q5
    have lB := HR1.out.lt
    go_wp2_with fail
    have hA := KB1.out.drew
    have hB := hA.alloc hA.size (.cells #[.int .u8 (z : Int)] 5)
    have hCl := fun v hv => cellU (w := w1) (v := v) (z := (z : Int)) hv
    go_region_with ((first | (go_at_call 22; refine Calls.mono (KPt.out _ (by first | exact hA | exact hB)) ?_; rintro e v1 ⟨rfl, b1⟩; have kb1 : Below w.heap.size w v1 := (by first | exact below2 hA b1 | exact below2 hB b1); (try have c1 := hCl _ b1); clear b1) | (guard_hyp kb1; go_at_call 21; refine Calls.mono (KSm.out _ (by first | exact kb1 | exact kb1.alloc kb1.size _)) ?_; rintro e v2 ⟨rfl, kb2⟩) | (guard_hyp kb2; go_at_call 20; refine Calls.mono (KHx.out _ kb2) ?_; rintro e v3 ⟨rfl, kb3⟩)))
    all_goals
      go_wp2
      go_ret
      exact ⟨rfl, kb3⟩
end Go.Proofs.YtpempddpenpbhaaGreatDoor
