import Derived.Test.YtaenoiffamgcfaaGreatDoorM21
import Derived.Test.YtaenoiffamgcfaaGreatDoorM8
import Derived.Test.YtaenoiffamgcfaaGreatDoorM4
import Derived.Deep.CutRange
set_option maxHeartbeats 8000000
set_option maxRecDepth 2000
open Go.ChangeShapes Go.WideShapes Go.ChangeAt Go.RowKit
namespace Go.Proofs.YtaenoiffamgcfaaGreatDoor
theorem txt_news {w : World} {ad : Addr} {m : Nat} {S : Nat → ByteArray} (h : TxtAt w (some ad) m S) : ∀ (j : Nat) (u : Value), (sL S m)[j]? = some u → w.cell? (ad.add j) = some u := fun j u hu => by
 have hj : j < m := by
  have := (List.getElem?_eq_some_iff.1 hu).1
  rw [sL_len] at this
  exact this
 obtain ⟨b, off, e, hc⟩ := h j hj
 cases e
 have ea : (⟨b, off, none⟩ : Addr).add j = ⟨b, off + j, none⟩ := by unfold Addr.add; split <;> simp_all
 rw [ea, hc, ← hu, sL_get _ _ _ hj]
theorem sCopyP_any (r : ByteArray) (k n i : Int) (b : ByteArray) (a : Option Addr) (m c : Nat) (S : Nat → ByteArray) (w : World) (h : TxtAt w a m S) (hm : m ≤ 1048576) :
  Calls Tryz.prog 81 #[pcV r k n i b (.slice a m c)] w fun e w' => ∃ g c', e = .returned (pcV r k n i b (.slice (some ⟨g, 0, none⟩) m c')) ∧ OwnT w' w.heap.size (some ⟨g, 0, none⟩) m c' S ∧ Below w.heap.size w w' := by
 obtain ⟨i0, hi, hz0, hz1, hz2⟩ := info_parts Tryz.infoStr
 obtain ⟨A, HA⟩ : ∃ x, Hid (x = w.heap.size) := ⟨_, rfl⟩
 obtain ⟨D, HD⟩ : ∃ x, Hid (x = w.heap.size + 1) := ⟨_, rfl⟩
 obtain ⟨G, HG⟩ : ∃ x, Hid (x = w.heap.size + 1 + 1) := ⟨_, rfl⟩
 obtain ⟨w0, HW0⟩ : ∃ x, Hid (x = ((w.alloc (.cells (pcC r k n i b (.slice a m c)) 32)).alloc (.cells #[.string ⟨#[]⟩, .int .i64 0, .int .i64 0, .int .i64 0, .string ⟨#[]⟩, .slice none 0 0] 32)).alloc (.cells #[] 9)) := ⟨_, rfl⟩
 have RA : Hid (Row w0 A 32 (pcC r k n i b (.slice a m c))) := by show Row _ _ _ _; rw [HW0.out, HA.out]; exact Row.alloc (Row.alloc (Row.new w _ _) _) _
 have RD : Hid (Row w0 D 32 #[.string ⟨#[]⟩, .int .i64 0, .int .i64 0, .int .i64 0, .string ⟨#[]⟩, .slice none 0 0]) := by
  show Row _ _ _ _
  rw [HW0.out, HD.out]
  have := Row.new (w.alloc (.cells (pcC r k n i b (.slice a m c)) 32)) #[.string ⟨#[]⟩, .int .i64 0, .int .i64 0, .int .i64 0, .string ⟨#[]⟩, .slice none 0 0] 32
  exact Row.alloc (by simpa using this) _
 have hb0 : Below w.heap.size w w0 := by rw [HW0.out]; exact (((Below.refl _ _).alloc (Nat.le_refl _) _).alloc (by simp) _).alloc (by simp; omega) _
 have KB0 : Hid (Below w.heap.size w w0) := hb0
 have HO : Hid (w0.ownsRow G 9 1 (.slice (some ⟨G, 0, none⟩) 0 0) 0 []) := by
  show World.ownsRow _ _ _ _ _ _ _
  rw [HW0.out, HG.out]
  have := World.ownsRow_lit (e := 9) (size := 1) (base := ((w.alloc (.cells (pcC r k n i b (.slice a m c)) 32)).alloc (.cells #[.string ⟨#[]⟩, .int .i64 0, .int .i64 0, .int .i64 0, .string ⟨#[]⟩, .slice none 0 0] 32)).heap.size) ((w.alloc (.cells (pcC r k n i b (.slice a m c)) 32)).alloc (.cells #[.string ⟨#[]⟩, .int .i64 0, .int .i64 0, .int .i64 0, .string ⟨#[]⟩, .slice none 0 0] 32)) #[] 0 (by simp) (by unfold maxLen; omega) (by simp)
  simpa using this
 have HL : Hid (A ≠ D ∧ w.heap.size ≤ A ∧ w.heap.size ≤ D ∧ A < G ∧ D < G ∧ w.heap.size ≤ G ∧ G ≤ w0.heap.size) := by
  have h1 := HA.out; have h2 := HD.out; have h3 := HG.out
  have h4 := (World.ownsRow.lt HO.out G rfl).2
  exact ⟨by omega, by omega, by omega, by omega, by omega, by omega, by omega⟩
 have FIN : Hid (∀ (W : World) (g c' : Nat), Row W A 32 (pcC r k n i b (.slice a m c)) → Row W D 32 #[.string ⟨#[]⟩, .int .i64 0, .int .i64 0, .int .i64 0, .string ⟨#[]⟩, .slice none 0 0] → OwnT W G (some ⟨g, 0, none⟩) m c' S → Below w.heap.size w W → Row (W.setCell ⟨A, 5, none⟩ (.slice (some ⟨g, 0, none⟩) m c')) A 32 (pcC r k n i b (.slice (some ⟨g, 0, none⟩) m c')) ∧ Row (W.setCell ⟨A, 5, none⟩ (.slice (some ⟨g, 0, none⟩) m c')) D 32 #[.string ⟨#[]⟩, .int .i64 0, .int .i64 0, .int .i64 0, .string ⟨#[]⟩, .slice none 0 0] ∧ Row ((W.setCell ⟨A, 5, none⟩ (.slice (some ⟨g, 0, none⟩) m c')).setRow D (pcC r k n i b (.slice (some ⟨g, 0, none⟩) m c'))) D 32 (pcC r k n i b (.slice (some ⟨g, 0, none⟩) m c')) ∧ OwnT ((W.setCell ⟨A, 5, none⟩ (.slice (some ⟨g, 0, none⟩) m c')).setRow D (pcC r k n i b (.slice (some ⟨g, 0, none⟩) m c'))) w.heap.size (some ⟨g, 0, none⟩) m c' S ∧ Below w.heap.size w ((W.setCell ⟨A, 5, none⟩ (.slice (some ⟨g, 0, none⟩) m c')).setRow D (pcC r k n i b (.slice (some ⟨g, 0, none⟩) m c')))) := fun W g c' h1 h2 h3 h4 => by
  have l := World.ownsRow.lt h3 g rfl
  refine ⟨h1.set 5 _, h2.other 5 _ (Ne.symm HL.out.1), (h2.other 5 _ (Ne.symm HL.out.1)).row, ?_, belowSetRow (h4.setCell HL.out.2.1 _) HL.out.2.2.1 _⟩
  refine own_kept (OwnT.base (h3.setFar HL.out.2.2.2.1) HL.out.2.2.2.2.2.1) (grown_row _ _ _) (fun x e => ?_)
  cases e
  show g ≠ D
  have := HL.out.2.2.2.2.1
  omega
 have x5 := RA.out.cell 5
 have f5 := RA.out.free 5
 have lA := RA.out.lt
 simp at x5
 match a, h with
 | none, h =>
  have e0 : m = 0 := by
   by_cases h0 : m = 0
   ·exact h0
   ·obtain ⟨b', off, e, _⟩ := h 0 (by omega)
    cases e
  subst e0
  clear h hb0
  go_enter Tryz.func81, Tryz.ntmps81
  go_wp2_with fail
  refine bodyPost_ret (v := pcV r k n i b (.slice (some ⟨w.heap.size + 1 + 1, 0, none⟩) 0 0)) (by simp [results, Tryz.results81, go_sem]) rfl ⟨w.heap.size + 1 + 1, 0, rfl, ?_, (((Below.refl _ _).alloc (Nat.le_refl _) _).alloc (by simp) _).alloc (by simp; omega) _⟩
  have := World.ownsRow_lit (e := 9) (size := 1) (base := w.heap.size) ((w.alloc (.cells (pcC r k n i b (.slice (some ⟨w.heap.size + 1 + 1, 0, none⟩) 0 0)) 32)).alloc (.cells (pcC r k n i b (.slice (some ⟨w.heap.size + 1 + 1, 0, none⟩) 0 0)) 32)) #[] 0 (by simp; omega) (by unfold maxLen; omega) (by simp)
  unfold OwnT
  simpa [sL] using this
 | some ad, h =>
  have HNW : Hid (∀ (j : Nat) (u : Value), (sL S m)[j]? = some u → w0.cell? (ad.add j) = some u) := fun j u hu => by
   have := txt_news h j u hu
   rw [hb0.cell (block_lt_of_cell this)]
   exact this
  have HLL : Hid ((sL S m).length = m * 1) := by show _ = _; rw [sL_len]; omega
  have HONE : Hid (∀ u ∈ sL S m, u.oneCell' = true) := by
   show ∀ u ∈ sL S m, _
   intro u hu
   obtain ⟨j, hj⟩ := List.getElem?_of_mem hu
   have hjm : j < m := by have := (List.getElem?_eq_some_iff.1 hj).1; rw [sL_len] at this; exact this
   rw [sL_get _ _ _ hjm] at hj
   cases hj
   rfl
  clear h hb0
  go_enter Tryz.func81, Tryz.ntmps81
  go_wp2_with (first | (at_builtin; rw [← HW0.out, ← HG.out, ← HD.out, ← HA.out]; refine wpList_append_all _ (by rfl) _ _ 30 (by rfl) G 9 i0 (.string ByteArray.empty) 1 16 Tryz.underlying30 hi hz0 hz1 hz2 rfl (by decide) G 0 0 [] (by rfl) ?_ ad m c (sL S m) (by rfl) ?_ ?_ ?_ (by unfold maxLen; omega) (by omega) ?_ ?_; exact HO.out; exact HLL.out; exact HNW.out; exact HONE.out; exact HL.out.2.2.2.2.2.2; intro g3 cap3 w3 hown3 hgrow3; have bG : Below G w0 w3 := (Below.refl _ _).grown hgrow3 HL.out.2.2.2.2.2.2 (fun x hx => by cases hx; exact Nat.le_refl _); have KK3 : Row w3 A 32 (pcC r k n i b (.slice (some ad) m c)) ∧ Row w3 D 32 #[.string ⟨#[]⟩, .int .i64 0, .int .i64 0, .int .i64 0, .string ⟨#[]⟩, .slice none 0 0] ∧ OwnT w3 G (some ⟨g3, 0, none⟩) m cap3 S ∧ Below w.heap.size w w3 := ⟨RA.out.below bG HL.out.2.2.2.1, RD.out.below bG HL.out.2.2.2.2.1, (by have := hown3; unfold OwnT; simpa using this), KB0.out.grown hgrow3 KB0.out.size (fun x hx => by cases hx; exact HL.out.2.2.2.2.2.1)⟩; have y5 := KK3.1.cell 5; have g5 := KK3.1.free 5; simp at y5; have KD3 : Hid _ := KK3; clear hown3 hgrow3 bG KK3 x5 f5) | (refine wpList_load_row (by rfl) 32 _ (by rfl) A (by rfl) 32 (pcC r k n i b (.slice (some ⟨g3, 0, none⟩) m cap3)) (0, 0) _ ?_ Tryz.underlying32 (by rfl) Tryz.infoPc ?_; exact (FIN.out w3 g3 cap3 KD3.out.1 KD3.out.2.1 KD3.out.2.2.1 KD3.out.2.2.2).1) | (refine wpList_store_row (by rfl) 32 _ _ (by rfl) D (pcC r k n i b (.slice (some ⟨g3, 0, none⟩) m cap3)) (by rfl) (by rfl) 32 #[.string ⟨#[]⟩, .int .i64 0, .int .i64 0, .int .i64 0, .string ⟨#[]⟩, .slice none 0 0] ?_ Tryz.infoPc rfl (by simp [Value.oneCell']) ?_; exact (FIN.out w3 g3 cap3 KD3.out.1 KD3.out.2.1 KD3.out.2.2.1 KD3.out.2.2.2).2.1))
  have KF := FIN.out w3 g3 cap3 KD3.out.1 KD3.out.2.1 KD3.out.2.2.1 KD3.out.2.2.2
  exact bodyPost_ret (v := pcV r k n i b (.slice (some ⟨g3, 0, none⟩) m cap3)) (results_cell_row Tryz.results81 _ _ D 32 _ (0, 0) _ (by rfl) KF.2.2.1 Tryz.underlying32 (by rfl) Tryz.infoPc) rfl ⟨g3, cap3, rfl, KF.2.2.2.1, KF.2.2.2.2⟩
def zcY : List Value := [.int .i64 0, .int .i64 0, .int .i64 0, .string ByteArray.empty, .string ByteArray.empty, .int .i64 0, .int .i64 0, .int .i64 0, .string ByteArray.empty, .slice none 0 0]
theorem Tryz.infoSyZ : (Tryz.prog.info? 87).map (fun i => (i.zero, i.size, i.bytes)) = some (some (.agg zcY.toArray), 10, 120) := by kernel_rfl
end Go.Proofs.YtaenoiffamgcfaaGreatDoor
