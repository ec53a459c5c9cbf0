import Derived.Test.YtihklfkhjpnjkaaGreatDoorK32
set_option maxHeartbeats 8000000
set_option maxRecDepth 2000
open Go.ChangeShapes Go.WideShapes Go.ChangeAt Go.RowKit
namespace Go.Proofs.YtihklfkhjpnjkaaGreatDoor
theorem ownT_none (w : World) (B : Nat) (S : Nat → ByteArray) (hB : B ≤ w.heap.size) : OwnT (w.alloc (.cells #[] 9)) B (some ⟨w.heap.size, 0, none⟩) 0 0 S :=
 ⟨by simp [sL], Or.inr ⟨w.heap.size, 0, #[], rfl, hB, heap_alloc_new w _, Nat.le_refl _, Nat.zero_le _, rfl, by simp [sL]⟩⟩
theorem sWords_any (s : ByteArray) (w : World) (hs : s.size ≤ 1048576) :
  Calls Tryz.prog 54 #[.string s] w fun e w' => ∃ g cap, e = .returned (.slice (some ⟨g, 0, none⟩) (wn s) cap) ∧ OwnT w' w.heap.size (some ⟨g, 0, none⟩) (wn s) cap (wq s) ∧ Below w.heap.size w w' := by
 obtain ⟨i0, hi0, hz0, hz1, hz2⟩ := info_parts Tryz.infoStr
 obtain ⟨n, HN⟩ : ∃ x, Hid (s.size = x) := ⟨_, rfl⟩
 have hsn : (s.size : Int) = (n : Int) := by rw [HN.out]
 have hsz : s.size = n := HN.out
 have hwn : wn s ≤ 1048577 := by have := wq_sum s; omega
 have KW0 : Hid (OwnT (w.alloc (.cells #[] 9)) w.heap.size (some ⟨w.heap.size, 0, none⟩) 0 0 (wq s)) := ownT_none w _ _ (Nat.le_refl _)
 have KB0 : Hid (Below w.heap.size w (w.alloc (.cells #[] 9))) := (Below.refl _ _).alloc (Nat.le_refl _) _
 rw [HN.out] at hs
 go_enter Tryz.func54, Tryz.ntmps54
 go_wp2_with fail
 go_loopw [3, 4, 5] (fun v3 v4 v5 wr => ∃ c p i g cap : Nat, v3 = .slice (some ⟨g, 0, none⟩) c cap ∧ v4 = .int .i64 (p : Int) ∧ v5 = .int .i64 (i : Int) ∧ Hid (WdR s c p i ∧ OwnT wr w.heap.size (some ⟨g, 0, none⟩) c cap (wq s) ∧ Below w.heap.size w wr)) (fun _ _ v5 _ => n - (intOf v5).toNat)
 case atStart => exact ⟨0, 0, 0, w.heap.size, 0, rfl, rfl, rfl, WdR.start s, KW0.out, KB0.out⟩
 case round =>
  obtain ⟨c, p, i, g, cap, rfl, rfl, rfl, HR⟩ := hrel
  clear KW0 KB0
  have hpi : p ≤ i := HR.out.1.1
  have hin : i ≤ n := by rw [← HN.out]; exact HR.out.1.2.1
  have hpii : (p : Int) ≤ (i : Int) := by omega
  have hini : (i : Int) ≤ (n : Int) := by omega
  have lg := World.ownsRow.lt HR.out.2.1 _ rfl
  have hcw := HR.out.1.2.2.1
  by_cases hlt : i < n
  ·have hki : (i : Int) < (n : Int) := by omega
   have hks : i < s.size := by rw [HN.out]; exact hlt
   obtain ⟨x, HX⟩ : ∃ x : Nat, Hid (tat s i = x) := ⟨_, rfl⟩
   have hx8 : x < 256 := by rw [← HX.out]; exact tat_lt s i
   have hget : s[i].toNat = x := by rw [← HX.out]; exact (tat_in s i hks).symm
   by_cases hx : x = 32
   ·subst hx
    have hb : s.data.toList.getD i 0 = 32 := by
     have h1 : (s.data.toList.getD i 0).toNat = 32 := HX.out
     exact UInt8.toNat_inj.1 h1
    obtain ⟨r1, r2, r3⟩ := HR.out.1.blank hks hb
    have HR1 : Hid (WdR s (c + 1) (i + 1) (i + 1)) := r1
    have HQ : Hid (wq s c = s.extract p i) := r2
    have O2 : Hid (OwnT wr w.heap.size (some ⟨g, 0, none⟩) c cap (wq s)) := HR.out.2.1
    have b2 : Below w.heap.size w wr := HR.out.2.2
    have hs2 := b2.size
    clear r1 r2 hb HR HX
    generalize hz : s.extract p i = z at HQ
    go_wp2_with (at_builtin; refine wpList_append_all _ (by rfl) _ _ 31 (by rfl) w.heap.size 9 i0 (.string ByteArray.empty) 1 16 Tryz.underlying31 hi0 hz0 hz1 hz2 rfl (by decide) g c cap _ (by rfl) (World.ownsRow.alloc O2.out _) ⟨wr.heap.size, 0, none⟩ 1 1 [.string z] (by rfl) (by rfl) (World.news_of_block (cs := #[.string z]) (t := 9) (fr := (0, 0)) (heap_alloc_new wr _)) (by simp [Value.oneCell']) (by unfold maxLen; omega) (by omega) (by simp; omega) ?_; intro g3 cap3 w7 hown3 hgrow3)
    have HL7 : Hid (OwnT w7 w.heap.size (some ⟨g3, 0, none⟩) (c + 1) cap3 (wq s) ∧ Below w.heap.size w w7) := by
     refine ⟨?_, (b2.alloc hs2 _).grown (show World.grownBy _ w7 (some g) from hgrow3) (by simp; omega) (fun j hj => by cases hj; exact lg.1)⟩
     show World.ownsRow _ _ _ _ _ _ _
     rw [sL_snoc, HQ.out]
     exact hown3
    clear hown3 hgrow3 O2 b2
    go_roundw
    case rel => exact ⟨c + 1, i + 1, i + 1, g3, cap3, rfl, by go_num, by go_num, HR1.out, HL7.out.1, HL7.out.2⟩
    case measure => simp [intOf]; omega
   ·have hb : s.data.toList.getD i 0 ≠ 32 := fun e => hx (by rw [← HX.out]; unfold tat; rw [e]; rfl)
    have HR1 : Hid (WdR s c p (i + 1)) := HR.out.1.other hks hb
    have hxi : ¬ (x : Int) = 32 := by omega
    clear hb
    go_wp2_with fail
    go_roundw
    case rel => exact ⟨c, p, i + 1, g, cap, rfl, rfl, by go_num, HR1.out, HR.out.2.1, HR.out.2.2⟩
    case measure => simp [intOf]; omega
  ·obtain rfl : i = n := by omega
   have hdone := HR.out.1
   rw [← HN.out] at hdone
   obtain ⟨r1, r2⟩ := hdone.done
   have HQ : Hid (wq s c = s.extract p i) := by show _ = _; rw [r2, HN.out]
   have O2 : Hid (OwnT wr w.heap.size (some ⟨g, 0, none⟩) c cap (wq s)) := HR.out.2.1
   have b2 : Below w.heap.size w wr := HR.out.2.2
   have hs2 := b2.size
   have HWN : Hid (wn s = c + 1) := r1
   have hnn : ¬ (i : Int) < (i : Int) := by omega
   clear r1 r2 hdone HR
   generalize hz : s.extract p i = z at HQ
   go_wp2_with (at_builtin; refine wpList_append_all _ (by rfl) _ _ 31 (by rfl) w.heap.size 9 i0 (.string ByteArray.empty) 1 16 Tryz.underlying31 hi0 hz0 hz1 hz2 rfl (by decide) g c cap _ (by rfl) (World.ownsRow.alloc O2.out _) ⟨wr.heap.size, 0, none⟩ 1 1 [.string z] (by rfl) (by rfl) (World.news_of_block (cs := #[.string z]) (t := 9) (fr := (0, 0)) (heap_alloc_new wr _)) (by simp [Value.oneCell']) (by unfold maxLen; omega) (by omega) (by simp; omega) ?_; intro g3 cap3 w7 hown3 hgrow3)
   have HL7 : Hid (OwnT w7 w.heap.size (some ⟨g3, 0, none⟩) (c + 1) cap3 (wq s) ∧ Below w.heap.size w w7) := by
    refine ⟨?_, (b2.alloc hs2 _).grown (show World.grownBy _ w7 (some g) from hgrow3) (by simp; omega) (fun j hj => by cases hj; exact lg.1)⟩
    show World.ownsRow _ _ _ _ _ _ _
    rw [sL_snoc, HQ.out]
    exact hown3
   clear hown3 hgrow3 O2 b2
   go_wp2
   go_ret
   exact ⟨g3, cap3, by rw [HWN.out]; rfl, by rw [HWN.out]; exact HL7.out.1, HL7.out.2⟩
end Go.Proofs.YtihklfkhjpnjkaaGreatDoor
