import Derived.Test.YtihklfkhjpnjkaaGreatDoorU16
set_option maxHeartbeats 8000000
set_option maxRecDepth 2000
open Go.ChangeShapes Go.WideShapes Go.ChangeAt Go.RowKit
namespace Go.Proofs.YtihklfkhjpnjkaaGreatDoor
open Gt (lf)
theorem leaf_wide (s : ByteArray) (w : World) (hs : s.size ≤ 2097152) : Calls Tryz.prog 49 #[.string s] w fun e w' => e = .returned (.string (lf s)) ∧ Below w.heap.size w w' := by
 have h1 := one_app 0 s
 have HS : Hid (∀ w0, Calls Tryz.prog 90 #[.string ((⟨#[0]⟩ : ByteArray) ++ s)] w0 fun e w' => e = .returned (.string (lf s)) ∧ Below w0.heap.size w0 w') := fun w0 => sum_wide _ w0 (by omega)
 have hb1 : (⟨#[0]⟩ : ByteArray).size = 1 := rfl
 go_enter Tryz.func49, Tryz.ntmps49
 go_wp2_with fail
 refine (HS.out _).mono ?_
 rintro e w1 ⟨rfl, b1⟩
 go_wp2
 go_ret
 exact ⟨rfl, b1⟩
theorem sleaf_wide (s : ByteArray) (w : World) (hs : s.size ≤ 2097152) : Calls Tryz.prog 51 #[.string s] w fun e w' => e = .returned (.string (lf s)) ∧ Below w.heap.size w w' := by
 have h1 := one_app 0 s
 have HS : Hid (∀ w0, Calls Tryz.prog 91 #[.string ((⟨#[0]⟩ : ByteArray) ++ s)] w0 fun e w' => e = .returned (.string (lf s)) ∧ Below w0.heap.size w0 w') := fun w0 => sSum_wide _ w0 (by omega)
 have hb1 : (⟨#[0]⟩ : ByteArray).size = 1 := rfl
 go_enter Tryz.func51, Tryz.ntmps51
 go_wp2_with fail
 refine (HS.out _).mono ?_
 rintro e w1 ⟨rfl, b1⟩
 go_wp2
 go_ret
 exact ⟨rfl, b1⟩
def pHd (k n i : Nat) (s : ByteArray) : ByteArray := strOfNums [(k : Int), (n : Int), (i : Int), ((s.size % 256 : Nat) : Int)] ++ s
noncomputable def plf (k n i : Int) (s : ByteArray) : ByteArray := if isB k = true ∧ isB n = true ∧ isB i = true then lf (pHd k.toNat n.toNat i.toNat s) else ⟨#[]⟩
theorem plf_yes {k n i : Nat} (s : ByteArray) (hk : k < 256) (hn : n < 256) (hi : i < 256) : plf (k : Int) (n : Int) (i : Int) s = lf (pHd k n i s) := by
 unfold plf
 rw [if_pos ⟨isB_ofNat hk, isB_ofNat hn, isB_ofNat hi⟩]
 simp
theorem plf_no {k n i : Int} (s : ByteArray) (h : isB k = false ∨ isB n = false ∨ isB i = false) : plf k n i s = ⟨#[]⟩ := by
 unfold plf
 rw [if_neg]
 rintro ⟨h1, h2, h3⟩
 rcases h with h | h | h
 ·rw [h] at h1; cases h1
 ·rw [h] at h2; cases h2
 ·rw [h] at h3; cases h3
theorem plf_le (k n i : Int) (s : ByteArray) : (plf k n i s).size ≤ 16 := by
 unfold plf
 split
 ·rw [Gt.lf_size]; omega
 ·decide
theorem four_cells {w : World} {ty : TypeId} {a b c d : Int} : ∀ i, i < 4 → (w.alloc (.cells #[.int .u8 a, .int .u8 b, .int .u8 c, .int .u8 d] ty)).cell? ⟨w.heap.size, 0 + i, none⟩ = some (.int .u8 ([a, b, c, d].getD i 0)) := by
 intro i hi
 rw [Nat.zero_add, cell_of_row _ _ _ _ ty _ (heap_alloc_new w _)]
 match i, hi with
 | 0, _ => rfl
 | 1, _ => rfl
 | 2, _ => rfl
 | 3, _ => rfl
theorem pieceLeaf_any (k n i : Int) (s : ByteArray) (w : World) (hs : s.size ≤ 1048576) :
  Calls Tryz.prog 17 #[.int .i64 k, .int .i64 n, .int .i64 i, .string s] w fun e w' => e = .returned (.string (plf k n i s)) ∧ Below w.heap.size w w' := by
 have KB : Hid (∀ (a : Int) (W : World), Calls Tryz.prog 48 #[.int .i64 a] W fun e w' => e = .returned (.bool (isB a)) ∧ w' = W) := fun a W => isByte_any a W
 cases h1 : isB k with
 | false =>
  rw [plf_no s (.inl h1)]
  go_enter Tryz.func17, Tryz.ntmps17
  go_wp2_with (go_at_call 48; refine (KB.out _ _).mono ?_; rintro e w' ⟨rfl, hw⟩; obtain rfl := hw.symm)
  go_ret
  exact ⟨rfl, Below.refl _ _⟩
 | true =>
  cases h2 : isB n with
  | false =>
   rw [plf_no s (.inr (.inl h2))]
   go_enter Tryz.func17, Tryz.ntmps17
   go_wp2_with (go_at_call 48; refine (KB.out _ _).mono ?_; rintro e w' ⟨rfl, hw⟩; obtain rfl := hw.symm)
   go_ret
   exact ⟨rfl, Below.refl _ _⟩
  | true =>
   cases h3 : isB i with
   | false =>
    rw [plf_no s (.inr (.inr h3))]
    go_enter Tryz.func17, Tryz.ntmps17
    go_wp2_with (go_at_call 48; refine (KB.out _ _).mono ?_; rintro e w' ⟨rfl, hw⟩; obtain rfl := hw.symm)
    go_ret
    exact ⟨rfl, Below.refl _ _⟩
   | true =>
    obtain ⟨k', hk, rfl⟩ := isB_nat h1
    obtain ⟨n', hn, rfl⟩ := isB_nat h2
    obtain ⟨i', hi, rfl⟩ := isB_nat h3
    have e1 : IntKind.u8.wrap (k' : Int) = (k' : Int) := by rw [IntKind.wrap_u8]; omega
    have e2 : IntKind.u8.wrap (n' : Int) = (n' : Int) := by rw [IntKind.wrap_u8]; omega
    have e3 : IntKind.u8.wrap (i' : Int) = (i' : Int) := by rw [IntKind.wrap_u8]; omega
    obtain ⟨sz, hsz⟩ : ∃ sz, s.size = sz := ⟨_, rfl⟩
    obtain ⟨c, hc⟩ : ∃ c, sz % 256 = c := ⟨_, rfl⟩
    have e4 : IntKind.u8.wrap (sz : Int) = (c : Int) := by rw [IntKind.wrap_u8]; omega
    have HP : Hid (plf (k' : Int) (n' : Int) (i' : Int) s = lf (strOfNums [(k' : Int), (n' : Int), (i' : Int), (c : Int)] ++ s)) := by show _ = _; rw [plf_yes s hk hn hi, pHd, hsz, hc]
    rw [HP.out]
    have hcv := run_convert_bytes_arg (P := Tryz.prog) (w.alloc (.cells #[.int .u8 (k' : Int), .int .u8 (n' : Int), .int .u8 (i' : Int), .int .u8 (c : Int)] 5)) 22 5 Tryz.underlying22 Tryz.underlying5 w.heap.size 0 4 4 [(k' : Int), (n' : Int), (i' : Int), (c : Int)] rfl four_cells 9 Tryz.underlying9
    obtain ⟨hd, HH⟩ : ∃ hd, Hid (strOfNums [(k' : Int), (n' : Int), (i' : Int), (c : Int)] = hd) := ⟨_, rfl⟩
    have hhs : hd.size = 4 := by rw [← HH.out, strOfNums_size]; rfl
    rw [HH.out] at hcv ⊢
    have hss : (hd ++ s).size = 4 + sz := by rw [ByteArray.size_append, hhs, hsz]
    have HL : Hid (∀ W, Calls Tryz.prog 49 #[.string (hd ++ s)] W fun e w' => e = .returned (.string (lf (hd ++ s))) ∧ Below W.heap.size W w') := fun W => leaf_wide _ W (by omega)
    have hb0 : Below w.heap.size w (w.alloc (.cells #[.int .u8 (k' : Int), .int .u8 (n' : Int), .int .u8 (i' : Int), .int .u8 (c : Int)] 5)) := (Below.refl _ _).alloc (Nat.le_refl _) _
    have HB0 : Hid _ := hb0
    clear hb0 hss hc HP
    go_enter Tryz.func17, Tryz.ntmps17
    go_wp2_with (go_at_call 48; refine (KB.out _ _).mono ?_; rintro e w' ⟨rfl, hw⟩; obtain rfl := hw.symm)
    refine (HL.out _).mono ?_
    rintro e w1 ⟨rfl, b1⟩
    go_wp2
    go_ret
    exact ⟨rfl, below2 HB0.out b1⟩
theorem sPieceLeaf_any (k n i : Int) (s : ByteArray) (w : World) (hs : s.size ≤ 1048576) :
  Calls Tryz.prog 18 #[.int .i64 k, .int .i64 n, .int .i64 i, .string s] w fun e w' => e = .returned (.string (plf k n i s)) ∧ Below w.heap.size w w' := by
 have KB : Hid (∀ (a : Int) (W : World), Calls Tryz.prog 50 #[.int .i64 a] W fun e w' => e = .returned (.bool (isB a)) ∧ w' = W) := fun a W => sIs_any a W
 cases h1 : isB k with
 | false =>
  rw [plf_no s (.inl h1)]
  go_enter Tryz.func18, Tryz.ntmps18
  go_wp2_with (go_at_call 50; refine (KB.out _ _).mono ?_; rintro e w' ⟨rfl, hw⟩; obtain rfl := hw.symm)
  go_ret
  exact ⟨rfl, Below.refl _ _⟩
 | true =>
  cases h2 : isB n with
  | false =>
   rw [plf_no s (.inr (.inl h2))]
   go_enter Tryz.func18, Tryz.ntmps18
   go_wp2_with (go_at_call 50; refine (KB.out _ _).mono ?_; rintro e w' ⟨rfl, hw⟩; obtain rfl := hw.symm)
   go_ret
   exact ⟨rfl, Below.refl _ _⟩
  | true =>
   cases h3 : isB i with
   | false =>
    rw [plf_no s (.inr (.inr h3))]
    go_enter Tryz.func18, Tryz.ntmps18
    go_wp2_with (go_at_call 50; refine (KB.out _ _).mono ?_; rintro e w' ⟨rfl, hw⟩; obtain rfl := hw.symm)
    go_ret
    exact ⟨rfl, Below.refl _ _⟩
   | true =>
    obtain ⟨k', hk, rfl⟩ := isB_nat h1
    obtain ⟨n', hn, rfl⟩ := isB_nat h2
    obtain ⟨i', hi, rfl⟩ := isB_nat h3
    have e1 : IntKind.u8.wrap (k' : Int) = (k' : Int) := by rw [IntKind.wrap_u8]; omega
    have e2 : IntKind.u8.wrap (n' : Int) = (n' : Int) := by rw [IntKind.wrap_u8]; omega
    have e3 : IntKind.u8.wrap (i' : Int) = (i' : Int) := by rw [IntKind.wrap_u8]; omega
    obtain ⟨sz, hsz⟩ : ∃ sz, s.size = sz := ⟨_, rfl⟩
    obtain ⟨c, hc⟩ : ∃ c, sz % 256 = c := ⟨_, rfl⟩
    have e5 : (sz : Int).tmod 256 = (c : Int) := by rw [Int.tmod_eq_emod_of_nonneg (by omega)]; omega
    have e4 : IntKind.u8.wrap (c : Int) = (c : Int) := by rw [IntKind.wrap_u8]; omega
    have HP : Hid (plf (k' : Int) (n' : Int) (i' : Int) s = lf (strOfNums [(k' : Int), (n' : Int), (i' : Int), (c : Int)] ++ s)) := by show _ = _; rw [plf_yes s hk hn hi, pHd, hsz, hc]
    rw [HP.out]
    have hcv := run_convert_bytes_arg (P := Tryz.prog) (w.alloc (.cells #[.int .u8 (k' : Int), .int .u8 (n' : Int), .int .u8 (i' : Int), .int .u8 (c : Int)] 5)) 22 5 Tryz.underlying22 Tryz.underlying5 w.heap.size 0 4 4 [(k' : Int), (n' : Int), (i' : Int), (c : Int)] rfl four_cells 9 Tryz.underlying9
    obtain ⟨hd, HH⟩ : ∃ hd, Hid (strOfNums [(k' : Int), (n' : Int), (i' : Int), (c : Int)] = hd) := ⟨_, rfl⟩
    have hhs : hd.size = 4 := by rw [← HH.out, strOfNums_size]; rfl
    rw [HH.out] at hcv ⊢
    have hss : (hd ++ s).size = 4 + sz := by rw [ByteArray.size_append, hhs, hsz]
    have HL : Hid (∀ W, Calls Tryz.prog 51 #[.string (hd ++ s)] W fun e w' => e = .returned (.string (lf (hd ++ s))) ∧ Below W.heap.size W w') := fun W => sleaf_wide _ W (by omega)
    have hb0 : Below w.heap.size w (w.alloc (.cells #[.int .u8 (k' : Int), .int .u8 (n' : Int), .int .u8 (i' : Int), .int .u8 (c : Int)] 5)) := (Below.refl _ _).alloc (Nat.le_refl _) _
    have HB0 : Hid _ := hb0
    clear hb0 hss hc HP
    go_enter Tryz.func18, Tryz.ntmps18
    go_wp2_with (go_at_call 50; refine (KB.out _ _).mono ?_; rintro e w' ⟨rfl, hw⟩; obtain rfl := hw.symm)
    refine (HL.out _).mono ?_
    rintro e w1 ⟨rfl, b1⟩
    go_wp2
    go_ret
    exact ⟨rfl, below2 HB0.out b1⟩
end Go.Proofs.YtihklfkhjpnjkaaGreatDoor
