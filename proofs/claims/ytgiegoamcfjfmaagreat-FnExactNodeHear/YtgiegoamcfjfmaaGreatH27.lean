/- A number put into an ascending list in the program: the library's search and withNode. Conditions: lists of at most 2^20. -/
import Derived.Test.YtgiegoamcfjfmaaGreatH22
import Derived.Test.YtgiegoamcfjfmaaGreatH6
namespace Go.Proofs.YtgiegoamcfjfmaaGreat
set_option maxRecDepth 2000
open Go.ChangeShapes Go.WideShapes Go.ChangeAt Go.RowKit

/-- How many of a list are less. -/
def cntI (zs : List Int) (x : Int) : Nat := zs.countP (· < x)
/-- A list with a number of a node in its place. -/
def putI (zs : List Int) (x : Int) : List Int := if x = -1 ∨ x ∈ zs then zs else zs.take (cntI zs x) ++ x :: zs.drop (cntI zs x)
theorem cntI_le (zs : List Int) (x : Int) : cntI zs x ≤ zs.length := List.countP_le_length
theorem putI_len (zs : List Int) (x : Int) : (putI zs x).length ≤ zs.length + 1 := by
  unfold putI
  have := cntI_le zs x
  split
  · omega
  · simp [List.length_take, List.length_drop]
    omega
set_option maxHeartbeats 1000000 in
theorem search_any (a : Option Addr) (c : Nat) (zs : List Int) (x : Int) (w : World) (h : IntsAt w a zs.length zs) (hn : zs.length ≤ 1048576) (hs : zs.Pairwise (· ≤ ·)) :
    Calls Tryz.prog 201 #[.slice a zs.length c, .int .i64 x] w fun e w' => e = .returned (.tuple #[.int .i64 (cntI zs x : Nat), .bool (zs.contains x)]) ∧ ∃ q, w' = w.drewN q := by
  cases zs with
  | nil =>
    go_enter Tryz.func201, Tryz.ntmps201
    go_wp2
    go_loopw [7, 8] (fun vi vj wr => vi = .int .i64 0 ∧ vj = .int .i64 0 ∧ wr = w) (fun _ _ _ => 0)
    case atStart => exact ⟨rfl, rfl, rfl⟩
    case round =>
      obtain ⟨rfl, rfl, hw⟩ := hrel
      obtain rfl := hw.symm
      go_wp2
      go_ret2
      exact ⟨rfl, 0, rfl⟩
  | cons z r =>
    obtain ⟨b, off, rfl, _⟩ := h.2 0 (by simp)
    have hc : ∀ j, j < (z :: r).length → w.cell? ⟨b, off + j, none⟩ = some (.int .i64 ((z :: r).getD j 0)) := fun j hj => by
      obtain ⟨b', off', e, hc⟩ := h.2 j hj
      cases e
      exact hc
    have et : (z :: r).take (z :: r).length = z :: r := List.take_length
    refine (Tryz.slices_BinarySearch_int b off (z :: r).length c (z :: r) x w (Nat.le_refl _) (by omega) hc (by rw [et]; exact hs)).mono ?_
    rintro e w' ⟨rfl, hw⟩
    rw [et]
    exact ⟨rfl, hw⟩
set_option maxHeartbeats 2000000 in
theorem withNode_any (B : Nat) (a : Option Addr) (c : Nat) (zs : List Int) (x : Int) (F : Nat → Prop) (w : World) (h : Ow w B (inD zs) (.slice a zs.length c) F) (hB : B ≤ w.heap.size) (hn : zs.length ≤ 1048576) (hs : zs.Pairwise (· ≤ ·)) :
    Calls Tryz.prog 179 #[.slice a zs.length c, .int .i64 x] w fun e w' => ∃ a' c', e = .returned (.slice a' (putI zs x).length c') ∧ Ow w' B (inD (putI zs x)) (.slice a' (putI zs x).length c') (fun y => F y ∨ w.heap.size ≤ y) ∧ Trn w w' F := by
  obtain ⟨a1, c1, e1, ho, hF⟩ := ints_ow h
  simp only [Value.slice.injEq, true_and] at e1
  obtain ⟨rfl, rfl⟩ := e1
  have KS : Hid _ := search_any a c zs x w (rd_ints.1 h.rd) hn hs
  obtain ⟨k, HK⟩ : ∃ y, Hid (cntI zs x = y) := ⟨_, rfl⟩
  obtain ⟨fd, HFD⟩ : ∃ y, Hid (zs.contains x = y) := ⟨_, rfl⟩
  obtain ⟨N, HN⟩ : ∃ y, Hid (zs.length = y) := ⟨_, rfl⟩
  have KH : Hid (Ow w B (inD zs) (.slice a zs.length c) F) := h
  rw [HK.out, HFD.out, HN.out] at KS
  rw [HN.out]
  clear h
  by_cases hp : x = -1 ∨ x ∈ zs
  · have ep : Hid (putI zs x = zs) := if_pos hp
    rw [ep.out, HN.out]
    have KZ : Hid (∀ q, Ow (w.drewN q) B (inD zs) (.slice a N c) (fun y => F y ∨ w.heap.size ≤ y) ∧ Trn w (w.drewN q) F) := fun q => ⟨by rw [← HN.out]; exact (KH.out.turned (Trn.drewN w q (fun _ => False)) (fun _ _ h => h)).mono (fun _ h => .inl h), Trn.drewN w q F⟩
    have hd : fd = true ∨ (fd = false ∧ x = -1) := by
      rw [← HFD.out]
      rcases hp with e | e
      · by_cases hx : x ∈ zs
        · exact .inl (by simpa using hx)
        · exact .inr ⟨by simpa using hx, e⟩
      · exact .inl (by simpa using e)
    rcases hd with rfl | ⟨rfl, rfl⟩
    · clear hp
      go_enter Tryz.func179, Tryz.ntmps179
      go_wp2_with fail
      refine Calls.mono KS.out ?_
      rintro e w1 ⟨rfl, q, rfl⟩
      go_wp2
      go_ret
      exact ⟨a, c, rfl, (KZ.out q).1, (KZ.out q).2⟩
    · clear hp
      go_enter Tryz.func179, Tryz.ntmps179
      go_wp2_with fail
      refine Calls.mono KS.out ?_
      rintro e w1 ⟨rfl, q, rfl⟩
      go_wp2
      go_ret
      exact ⟨a, c, rfl, (KZ.out q).1, (KZ.out q).2⟩
  · have hx1 : ¬ x = -1 := fun e => hp (.inl e)
    have hx2 : x ∉ zs := fun e => hp (.inr e)
    obtain rfl : fd = false := by rw [← HFD.out]; simpa using hx2
    have ep : putI zs x = zs.take k ++ x :: zs.drop k := by rw [← HK.out]; exact if_neg hp
    have hk : k ≤ zs.length := by rw [← HK.out]; exact cntI_le zs x
    obtain ⟨L, HL⟩ : ∃ y, Hid (putI zs x = y) := ⟨_, rfl⟩
    have hl : L.length = N + 1 := by rw [← HL.out, ep, ← HN.out]; simp [List.length_take, List.length_drop]; omega
    rw [HL.out, hl]
    have hxe : (x == -1) = false := by simpa using hx1
    have KI : Hid (∀ q, Calls Tryz.prog 202 #[.slice a N c, .int .i64 (k : Int), .slice (some ⟨w.heap.size, 0, none⟩) 1 1] ((w.drewN q).alloc (.cells #[.int .i64 x] 3)) fun e w' => ∃ g' c', e = .returned (.slice (some ⟨g', 0, none⟩) (N + 1) c') ∧ Ow w' B (inD L) (.slice (some ⟨g', 0, none⟩) (N + 1) c') (fun y => F y ∨ w.heap.size ≤ y) ∧ Trn w w' F) := fun q => by
      have bd : Below w.heap.size w (w.drewN q) := ⟨rfl, rfl, rfl, Nat.le_refl _, fun _ _ => rfl⟩
      have bq : Below w.heap.size w ((w.drewN q).alloc (.cells #[.int .i64 x] 3)) := bd.alloc (Nat.le_refl _) _
      have := ins_any B a zs c x k w.heap.size ((w.drewN q).alloc (.cells #[.int .i64 x] 3)) (ownsRow_below ho bq) (Nat.le_trans hB bq.size) hk hn (Row.new (w.drewN q) _ _) (fun y e => by
        have := (World.ownsRow.lt ho y.block (by rw [e]; rfl)).2
        omega)
      rw [HN.out, ← ep, HL.out] at this
      refine Calls.mono this ?_
      rintro e w' ⟨g', c', rfl, o', t', hg⟩
      refine ⟨g', c', rfl, ?_, (Trn.ofBelow F bq).trans (t'.mono (fun y e => hF _ e))⟩
      rw [← hl] at o' ⊢
      refine ow_ints o' (fun y e => ?_)
      cases e
      rcases hg with hg | hg
      · exact .inl (hF _ hg)
      · exact .inr (Nat.le_trans bq.size hg)
    clear hp hx2 ep hk hl ho hF
    go_enter Tryz.func179, Tryz.ntmps179
    go_wp2_with fail
    refine Calls.mono KS.out ?_
    rintro e w1 ⟨rfl, q, rfl⟩
    have KI2 : Hid _ := KI.out q
    clear KI
    go_wp2_with fail
    refine Calls.mono KI2.out ?_
    rintro e w2 ⟨g', c', rfl, o', t'⟩
    go_wp2
    go_ret
    exact ⟨_, c', rfl, o', t'⟩
end Go.Proofs.YtgiegoamcfjfmaaGreat
