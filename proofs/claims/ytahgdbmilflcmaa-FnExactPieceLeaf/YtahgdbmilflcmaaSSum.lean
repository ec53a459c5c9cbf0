/- The sixteen bytes that stand for a text, in the program and in its model: what each answers. Condition: a text of at most 2^20 bytes. -/
import Derived.Test.YtahgdbmilflcmaaSLong
import Derived.Test.YtahgdbmilflcmaaSSip
import Derived.Test.YtahgdbmilflcmaaSSipS
namespace Go.Proofs.Ytahgdbmilflcmaa
set_option maxRecDepth 2000
open Go.ChangeShapes Go.WideShapes Go.ChangeAt Go.RowKit
open Gs (U)

def sumS (s : ByteArray) : ByteArray := strOfNums (lx (Gs.sip (tat s) 1#64 2#64 s.size)) ++ strOfNums (lx (Gs.sip (tat s) 3#64 4#64 s.size))
theorem lxs_size (x : BitVec 64) : (strOfNums (lx x)).size = 8 := by rw [strOfNums_size, lx_len]
theorem sumS_size (s : ByteArray) : (sumS s).size = 16 := by
  unfold sumS
  rw [ByteArray.size_append, lxs_size, lxs_size]

set_option maxHeartbeats 1000000 in
theorem sum_wide (s : ByteArray) (w : World) (hs : s.size ≤ 4194304) :
    Calls Try.prog 79 #[.string s] w fun e w' => e = .returned (.string (sumS s)) ∧ Below w.heap.size w w' := by
  have z1 := lxs_size (Gs.sip (tat s) 1#64 2#64 s.size)
  have z2 := lxs_size (Gs.sip (tat s) 3#64 4#64 s.size)
  have HS : Hid (sumS s = strOfNums (lx (Gs.sip (tat s) 1#64 2#64 s.size)) ++ strOfNums (lx (Gs.sip (tat s) 3#64 4#64 s.size))) := rfl
  go_enter Try.func79, Try.ntmps79
  go_wp2_with fail
  refine (sip_wide 1#64 2#64 s _ hs).mono ?_
  rintro e w1 ⟨rfl, hb1⟩
  go_wp2_with fail
  refine (longText_any _ _).mono ?_
  rintro e w2 ⟨rfl, hb2⟩
  go_wp2_with fail
  refine (sip_wide 3#64 4#64 s _ hs).mono ?_
  rintro e w3 ⟨rfl, hb3⟩
  go_wp2_with fail
  refine (longText_any _ _).mono ?_
  rintro e w4 ⟨rfl, hb4⟩
  have hb := below2 (below2 hb1 hb2) (below2 hb3 hb4)
  generalize strOfNums (lx (Gs.sip (tat s) 1#64 2#64 s.size)) = t1 at z1 HS ⊢
  generalize strOfNums (lx (Gs.sip (tat s) 3#64 4#64 s.size)) = t2 at z2 HS ⊢
  go_wp2
  go_ret
  exact ⟨by rw [HS.out]; rfl, hb⟩

theorem sum_any (s : ByteArray) (w : World) (hs : s.size ≤ 1048576) :
    Calls Try.prog 79 #[.string s] w fun e w' => e = .returned (.string (sumS s)) ∧ Below w.heap.size w w' := sum_wide s w (by omega)
set_option maxHeartbeats 1000000 in
theorem sSum_wide (s : ByteArray) (w : World) (hs : s.size ≤ 4194304) :
    Calls Try.prog 78 #[.string s] w fun e w' => e = .returned (.string (sumS s)) ∧ Below w.heap.size w w' := by
  have z1 := lxs_size (Gs.sip (tat s) 1#64 2#64 s.size)
  have z2 := lxs_size (Gs.sip (tat s) 3#64 4#64 s.size)
  have HS : Hid (sumS s = strOfNums (lx (Gs.sip (tat s) 1#64 2#64 s.size)) ++ strOfNums (lx (Gs.sip (tat s) 3#64 4#64 s.size))) := rfl
  go_enter Try.func78, Try.ntmps78
  go_wp2_with fail
  refine (sSip_wide 1#64 2#64 s _ hs).mono ?_
  rintro e w1 ⟨rfl, hb1⟩
  go_wp2_with fail
  refine (sLongText_any _ _).mono ?_
  rintro e w2 ⟨rfl, hb2⟩
  go_wp2_with fail
  refine (sSip_wide 3#64 4#64 s _ hs).mono ?_
  rintro e w3 ⟨rfl, hb3⟩
  go_wp2_with fail
  refine (sLongText_any _ _).mono ?_
  rintro e w4 ⟨rfl, hb4⟩
  have hb := below2 (below2 hb1 hb2) (below2 hb3 hb4)
  generalize strOfNums (lx (Gs.sip (tat s) 1#64 2#64 s.size)) = t1 at z1 HS ⊢
  generalize strOfNums (lx (Gs.sip (tat s) 3#64 4#64 s.size)) = t2 at z2 HS ⊢
  have h16 : (t1 ++ t2).size = 16 := by rw [ByteArray.size_append]; omega
  have hcut : (t1 ++ t2).extract 0 16 = t1 ++ t2 := by rw [← h16]; exact ByteArray.extract_zero_size
  go_wp2
  go_ret
  exact ⟨by rw [HS.out]; rfl, hb⟩
theorem sSum_any (s : ByteArray) (w : World) (hs : s.size ≤ 1048576) :
    Calls Try.prog 78 #[.string s] w fun e w' => e = .returned (.string (sumS s)) ∧ Below w.heap.size w w' := sSum_wide s w (by omega)
end Go.Proofs.Ytahgdbmilflcmaa
