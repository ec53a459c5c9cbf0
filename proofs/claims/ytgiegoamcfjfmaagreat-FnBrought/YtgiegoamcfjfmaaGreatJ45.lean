/- The slot of a root, begun where there is none, in the program. Conditions: lists and texts of at most 2^20. -/
import Derived.Test.YtgiegoamcfjfmaaGreatJ42
import Derived.Test.YtgiegoamcfjfmaaGreatJ43
namespace Go.Proofs.YtgiegoamcfjfmaaGreat
set_option maxRecDepth 2000
open Go.ChangeShapes Go.WideShapes Go.ChangeAt Go.RowKit

/-- A slot that begins. -/
def slR (r : ByteArray) : Sl := ⟨r, ⟨ByteArray.empty, 0, 0, 0, ByteArray.empty, 0, fun _ => ByteArray.empty⟩, false, false, false, false, [], []⟩
abbrev slRC (r : ByteArray) : Array Value := #[.string r, .string ⟨#[]⟩, .int .i64 0, .int .i64 0, .int .i64 0, .string ⟨#[]⟩, .slice none 0 0, .bool false, .bool false, .bool false, .bool false, .slice none 0 0, .slice none 0 0]
/-- How many slots there are then, and which. -/
def hrN (S : Nat → Sl) (r : ByteArray) (n : Nat) : Nat := if (plc S r n).isSome then n else n + 1
def slF (S : Nat → Sl) (r : ByteArray) (n i : Nat) : Sl := if i = n then slR r else S i
theorem ow_slR {W : World} {B : Nat} {r : ByteArray} (q : Nat) (hq : q < 13) : Ow W B (slD (slR r) q) ((slRC r).toList.getD q undef) (fun _ => False) := by
  match q, hq with
  | 0, _ | 1, _ | 2, _ | 3, _ | 4, _ | 5, _ | 7, _ | 8, _ | 9, _ | 10, _ => rfl
  | 6, _ | 11, _ | 12, _ => exact Ow.nil _ _ _ _ _ _
/-- A node that is changed: its own block, and its slots. -/
structure Nw (W : World) (B Nb : Nat) (id f : Int) (g n cap : Nat) (S : Nat → Sl) (F1 : Nat → Prop) : Prop where
  r : Row W Nb 34 #[.int .i64 id, .int .i64 f, .slice (some ⟨g, 0, none⟩) n cap]
  o : Ow W B (slsD n S) (.slice (some ⟨g, 0, none⟩) n cap) F1
  h1 : ¬ F1 Nb
  b : B ≤ Nb ∧ B ≤ W.heap.size
  l1 : ∀ x, F1 x → B ≤ x ∧ x < W.heap.size
theorem Nw.below {W W' : World} {B Nb : Nat} {id f : Int} {g n cap : Nat} {S : Nat → Sl} {F1 : Nat → Prop} (h : Nw W B Nb id f g n cap S F1) (hb : Below W.heap.size W W') : Nw W' B Nb id f g n cap S F1 :=
  ⟨h.r.below hb h.r.lt, h.o.below hb, h.h1, ⟨h.b.1, Nat.le_trans h.b.2 hb.size⟩, fun x hx => ⟨(h.l1 x hx).1, Nat.lt_of_lt_of_le (h.l1 x hx).2 hb.size⟩⟩
theorem slot_more {S : Nat → Sl} {n : Nat} {r : ByteArray} (i q : Nat) (_hi : i < n + 1) : (if i = n then slD (slR r) else slD (S i)) q = slD (slF S r n i) q := by
  unfold slF
  by_cases e : i = n
  · rw [if_pos e, if_pos e]
  · rw [if_neg e, if_neg e]
/-- append of a slot that begins, in a region that draws. -/
theorem step_slot {ops : Array Oper} {o : Oper} {a : Act} {K : Act → World → Prop} {Q : Exit → Act → World → Prop} {E : Prop} (w7 : World) (hgd : o.guard = none) (s x : Operand)
    (ho : o.op = .call { callee := .builtin .append, args := #[s, x], argTypes := #[32, 32] })
    (id f : Int) (B Nb g n cap : Nat) (S : Nat → Sl) (r : ByteArray) (F1 : Nat → Prop)
    (hs : a.eval s = .slice (some ⟨g, 0, none⟩) n cap) (hx : a.eval x = .slice (some ⟨w7.heap.size, 0, none⟩) 1 1)
    (h7 : Nw (w7.alloc (.cells (slRC r) 62)) B Nb id f g n cap S F1) (hm : n ≤ 2000000)
    (h : ∀ g8 c8 w8 F8, Row w8 Nb 34 #[.int .i64 id, .int .i64 f, .slice (some ⟨g, 0, none⟩) n cap] ∧ Nw (w8.setCell ⟨Nb, 2, none⟩ (.slice (some ⟨g8, 0, none⟩) (n + 1) c8)) B Nb id f g8 (n + 1) c8 (slF S r n) F8 ∧ Trn (w7.alloc (.cells (slRC r) 62)) (w8.setCell ⟨Nb, 2, none⟩ (.slice (some ⟨g8, 0, none⟩) (n + 1) c8)) (fun x => x = Nb ∨ F1 x) ∧ (∀ x, F8 x → F1 x ∨ w7.heap.size < x) → K (a.put o.dst (.slice (some ⟨g8, 0, none⟩) (n + 1) c8)) w8) :
    if Region.wanted o (yielded ops a.tmps) = true then Oper.wp Tryz.prog o a (w7.alloc (.cells (slRC r) 62)) K Q else E := by
  obtain ⟨i0, hi, hz0, hz1, hz2⟩ := info_parts Tryz.infoSlZ
  refine step_snoc _ hgd s x 32 ho B 62 i0 (.agg zcS.toArray) 13 _ Tryz.underlying32 hi hz0 hz1 hz2 rfl (by decide) (.slice (some ⟨g, 0, none⟩) n cap) n _ F1 hs h7.o ⟨w7.heap.size, 0, none⟩ 1 (slRC r).toList hx rfl (World.news_of_block (t := 62) (fr := (0, 0)) (Row.new w7 _ _)) (by simp [Value.oneCell']) (slD (slR r)) (fun _ _ => False) (fun q hq => ow_slR q hq) (fun _ _ _ h => h.elim) (fun _ _ _ _ _ h => h.elim) (by unfold maxLen; omega) (by omega) h7.b.2 fun g8 c8 w8 O8 b8 T8 => ?_
  have e : (w7.alloc (.cells (slRC r) 62)).heap.size = w7.heap.size + 1 := by simp
  have O9 : Ow w8 B (slsD (n + 1) (slF S r n)) (.slice (some ⟨g8, 0, none⟩) (n + 1) c8) (fun x => x < w8.heap.size ∧ (F1 x ∨ w7.heap.size < x)) := (O8.mono (fun x hx => ⟨hx.1, by
    rcases hx.2 with (h | ⟨_, _, h⟩) | h
    · exact .inl h
    · exact h.elim
    · rw [e] at h
      exact .inr h⟩)).congr (fun i q hi _ => slot_more i q hi)
  have hr : Row w8 Nb 34 #[.int .i64 id, .int .i64 f, .slice (some ⟨g, 0, none⟩) n cap] := (T8.block Nb h7.r.lt h7.h1).trans h7.r
  have h8 : ¬ (Nb < w8.heap.size ∧ (F1 Nb ∨ w7.heap.size < Nb)) := fun k => by
    rcases k.2 with k | k
    · exact h7.h1 k
    · have := h7.r.lt; omega
  exact h g8 c8 w8 _ ⟨hr, ⟨hr.set 2 _, O9.far 2 _ h8, h8, ⟨h7.b.1, by simpa using Nat.le_trans h7.b.2 T8.size⟩, fun x k => ⟨by rcases k.2 with k | k; exact (h7.l1 x k).1; have := h7.b.2; omega, by simpa using k.1⟩⟩, (T8.mono (fun _ k => .inr k)).trans (Trn.set _ 2 _ (.inl rfl)), fun x hx => hx.2⟩
set_option maxHeartbeats 8000000 in
theorem slotFor_any (id f : Int) (B Nb g n cap : Nat) (S : Nat → Sl) (r : ByteArray) (F1 : Nat → Prop) (w : World) (h : Nw w B Nb id f g n cap S F1) (hn : n ≤ 1048576) (hr : r.size ≤ 1048576) :
    Calls Tryz.prog 137 #[.pointer (some ⟨Nb, 0, none⟩), .string r] w fun e w' => ∃ g' cap' F1', e = .returned (.pointer (some ⟨g', plN S r n * 13, none⟩)) ∧ Nw w' B Nb id f g' (hrN S r n) cap' (slF S r n) F1' ∧ Trn w w' (fun x => x = Nb ∨ F1 x) ∧ ∀ x, F1' x → F1 x ∨ w.heap.size ≤ x := by
  have KH : Hid (Nw w B Nb id f g n cap S F1) := h
  have KP : Hid _ := placeOf_any id f (some ⟨g, 0, none⟩) n cap S r w h.o.rd hn
  have KC : Hid (∀ W, Calls Tryz.prog 91 #[.string r] W fun e w' => e = .returned (.string r) ∧ Below W.heap.size W w') := fun W => clone_any r W hr
  have RN : Hid _ := h.r
  cases hp : plc S r n with
  | some x =>
    have ex : Hid (plX S r n = (x : Int) ∧ plN S r n = x ∧ hrN S r n = n) := ⟨by unfold plX; rw [hp], by unfold plN; rw [hp], by unfold hrN; rw [hp]; rfl⟩
    obtain ⟨_, hx, _, _⟩ := plF_some hp
    have hxn : x < n := by omega
    have hxi : (x : Int) < (n : Int) := by omega
    rw [ex.out.1] at KP
    rw [ex.out.2.1, ex.out.2.2]
    have nx : ¬ ((x : Int) < 0) := by omega
    clear h hp hx
    go_enter Tryz.func137, Tryz.ntmps137
    go_wp2_with (refine wpList_load_row (by rfl) 34 _ (by rfl) Nb (by rfl) 34 #[.int .i64 id, .int .i64 f, .slice (some ⟨g, 0, none⟩) n cap] (0, 0) _ ?_ Tryz.underlying34 (by rfl) Tryz.infoNd ?_; exact RN.out)
    refine Calls.mono KP.out ?_
    rintro e w1 ⟨rfl, b1⟩
    have K1 : Hid (Nw w1 B Nb id f g n cap S F1) := KH.out.below b1
    have y2 := K1.out.r.cell 2
    simp at y2
    have KZ : Hid (Nw w1 B Nb id f g n cap (slF S r n) F1 ∧ Trn w w1 (fun x => x = Nb ∨ F1 x) ∧ ∀ x, F1 x → F1 x ∨ w.heap.size ≤ x) := ⟨⟨K1.out.r, K1.out.o.congr (fun i q hi _ => by show _ = slD (slF S r n i) q; unfold slF; rw [if_neg (by omega)]), K1.out.h1, K1.out.b, K1.out.l1⟩, Trn.ofBelow _ b1, fun _ h => .inl h⟩
    clear b1
    go_wp2
    go_ret
    exact ⟨g, cap, F1, rfl, KZ.out⟩
  | none =>
    have ex : Hid (plX S r n = -1 ∧ plN S r n = n ∧ hrN S r n = n + 1) := ⟨by unfold plX; rw [hp], by unfold plN; rw [hp], by unfold hrN; rw [hp]; rfl⟩
    rw [ex.out.1] at KP
    rw [ex.out.2.1, ex.out.2.2]
    clear h hp
    go_enter Tryz.func137, Tryz.ntmps137
    go_wp2_with (refine wpList_load_row (by rfl) 34 _ (by rfl) Nb (by rfl) 34 #[.int .i64 id, .int .i64 f, .slice (some ⟨g, 0, none⟩) n cap] (0, 0) _ ?_ Tryz.underlying34 (by rfl) Tryz.infoNd ?_; exact RN.out)
    refine Calls.mono KP.out ?_
    rintro e w1 ⟨rfl, b1⟩
    have K1 : Hid (Nw w1 B Nb id f g n cap S F1 ∧ Below w.heap.size w w1) := ⟨KH.out.below b1, b1⟩
    have y2 := K1.out.1.r.cell 2
    have f2 := K1.out.1.r.free 2
    simp at y2
    clear b1
    have KNX : Hid (∀ w7, Below w1.heap.size w1 w7 → Nw (w7.alloc (.cells (slRC r) 62)) B Nb id f g n cap S F1 ∧ Below w1.heap.size w1 (w7.alloc (.cells (slRC r) 62)) ∧ Nb < w7.heap.size ∧ w7.cell? ⟨Nb, 2, none⟩ = some (.slice (some ⟨g, 0, none⟩) n cap)) := fun w7 b7 => by
      have b8 : Below w7.heap.size w7 (w7.alloc (.cells (slRC r) 62)) := (Below.refl _ _).alloc (Nat.le_refl _) _
      have q2 := (K1.out.1.below b7).r.cell 2
      simp at q2
      exact ⟨(K1.out.1.below b7).below b8, below2 b7 b8, (K1.out.1.below b7).r.lt, q2⟩
    go_upto_region 4 with fail
    go_region_law ((first | (guard_hyp K7; refine step_slot w7 (by rfl) _ _ (by rfl) id f B Nb g n cap S r F1 (by rfl) (by rfl) ?_ ?_ ?_; exact K7.out.1; omega; intro g8 c8 w8 F8 hK8; have K8 : Hid _ := hK8; have z2 := hK8.1.cell 2; have zf := hK8.1.free 2; simp at z2; clear hK8) | (go_simp; go_wp2_with (go_at_call 91; refine Calls.mono (KC.out _) ?_; rintro e w7 ⟨rfl, b7'⟩; have b7 := below_of_drew b7'; clear b7'; have K7 : Hid _ := KNX.out _ b7; have lt7 := K7.out.2.2.1; have p2 := K7.out.2.2.2; have q2 := K7.out.1.r.cell 2; simp at q2))))
    all_goals
      have KR : Hid (Nw (w8.setCell ⟨Nb, 2, none⟩ (.slice (some ⟨g8, 0, none⟩) (n + 1) c8)) B Nb id f g8 (n + 1) c8 (slF S r n) F8 ∧ Trn w (w8.setCell ⟨Nb, 2, none⟩ (.slice (some ⟨g8, 0, none⟩) (n + 1) c8)) (fun x => x = Nb ∨ F1 x) ∧ ∀ x, F8 x → F1 x ∨ w.heap.size ≤ x) := by
        obtain ⟨_, q, t, hF8⟩ := K8.out
        have hs7 := K7.out.2.1.size
        have hsw := K1.out.2.size
        have e : (w7.alloc (.cells (slRC r) 62)).heap.size = w7.heap.size + 1 := by simp
        refine ⟨q, ((Trn.ofBelow _ K1.out.2).trans (Trn.ofBelow _ K7.out.2.1)).trans t, fun x hx => ?_⟩
        rcases hF8 x hx with h | h
        · exact .inl h
        · exact .inr (by omega)
      obtain ⟨w9, HW9⟩ : ∃ x, Hid (x = w8.setCell ⟨Nb, 2, none⟩ (.slice (some ⟨g8, 0, none⟩) (n + 1) c8)) := ⟨_, rfl⟩
      rw [← HW9.out] at KR
      have y9 := KR.out.1.r.cell 2
      simp at y9
      have hi1 : (n : Int) < ((n + 1 : Nat) : Int) := by omega
      clear z2 zf
      go_upto_region 5 with fail
      rw [← HW9.out]
      go_wp2
      go_ret
      exact ⟨g8, c8, F8, rfl, KR.out⟩
end Go.Proofs.YtgiegoamcfjfmaaGreat
