/- A piece, copied, in the model. Condition: at most 2^20 texts. Written by a program. -/
import Derived.Test.YtjhbjfplgmcbpaaI28
namespace Go.Proofs.Ytjhbjfplgmcbpaa
set_option maxRecDepth 2000
open Go.ChangeShapes Go.WideShapes Go.ChangeAt Go.RowKit

theorem txt_news {w : World} {ad : Addr} {m : Nat} {S : Nat → ByteArray} (h : TxtAt w (some ad) m S) : ∀ (j : Nat) (u : Value), (sL S m)[j]? = some u → w.cell? (ad.add j) = some u := fun j u hu => by
  have hj : j < m := by
    have := (List.getElem?_eq_some_iff.1 hu).1
    rw [sL_len] at this
    exact this
  obtain ⟨b, off, e, hc⟩ := h j hj
  cases e
  have ea : (⟨b, off, none⟩ : Addr).add j = ⟨b, off + j, none⟩ := by unfold Addr.add; split <;> simp_all
  rw [ea, hc, ← hu, sL_get _ _ _ hj]
theorem wpList_app_none {ops : Array Oper} {rest : List Oper} {o : Oper} {a : Act} {Q : Exit → Act → World → Prop} (w : World) (hgd : o.guard = none) (s x : Nat) (ho : o.op = .call { callee := .builtin .append, args := #[.tmp s, .tmp x], argTypes := #[23, 23] }) (G c : Nat) (hs : a.eval (.tmp s) = .slice (some ⟨G, 0, none⟩) 0 0) (hx : a.eval (.tmp x) = .slice none 0 c) (h : wpList Try.prog ops Q rest (a.put o.dst (.slice (some ⟨G, 0, none⟩) 0 0)) w) : wpList Try.prog ops Q (o :: rest) a w := by
  refine wpList_plain hgd fun K hK => ?_
  obtain ⟨dst, op, ty, pos, aft, gd⟩ := o
  simp only at ho hgd
  subst ho hgd
  have hk := hK _ _ h
  have hs' : a.tmps[s]?.getD undef = .slice (some ⟨G, 0, none⟩) 0 0 := by simpa [Act.eval] using hs
  have hx' : a.tmps[x]?.getD undef = .slice none 0 c := by simpa [Act.eval] using hx
  clear hs hx h hK
  go_simp
  exact hk
theorem wpList_app_ints {ops : Array Oper} {rest : List Oper} {o : Oper} {a : Act} {Q : Exit → Act → World → Prop} (w : World) (hgd : o.guard = none) (s x : Nat) (ho : o.op = .call { callee := .builtin .append, args := #[.tmp s, .tmp x], argTypes := #[23, 23] }) (base G : Nat) (hs : a.eval (.tmp s) = .slice (some ⟨G, 0, none⟩) 0 0) (hown : w.ownsRow base 3 1 (.slice (some ⟨G, 0, none⟩) 0 0) 0 []) (ad : Option Addr) (zs : List Int) (c : Nat) (hx : a.eval (.tmp x) = .slice ad zs.length c) (hI : IntsAt w ad zs.length zs) (hn : zs.length ≤ 1048576) (hbase : base ≤ w.heap.size)
    (h : ∀ g cap w', w'.ownsRow base 3 1 (.slice (some ⟨g, 0, none⟩) zs.length cap) zs.length (zs.map (Value.int .i64)) → w.grownBy w' (some G) → wpList Try.prog ops Q rest (a.put o.dst (.slice (some ⟨g, 0, none⟩) zs.length cap)) w') : wpList Try.prog ops Q (o :: rest) a w := by
  obtain ⟨i0, hi, hz0, hz1, hz2⟩ : ∃ i0, Try.prog.info? 3 = some i0 ∧ i0.zero = some (.int .i64 0) ∧ i0.size = 1 ∧ i0.bytes = 8 := ⟨_, rfl, rfl, rfl, rfl⟩
  match ad, hx, hI with
  | none, hx, hI =>
    have e0 : zs.length = 0 := by
      by_cases h0 : zs.length = 0
      · exact h0
      · obtain ⟨b, off, e, _⟩ := hI.2 0 (by omega)
        cases e
    have ez : zs = [] := List.length_eq_zero_iff.1 e0
    subst ez
    exact wpList_app_none w hgd s x ho G c hs hx (h G 0 w hown ⟨rfl, rfl, rfl, Nat.le_refl _, fun _ _ _ => rfl⟩)
  | some ⟨b, off, sp⟩, hx, hI =>
    refine wpList_append_all w hgd (.tmp s) (.tmp x) 23 ho base 3 i0 (.int .i64 0) 1 8 Try.underlying23 hi hz0 hz1 hz2 rfl (by decide) G 0 0 [] hs hown ⟨b, off, sp⟩ zs.length c (zs.map (Value.int .i64)) hx (by simp) (fun j u hu => ?_) (by simp [Value.oneCell']) (by unfold maxLen; omega) (by omega) hbase fun g cap w' h1 h2 => ?_
    · have hj : 0 < zs.length := by
        have := (List.getElem?_eq_some_iff.1 hu).1
        simp at this
        omega
      have e := ints_spot hI hj
      simp at e
      subst e
      exact ints_news hI j u hu
    · have := h g cap w' (by simpa using h1) h2
      simpa using this
set_option maxHeartbeats 4000000 in
theorem sCopyP_any (r : ByteArray) (k n i : Int) (b : ByteArray) (a : Option Addr) (m c : Nat) (S : Nat → ByteArray) (w : World) (h : TxtAt w a m S) (hm : m ≤ 1048576) :
    Calls Try.prog 62 #[pcV r k n i b (.slice a m c)] w fun e w' => ∃ g c', e = .returned (pcV r k n i b (.slice (some ⟨g, 0, none⟩) m c')) ∧ OwnT w' w.heap.size (some ⟨g, 0, none⟩) m c' S ∧ Below w.heap.size w w' := by
  obtain ⟨i0, hi, hz0, hz1, hz2⟩ := info_parts Try.infoStr
  obtain ⟨A, HA⟩ : ∃ x, Hid (x = w.heap.size) := ⟨_, rfl⟩
  obtain ⟨D, HD⟩ : ∃ x, Hid (x = w.heap.size + 1) := ⟨_, rfl⟩
  obtain ⟨G, HG⟩ : ∃ x, Hid (x = w.heap.size + 1 + 1) := ⟨_, rfl⟩
  obtain ⟨w0, HW0⟩ : ∃ x, Hid (x = ((w.alloc (.cells (pcC r k n i b (.slice a m c)) 58)).alloc (.cells #[.string ⟨#[]⟩, .int .i64 0, .int .i64 0, .int .i64 0, .string ⟨#[]⟩, .slice none 0 0] 58)).alloc (.cells #[] 9)) := ⟨_, rfl⟩
  have RA : Hid (Row w0 A 58 (pcC r k n i b (.slice a m c))) := by show Row _ _ _ _; rw [HW0.out, HA.out]; exact Row.alloc (Row.alloc (Row.new w _ _) _) _
  have RD : Hid (Row w0 D 58 #[.string ⟨#[]⟩, .int .i64 0, .int .i64 0, .int .i64 0, .string ⟨#[]⟩, .slice none 0 0]) := by
    show Row _ _ _ _
    rw [HW0.out, HD.out]
    have := Row.new (w.alloc (.cells (pcC r k n i b (.slice a m c)) 58)) #[.string ⟨#[]⟩, .int .i64 0, .int .i64 0, .int .i64 0, .string ⟨#[]⟩, .slice none 0 0] 58
    exact Row.alloc (by simpa using this) _
  have hb0 : Below w.heap.size w w0 := by rw [HW0.out]; exact (((Below.refl _ _).alloc (Nat.le_refl _) _).alloc (by simp) _).alloc (by simp; omega) _
  have KB0 : Hid (Below w.heap.size w w0) := hb0
  have HO : Hid (w0.ownsRow G 9 1 (.slice (some ⟨G, 0, none⟩) 0 0) 0 []) := by
    show World.ownsRow _ _ _ _ _ _ _
    rw [HW0.out, HG.out]
    have := World.ownsRow_lit (e := 9) (size := 1) (base := ((w.alloc (.cells (pcC r k n i b (.slice a m c)) 58)).alloc (.cells #[.string ⟨#[]⟩, .int .i64 0, .int .i64 0, .int .i64 0, .string ⟨#[]⟩, .slice none 0 0] 58)).heap.size) ((w.alloc (.cells (pcC r k n i b (.slice a m c)) 58)).alloc (.cells #[.string ⟨#[]⟩, .int .i64 0, .int .i64 0, .int .i64 0, .string ⟨#[]⟩, .slice none 0 0] 58)) #[] 0 (by simp) (by unfold maxLen; omega) (by simp)
    simpa using this
  have HL : Hid (A ≠ D ∧ w.heap.size ≤ A ∧ w.heap.size ≤ D ∧ A < G ∧ D < G ∧ w.heap.size ≤ G ∧ G ≤ w0.heap.size) := by
    have h1 := HA.out; have h2 := HD.out; have h3 := HG.out
    have h4 := (World.ownsRow.lt HO.out G rfl).2
    exact ⟨by omega, by omega, by omega, by omega, by omega, by omega, by omega⟩
  have FIN : Hid (∀ (W : World) (g c' : Nat), Row W A 58 (pcC r k n i b (.slice a m c)) → Row W D 58 #[.string ⟨#[]⟩, .int .i64 0, .int .i64 0, .int .i64 0, .string ⟨#[]⟩, .slice none 0 0] → OwnT W G (some ⟨g, 0, none⟩) m c' S → Below w.heap.size w W → Row (W.setCell ⟨A, 5, none⟩ (.slice (some ⟨g, 0, none⟩) m c')) A 58 (pcC r k n i b (.slice (some ⟨g, 0, none⟩) m c')) ∧ Row (W.setCell ⟨A, 5, none⟩ (.slice (some ⟨g, 0, none⟩) m c')) D 58 #[.string ⟨#[]⟩, .int .i64 0, .int .i64 0, .int .i64 0, .string ⟨#[]⟩, .slice none 0 0] ∧ Row ((W.setCell ⟨A, 5, none⟩ (.slice (some ⟨g, 0, none⟩) m c')).setRow D (pcC r k n i b (.slice (some ⟨g, 0, none⟩) m c'))) D 58 (pcC r k n i b (.slice (some ⟨g, 0, none⟩) m c')) ∧ OwnT ((W.setCell ⟨A, 5, none⟩ (.slice (some ⟨g, 0, none⟩) m c')).setRow D (pcC r k n i b (.slice (some ⟨g, 0, none⟩) m c'))) w.heap.size (some ⟨g, 0, none⟩) m c' S ∧ Below w.heap.size w ((W.setCell ⟨A, 5, none⟩ (.slice (some ⟨g, 0, none⟩) m c')).setRow D (pcC r k n i b (.slice (some ⟨g, 0, none⟩) m c')))) := fun W g c' h1 h2 h3 h4 => by
    have l := World.ownsRow.lt h3 g rfl
    refine ⟨h1.set 5 _, h2.other 5 _ (Ne.symm HL.out.1), (h2.other 5 _ (Ne.symm HL.out.1)).row, ?_, belowSetRow (h4.setCell HL.out.2.1 _) HL.out.2.2.1 _⟩
    refine own_kept (OwnT.base (h3.setFar HL.out.2.2.2.1) HL.out.2.2.2.2.2.1) (grown_row _ _ _) (fun x e => ?_)
    cases e
    show g ≠ D
    have := HL.out.2.2.2.2.1
    omega
  have x5 := RA.out.cell 5
  have f5 := RA.out.free 5
  have lA := RA.out.lt
  simp at x5
  match a, h with
  | none, h =>
    have e0 : m = 0 := by
      by_cases h0 : m = 0
      · exact h0
      · obtain ⟨b', off, e, _⟩ := h 0 (by omega)
        cases e
    subst e0
    clear h hb0
    go_enter Try.func62, Try.ntmps62
    go_wp2_with fail
    refine bodyPost_ret (v := pcV r k n i b (.slice (some ⟨w.heap.size + 1 + 1, 0, none⟩) 0 0)) (by simp [results, Try.results62, go_sem]) rfl ⟨w.heap.size + 1 + 1, 0, rfl, ?_, (((Below.refl _ _).alloc (Nat.le_refl _) _).alloc (by simp) _).alloc (by simp; omega) _⟩
    have := World.ownsRow_lit (e := 9) (size := 1) (base := w.heap.size) ((w.alloc (.cells (pcC r k n i b (.slice (some ⟨w.heap.size + 1 + 1, 0, none⟩) 0 0)) 58)).alloc (.cells (pcC r k n i b (.slice (some ⟨w.heap.size + 1 + 1, 0, none⟩) 0 0)) 58)) #[] 0 (by simp; omega) (by unfold maxLen; omega) (by simp)
    unfold OwnT
    simpa [sL] using this
  | some ad, h =>
    have HNW : Hid (∀ (j : Nat) (u : Value), (sL S m)[j]? = some u → w0.cell? (ad.add j) = some u) := fun j u hu => by
      have := txt_news h j u hu
      rw [hb0.cell (block_lt_of_cell this)]
      exact this
    have HLL : Hid ((sL S m).length = m * 1) := by show _ = _; rw [sL_len]; omega
    have HONE : Hid (∀ u ∈ sL S m, u.oneCell' = true) := by
      show ∀ u ∈ sL S m, _
      intro u hu
      obtain ⟨j, hj⟩ := List.getElem?_of_mem hu
      have hjm : j < m := by have := (List.getElem?_eq_some_iff.1 hj).1; rw [sL_len] at this; exact this
      rw [sL_get _ _ _ hjm] at hj
      cases hj
      rfl
    clear h hb0
    go_enter Try.func62, Try.ntmps62
    go_wp2_with (first | (at_builtin; rw [← HW0.out, ← HG.out, ← HD.out, ← HA.out]; refine wpList_append_all _ (by rfl) _ _ 56 (by rfl) G 9 i0 (.string ByteArray.empty) 1 16 Try.underlying56 hi hz0 hz1 hz2 rfl (by decide) G 0 0 [] (by rfl) ?_ ad m c (sL S m) (by rfl) ?_ ?_ ?_ (by unfold maxLen; omega) (by omega) ?_ ?_; exact HO.out; exact HLL.out; exact HNW.out; exact HONE.out; exact HL.out.2.2.2.2.2.2; intro g3 cap3 w3 hown3 hgrow3; have bG : Below G w0 w3 := (Below.refl _ _).grown hgrow3 HL.out.2.2.2.2.2.2 (fun x hx => by cases hx; exact Nat.le_refl _); have KK3 : Row w3 A 58 (pcC r k n i b (.slice (some ad) m c)) ∧ Row w3 D 58 #[.string ⟨#[]⟩, .int .i64 0, .int .i64 0, .int .i64 0, .string ⟨#[]⟩, .slice none 0 0] ∧ OwnT w3 G (some ⟨g3, 0, none⟩) m cap3 S ∧ Below w.heap.size w w3 := ⟨RA.out.below bG HL.out.2.2.2.1, RD.out.below bG HL.out.2.2.2.2.1, (by have := hown3; unfold OwnT; simpa using this), KB0.out.grown hgrow3 KB0.out.size (fun x hx => by cases hx; exact HL.out.2.2.2.2.2.1)⟩; have y5 := KK3.1.cell 5; have g5 := KK3.1.free 5; simp at y5; have KD3 : Hid _ := KK3; clear hown3 hgrow3 bG KK3 x5 f5) | (refine wpList_load_row (by rfl) 58 _ (by rfl) A (by rfl) 58 (pcC r k n i b (.slice (some ⟨g3, 0, none⟩) m cap3)) (0, 0) _ ?_ Try.underlying58 (by rfl) Try.infoPc ?_; exact (FIN.out w3 g3 cap3 KD3.out.1 KD3.out.2.1 KD3.out.2.2.1 KD3.out.2.2.2).1) | (refine wpList_store_row (by rfl) 58 _ _ (by rfl) D (pcC r k n i b (.slice (some ⟨g3, 0, none⟩) m cap3)) (by rfl) (by rfl) 58 #[.string ⟨#[]⟩, .int .i64 0, .int .i64 0, .int .i64 0, .string ⟨#[]⟩, .slice none 0 0] ?_ Try.infoPc rfl (by simp [Value.oneCell']) ?_; exact (FIN.out w3 g3 cap3 KD3.out.1 KD3.out.2.1 KD3.out.2.2.1 KD3.out.2.2.2).2.1))
    have KF := FIN.out w3 g3 cap3 KD3.out.1 KD3.out.2.1 KD3.out.2.2.1 KD3.out.2.2.2
    exact bodyPost_ret (v := pcV r k n i b (.slice (some ⟨g3, 0, none⟩) m cap3)) (results_cell_row Try.results62 _ _ D 58 _ (0, 0) _ (by rfl) KF.2.2.1 Try.underlying58 (by rfl) Try.infoPc) rfl ⟨g3, cap3, rfl, KF.2.2.2.1, KF.2.2.2.2⟩
end Go.Proofs.Ytjhbjfplgmcbpaa
/- append of numbers onto a row of ours, in a region that draws. -/
namespace Go.Proofs.Ytjhbjfplgmcbpaa
set_option maxRecDepth 2000
open Go.ChangeShapes Go.WideShapes Go.ChangeAt Go.RowKit

/-- append of numbers onto a row of ours, in a region that draws. -/
theorem step_app_ints {ops : Array Oper} {o : Oper} {a : Act} {K : Act → World → Prop} {Q : Exit → Act → World → Prop} {E : Prop} (w : World) (hgd : o.guard = none) (s x : Nat) (ho : o.op = .call { callee := .builtin .append, args := #[.tmp s, .tmp x], argTypes := #[23, 23] }) (base g0 cap0 nz ny nr : Nat) (zs ys : List Int) (_hz : zs.length = nz) (hy : ys.length = ny) (hr : nz + ny = nr) (hs : a.eval (.tmp s) = .slice (some ⟨g0, 0, none⟩) nz cap0) (hown : w.ownsRow base 3 1 (.slice (some ⟨g0, 0, none⟩) nz cap0) nz (zs.map (Value.int .i64))) (ad : Option Addr) (c : Nat) (hx : a.eval (.tmp x) = .slice ad ny c) (hI : IntsAt w ad ny ys) (hn : nr ≤ 2000000) (hbase : base ≤ w.heap.size)
    (h : ∀ g cap w', w'.ownsRow base 3 1 (.slice (some ⟨g, 0, none⟩) nr cap) nr ((zs ++ ys).map (Value.int .i64)) → w.grownBy w' (some g0) → K (a.put o.dst (.slice (some ⟨g, 0, none⟩) nr cap)) w') :
    if Region.wanted o (yielded ops a.tmps) = true then Oper.wp Try.prog o a w K Q else E := by
  obtain ⟨i0, hi, hz0, hz1, hz2⟩ : ∃ i0, Try.prog.info? 3 = some i0 ∧ i0.zero = some (.int .i64 0) ∧ i0.size = 1 ∧ i0.bytes = 8 := ⟨_, rfl, rfl, rfl, rfl⟩
  subst hr
  match ad, hx, hI with
  | none, hx, hI =>
    have e0 : ny = 0 := by
      by_cases h0 : ny = 0
      · exact h0
      · obtain ⟨b, off, e, _⟩ := hI.2 0 (by omega)
        cases e
    subst e0
    have ez : ys = [] := List.length_eq_zero_iff.1 hy
    subst ez
    have hw : Region.wanted o (yielded ops a.tmps) = true := by simp [Region.wanted, hgd]
    rw [if_pos hw]
    have hk := h g0 cap0 w (by simpa using hown) ⟨rfl, rfl, rfl, Nat.le_refl _, fun _ _ _ => rfl⟩
    obtain ⟨dst, op, ty, pos, aft, gd⟩ := o
    simp only at ho hgd
    subst ho hgd
    have hs' : a.tmps[s]?.getD undef = .slice (some ⟨g0, 0, none⟩) nz cap0 := by simpa [Act.eval] using hs
    have hx' : a.tmps[x]?.getD undef = .slice none 0 c := by simpa [Act.eval] using hx
    clear hs hx h
    simp only [Nat.add_zero] at hk
    have hle : nz ≤ cap0 := by
      rcases own_shape hown with ⟨e, _⟩ | ⟨_, _, _, _, _, hle⟩
      · cases e
      · exact hle
    unfold Oper.wp
    go_simp
    exact hk
  | some ⟨b, off, sp⟩, hx, hI =>
    refine step_append_row w hgd (.tmp s) (.tmp x) 23 ho base 3 i0 (.int .i64 0) 1 8 Try.underlying23 hi hz0 hz1 hz2 rfl (by decide) g0 nz cap0 _ hs hown ⟨b, off, sp⟩ ny c (ys.map (Value.int .i64)) hx (by simp [hy]) (fun j u hu => ?_) (by simp [Value.oneCell']) (by unfold maxLen; omega) (by omega) hbase fun g cap w' h1 h2 => ?_
    · have hj : 0 < ys.length := by
        have := (List.getElem?_eq_some_iff.1 hu).1
        simp at this
        omega
      rw [← hy] at hI
      have e := ints_spot hI hj
      simp at e
      subst e
      exact ints_news hI j u hu
    · exact h g cap w' (by simpa using h1) h2
theorem grown_b {w w' : World} {g B : Nat} (h : w.grownBy w' (some g)) (hB : B ≤ g) (_hs : B ≤ w.heap.size) : Below B w w' := ⟨h.os, h.tape, h.output, h.size, fun j hj => h.block j (by omega) (fun e => by injection e with e; omega)⟩
end Go.Proofs.Ytjhbjfplgmcbpaa
