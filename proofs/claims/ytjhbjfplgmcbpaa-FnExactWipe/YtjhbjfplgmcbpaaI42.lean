/- A net of whose nodes one has lost what it had (Wipe), in the program and in the model. Conditions: lists and texts of at most 2^20. -/
import Derived.Test.YtjhbjfplgmcbpaaI40
import Derived.Test.YtjhbjfplgmcbpaaI39
namespace Go.Proofs.Ytjhbjfplgmcbpaa
set_option maxRecDepth 2000
open Go.ChangeShapes Go.WideShapes Go.ChangeAt Go.RowKit

/-- The nodes then. -/
def wiN (id : Int) (N : Nat → Nd) (i : Nat) : Nd := if (i : Int) = id then { N i with n := 0 } else N i
/-- The slots of one node are put away. -/
theorem ow_wipe {W : World} {B g n cap p gE : Nat} {N : Nat → Nd} {F : Nat → Prop} (h : Ow W B (ndsD n N) (.slice (some ⟨g, 0, none⟩) n cap) F) (hp : p < n) (hE : ∀ S, Ow W B (slsD 0 S) (.slice (some ⟨gE, 0, none⟩) 0 0) (fun x => x = gE)) (hne : ¬ F gE) :
    Ow (W.setCell ⟨g, p * 3 + 2, none⟩ (.slice (some ⟨gE, 0, none⟩) 0 0)) B (ndsD n (wiN p N)) (.slice (some ⟨g, 0, none⟩) n cap) (fun x => F x ∨ x = gE) := by
  obtain ⟨a, cap', c, G, e, ho, hs, hr⟩ := h
  cases e
  have e0 := own_setCells hp [.slice (some ⟨gE, 0, none⟩) 0 0] 2 W c rfl ho
  have hg : F g := hs.head _ rfl
  have ot : ∀ x, x ≠ g → (W.setCell ⟨g, p * 3 + 2, none⟩ (.slice (some ⟨gE, 0, none⟩) 0 0)).heap[x]? = W.heap[x]? := fun x hx => Below.heap_setCell _ _ _ _ hx
  refine ⟨_, _, _, fun i q => if i = p ∧ q = 2 then (fun x => x = gE) else G i q, rfl, e0, ⟨fun x e => .inl (hs.head x e), fun i q x hi hq hx => ?_, fun i q x hi hq e hx => ?_, fun i q i' q' x hi hq hi' hq' hx hx' => ?_⟩, fun i q hi hq => ?_⟩
  · by_cases k : i = p ∧ q = 2
    · rw [if_pos k] at hx; exact .inr hx
    · rw [if_neg k] at hx; exact .inl (hs.sub i q x hi hq hx)
  · by_cases k : i = p ∧ q = 2
    · rw [if_pos k] at hx
      have e1 : x.block = gE := hx
      cases e
      exact hne (e1 ▸ hg)
    · rw [if_neg k] at hx; exact hs.apart i q x hi hq e hx
  · by_cases k : i = p ∧ q = 2 <;> by_cases k' : i' = p ∧ q' = 2
    · exact ⟨k.1.trans k'.1.symm, k.2.trans k'.2.symm⟩
    · rw [if_pos k] at hx
      rw [if_neg k'] at hx'
      have e1 : x = gE := hx
      exact absurd (hs.sub i' q' x hi' hq' hx') (e1 ▸ hne)
    · rw [if_neg k] at hx
      rw [if_pos k'] at hx'
      have e1 : x = gE := hx'
      exact absurd (hs.sub i q x hi hq hx) (e1 ▸ hne)
    · rw [if_neg k] at hx
      rw [if_neg k'] at hx'
      exact hs.each i q i' q' x hi hq hi' hq' hx hx'
  · have fr : ∀ {d : Dt} {v : Value} {H : Nat → Prop}, Ow W B d v H → (∀ x, H x → x ≠ g) → Ow (W.setCell ⟨g, p * 3 + 2, none⟩ (.slice (some ⟨gE, 0, none⟩) 0 0)) B d v H := fun o hH => o.frame (fun x hx _ => ot x (hH x hx))
    by_cases k : i = p ∧ q = 2
    · obtain ⟨rfl, rfl⟩ := k
      simp only [and_self, if_true, Nat.le_refl]
      have e2 : ndD (wiN (i : Int) N i) 2 = slsD 0 (N i).S := by unfold wiN; rw [if_pos rfl]; rfl
      show Ow _ _ (ndD (wiN (i : Int) N i) 2) _ _
      rw [e2]
      exact fr (hE _) (fun x e1 e3 => hne (by have h4 : x = gE := e1; rw [← h4, e3]; exact hg))
    · have hlt : ¬ (i = p ∧ 2 ≤ q) := fun k2 => k ⟨k2.1, by omega⟩
      have e2 : ndD (wiN (p : Int) N i) q = ndD (N i) q := by
        unfold wiN
        by_cases ei : (i : Int) = (p : Int)
        · rw [if_pos ei]
          have ei' : i = p := by omega
          have hq2 : q ≠ 2 := fun e => k ⟨ei', e⟩
          have h01 : q = 0 ∨ q = 1 := by omega
          rcases h01 with rfl | rfl <;> rfl
        · rw [if_neg ei]
      show Ow _ _ (ndD (wiN (p : Int) N i) q) (if i = p ∧ 2 ≤ q then _ else c i q) (if i = p ∧ q = 2 then (fun x => x = gE) else G i q)
      rw [e2, if_neg hlt, if_neg k]
      exact fr (hr i q hi hq) (fun x hx e => hs.apart i q _ hi hq rfl (e ▸ hx))
theorem wi_none {id : Int} {n : Nat} {N : Nat → Nd} (h : ¬ (0 ≤ id ∧ id < (n : Int))) (i : Nat) (hi : i < n) : wiN id N i = N i := by
  unfold wiN
  rw [if_neg (fun e => h ⟨by omega, by omega⟩)]
theorem nds_cell {W : World} {B g n cap p : Nat} {N : Nat → Nd} {F : Nat → Prop} (h : Ow W B (ndsD n N) (.slice (some ⟨g, 0, none⟩) n cap) F) (hp : p < n) : ∃ v, W.cell? ⟨g, p * 3 + 2, none⟩ = some v ∧ W.frozen? ⟨g, p * 3 + 2, none⟩ = false := by
  obtain ⟨a, cap', c, G, e, ho, hs, hr⟩ := h
  cases e
  exact ⟨c p 2, by rw [World.ownsRow.cellAt ho _ (mid_lt hp (by omega)), cL_get _ _ _ _ _ hp (by omega)], World.ownsRow.frozenAt ho _⟩
/-- A net, one of whose nodes lost what it had: behind the store and the new empty list. -/
theorem nt_wipe {W : World} {B n m p : Nat} {g c : Nat} {N : Nat → Nd} {zs : List Int} {Y : Nat → Sy} {v2 v3 : Value} {F1 F2 F3 : Nat → Prop} (h : NtO W B n N zs m Y (.slice (some ⟨g, 0, none⟩) n c) v2 v3 F1 F2 F3) (hl : ∀ x, F1 x ∨ F2 x ∨ F3 x → B ≤ x ∧ x < W.heap.size) (hp : p < n) (hB : B ≤ W.heap.size) :
    ∃ G1, NtO ((W.alloc (.cells #[] 60)).setCell ⟨g, p * 3 + 2, none⟩ (.slice (some ⟨W.heap.size, 0, none⟩) 0 0)) B n (wiN p N) zs m Y (.slice (some ⟨g, 0, none⟩) n c) v2 v3 G1 F2 F3 ∧ ∀ x, G1 x ∨ F2 x ∨ F3 x → B ≤ x ∧ x < ((W.alloc (.cells #[] 60)).setCell ⟨g, p * 3 + 2, none⟩ (.slice (some ⟨W.heap.size, 0, none⟩) 0 0)).heap.size := by
  have hg : F1 g := by obtain ⟨_, _, _, _, e, _, hs, _⟩ := h.n; cases e; exact hs.head _ rfl
  have lg := hl g (.inl hg)
  have bW : Below W.heap.size W (W.alloc (.cells #[] 60)) := (Below.refl _ _).alloc (Nat.le_refl _) _
  have nE : ¬ F1 W.heap.size := fun k => by have := (hl _ (.inl k)).2; omega
  have o1 := ow_wipe (gE := W.heap.size) (h.n.below bW) hp (fun S => (nil_ow (t := 60) (sz := 13) (fun i => slD (S i)) W).base hB) nE
  have ot : ∀ x, ¬ F1 x → x < (W.alloc (.cells #[] 60)).heap.size → ((W.alloc (.cells #[] 60)).setCell ⟨g, p * 3 + 2, none⟩ (.slice (some ⟨W.heap.size, 0, none⟩) 0 0)).heap[x]? = (W.alloc (.cells #[] 60)).heap[x]? := fun x hx _ => Below.heap_setCell _ _ _ _ (fun e => hx (e ▸ hg))
  refine ⟨_, ⟨o1, (h.z.below bW).frame (fun x hx hl' => ot x (fun k => h.d1 x k hx) hl'), (h.y.below bW).frame (fun x hx hl' => ot x (fun k => h.d2 x k hx) hl'), fun x k1 k2 => ?_, fun x k1 k2 => ?_, h.d3⟩, fun x k => ?_⟩
  · rcases k1 with k1 | k1
    · exact h.d1 x k1 k2
    · have e1 : x = W.heap.size := k1
      have := (hl x (.inr (.inl k2))).2
      omega
  · rcases k1 with k1 | k1
    · exact h.d2 x k1 k2
    · have e1 : x = W.heap.size := k1
      have := (hl x (.inr (.inr k2))).2
      omega
  · simp
    rcases k with (k | k) | k | k
    · have := hl x (.inl k); omega
    · have e1 : x = W.heap.size := k
      omega
    · have := hl x (.inr (.inl k)); omega
    · have := hl x (.inr (.inr k)); omega
set_option maxHeartbeats 8000000 in
theorem wipe_any (f : Int) (a : Option Addr) (n c : Nat) (l : Option Addr) (zs : List Int) (d : Nat) (e : Option Addr) (m g : Nat) (N : Nat → Nd) (Y : Nat → Sy) (id : Int) (w : World) (h1 : Rd w (ndsD n N) (.slice a n c)) (h2 : IntsAt w l zs.length zs) (h3 : Rd w (sysD m Y) (.slice e m g)) (hn : n ≤ 1048576) (hz : zs.length ≤ 1048576) (hm : m ≤ 1048576) (hN : ∀ i, i < n → (N i).n ≤ 1048576 ∧ ∀ j, j < (N i).n → SlK ((N i).S j)) (hY : ∀ i, i < m → SyK (Y i)) :
    Calls Try.prog 8 #[ntV f (.slice a n c) (.slice l zs.length d) (.slice e m g), .int .i64 id] w fun r w' => ∃ g1 a2 c2 g3 F1 F2 F3, r = .returned (ntV f (.slice (some ⟨g1, 0, none⟩) n n) (.slice a2 zs.length c2) (.slice (some ⟨g3, 0, none⟩) m m)) ∧ NtO w' w.heap.size n (wiN id N) zs m Y (.slice (some ⟨g1, 0, none⟩) n n) (.slice a2 zs.length c2) (.slice (some ⟨g3, 0, none⟩) m m) F1 F2 F3 ∧ (∀ x, F1 x ∨ F2 x ∨ F3 x → w.heap.size ≤ x ∧ x < w'.heap.size) ∧ Below w.heap.size w w' := by
  obtain ⟨A, HA⟩ : ∃ x, Hid (x = w.heap.size) := ⟨_, rfl⟩
  obtain ⟨D, HD⟩ : ∃ x, Hid (x = w.heap.size + 1) := ⟨_, rfl⟩
  obtain ⟨w0, HW0⟩ : ∃ x, Hid (x = (w.alloc (.cells #[.int .i64 f, .slice a n c, .slice l zs.length d, .slice e m g] 31)).alloc (.cells #[.int .i64 0, .slice none 0 0, .slice none 0 0, .slice none 0 0] 31)) := ⟨_, rfl⟩
  have RA : Hid (Row w0 A 31 #[.int .i64 f, .slice a n c, .slice l zs.length d, .slice e m g]) := by show Row _ _ _ _; rw [HW0.out, HA.out]; exact Row.alloc (Row.new w _ _) _
  have RD : Hid (Row w0 D 31 #[.int .i64 0, .slice none 0 0, .slice none 0 0, .slice none 0 0]) := by
    show Row _ _ _ _
    rw [HW0.out, HD.out]
    have := Row.new (w.alloc (.cells #[.int .i64 f, .slice a n c, .slice l zs.length d, .slice e m g] 31)) #[.int .i64 0, .slice none 0 0, .slice none 0 0, .slice none 0 0] 31
    simpa using this
  have hb0 : Below w.heap.size w w0 := by rw [HW0.out]; exact ((Below.refl _ _).alloc (Nat.le_refl _) _).alloc (by simp) _
  have KB0 : Hid (Below w.heap.size w w0) := hb0
  have HL : Hid (w.heap.size ≤ D ∧ D < w0.heap.size) := ⟨by have := HD.out; omega, RD.out.lt⟩
  have KC : Hid _ := copiedT_any f a n c l zs d e m g N Y w0 (h1.below hb0) (h2.below hb0) (h3.below hb0) hn hz hm hN hY
  obtain ⟨zl, HZL⟩ : ∃ x, Hid (zs.length = x) := ⟨_, rfl⟩
  rw [HZL.out] at KC RA HW0 ⊢
  clear h1 h2 h3 hb0 hN hY
  go_enter Try.func8, Try.ntmps8
  go_wp2_with (rw [← HW0.out, ← HD.out, ← HA.out]; refine wpList_load_row (by rfl) 31 _ (by rfl) A (by rfl) 31 #[.int .i64 f, .slice a n c, .slice l zl d, .slice e m g] (0, 0) _ ?_ Try.underlying31 (by rfl) Try.infoNt ?_; exact RA.out)
  refine Calls.mono KC.out ?_
  rintro r w1 ⟨g1, a2, c2, g3, F1, F2, F3, rfl, o1, hl1, b1⟩
  obtain ⟨G, HG⟩ : ∃ x, Hid (x = w1.heap.size) := ⟨_, rfl⟩
  obtain ⟨w2, HW2⟩ : ∃ x, Hid (x = w1.alloc (.cells #[.int .i64 f, .slice (some ⟨g1, 0, none⟩) n n, .slice a2 zl c2, .slice (some ⟨g3, 0, none⟩) m m] 31)) := ⟨_, rfl⟩
  have b2 : Below w1.heap.size w1 w2 := by rw [HW2.out]; exact (Below.refl _ _).alloc (Nat.le_refl _) _
  have RG : Hid (Row w2 G 31 #[.int .i64 f, .slice (some ⟨g1, 0, none⟩) n n, .slice a2 zl c2, .slice (some ⟨g3, 0, none⟩) m m]) := by show Row _ _ _ _; rw [HW2.out, HG.out]; exact Row.new w1 _ _
  have RD2 : Hid (Row w2 D 31 #[.int .i64 0, .slice none 0 0, .slice none 0 0, .slice none 0 0]) := (RD.out.below b1 RD.out.lt).below b2 (Nat.lt_of_lt_of_le RD.out.lt b1.size)
  have O2 : Hid (NtO w2 w0.heap.size n N zs m Y (.slice (some ⟨g1, 0, none⟩) n n) (.slice a2 zl c2) (.slice (some ⟨g3, 0, none⟩) m m) F1 F2 F3) := o1.below b2
  have L2 : Hid ((∀ x, F1 x ∨ F2 x ∨ F3 x → w0.heap.size ≤ x ∧ x < G) ∧ G < w2.heap.size ∧ w0.heap.size ≤ G) := ⟨fun x hx => ⟨(hl1 x hx).1, by rw [HG.out]; exact (hl1 x hx).2⟩, RG.out.lt, by rw [HG.out]; exact b1.size⟩
  have B2 : Hid (Below w.heap.size w w2) := below2 KB0.out (below2 b1 b2)
  have x1 := RG.out.cell 1
  simp at x1
  clear o1 hl1 b1 b2 KC
  go_upto_region 2 with fail
  rw [← HW2.out, ← HG.out]
  by_cases hin : 0 ≤ id ∧ id < (n : Int)
  · obtain ⟨p, hp⟩ : ∃ p : Nat, id = (p : Int) := ⟨id.toNat, by omega⟩
    subst hp
    have hpn : p < n := by omega
    have hpi : (p : Int) < (n : Int) := by omega
    obtain ⟨v0, y0, z0⟩ := nds_cell (O2.out.n.below ((Below.refl w2.heap.size w2).alloc (Nat.le_refl _) (.cells #[] 60))) hpn
    obtain ⟨w3, HW3⟩ : ∃ x, Hid (x = (w2.alloc (.cells #[] 60)).setCell ⟨g1, p * 3 + 2, none⟩ (.slice (some ⟨w2.heap.size, 0, none⟩) 0 0)) := ⟨_, rfl⟩
    have hF1 : F1 g1 := by obtain ⟨_, _, _, _, e, _, hs, _⟩ := O2.out.n; cases e; exact hs.head _ rfl
    have lg1 := L2.out.1 g1 (.inl hF1)
    have lD := HL.out
    have lG := L2.out.2
    have RG3 : Hid (Row w3 G 31 #[.int .i64 f, .slice (some ⟨g1, 0, none⟩) n n, .slice a2 zl c2, .slice (some ⟨g3, 0, none⟩) m m]) := by show Row _ _ _ _; rw [HW3.out]; exact (RG.out.alloc _).other _ _ (by omega)
    have RD3 : Hid (Row w3 D 31 #[.int .i64 0, .slice none 0 0, .slice none 0 0, .slice none 0 0]) := by show Row _ _ _ _; rw [HW3.out]; exact (RD2.out.alloc _).other _ _ (by omega)
    obtain ⟨w4, HW4⟩ : ∃ x, Hid (x = w3.setRow D #[.int .i64 f, .slice (some ⟨g1, 0, none⟩) n n, .slice a2 zl c2, .slice (some ⟨g3, 0, none⟩) m m]) := ⟨_, rfl⟩
    have RD4 : Hid (Row w4 D 31 #[.int .i64 f, .slice (some ⟨g1, 0, none⟩) n n, .slice a2 zl c2, .slice (some ⟨g3, 0, none⟩) m m]) := by show Row _ _ _ _; rw [HW4.out]; exact RD3.out.row
    have KF : Hid (∃ F1 F2 F3, NtO w4 w.heap.size n (wiN p N) zs m Y (.slice (some ⟨g1, 0, none⟩) n n) (.slice a2 zl c2) (.slice (some ⟨g3, 0, none⟩) m m) F1 F2 F3 ∧ (∀ x, F1 x ∨ F2 x ∨ F3 x → w.heap.size ≤ x ∧ x < w4.heap.size) ∧ Below w.heap.size w w4) := by
      obtain ⟨G1, o3, hl3⟩ := nt_wipe O2.out (fun x hx => ⟨(L2.out.1 x hx).1, by have := (L2.out.1 x hx).2; omega⟩) hpn (by omega)
      rw [← HW3.out] at o3 hl3
      have s0 := KB0.out.size
      have tr : ∀ x, w0.heap.size ≤ x → w4.heap[x]? = w3.heap[x]? := fun x hx => by rw [HW4.out]; exact setRow_other _ _ _ _ (by omega)
      have s4 : w4.heap.size = w3.heap.size := by rw [HW4.out]; simp
      refine ⟨G1, F2, F3, ⟨(o3.n.base s0).frame (fun x hx _ => tr x (hl3 x (.inl hx)).1), (o3.z.base s0).frame (fun x hx _ => tr x (hl3 x (.inr (.inl hx))).1), (o3.y.base s0).frame (fun x hx _ => tr x (hl3 x (.inr (.inr hx))).1), o3.d1, o3.d2, o3.d3⟩, fun x hx => ?_, ?_⟩
      · rw [s4]
        have := hl3 x hx
        omega
      · rw [HW4.out, HW3.out]
        exact belowSetRow ((B2.out.alloc B2.out.size _).setCell (show w.heap.size ≤ g1 by omega) _) lD.1 _
    clear hF1 lg1 lD lG
    go_wp2_with (first | (rw [← HW3.out]; refine wpList_load_row (by rfl) 31 _ (by rfl) G (by rfl) 31 #[.int .i64 f, .slice (some ⟨g1, 0, none⟩) n n, .slice a2 zl c2, .slice (some ⟨g3, 0, none⟩) m m] (0, 0) _ ?_ Try.underlying31 (by rfl) Try.infoNt ?_; exact RG3.out) | (refine wpList_store_row (by rfl) 31 _ _ (by rfl) D #[.int .i64 f, .slice (some ⟨g1, 0, none⟩) n n, .slice a2 zl c2, .slice (some ⟨g3, 0, none⟩) m m] (by rfl) (by rfl) 31 #[.int .i64 0, .slice none 0 0, .slice none 0 0, .slice none 0 0] ?_ Try.infoNt rfl (by simp [Value.oneCell']) ?_; exact RD3.out; rw [← HW4.out]))
    obtain ⟨F1, F2, F3, kf⟩ := KF.out
    exact bodyPost_ret (v := ntV f (.slice (some ⟨g1, 0, none⟩) n n) (.slice a2 zl c2) (.slice (some ⟨g3, 0, none⟩) m m)) (results_cell_row Try.results8 _ _ D 31 _ (0, 0) _ (by rfl) RD4.out Try.underlying31 (by rfl) Try.infoNt) rfl (by first | exact ⟨g1, a2, c2, g3, F1, F2, F3, rfl, kf⟩ | exact ⟨g1, a2, c2, g3, rfl, F1, F2, F3, kf⟩)
  · obtain ⟨w4, HW4⟩ : ∃ x, Hid (x = w2.setRow D #[.int .i64 f, .slice (some ⟨g1, 0, none⟩) n n, .slice a2 zl c2, .slice (some ⟨g3, 0, none⟩) m m]) := ⟨_, rfl⟩
    have RD4 : Hid (Row w4 D 31 #[.int .i64 f, .slice (some ⟨g1, 0, none⟩) n n, .slice a2 zl c2, .slice (some ⟨g3, 0, none⟩) m m]) := by show Row _ _ _ _; rw [HW4.out]; exact RD2.out.row
    have lD := HL.out
    have lG := L2.out.2
    have KF : Hid (∃ F1 F2 F3, NtO w4 w.heap.size n (wiN id N) zs m Y (.slice (some ⟨g1, 0, none⟩) n n) (.slice a2 zl c2) (.slice (some ⟨g3, 0, none⟩) m m) F1 F2 F3 ∧ (∀ x, F1 x ∨ F2 x ∨ F3 x → w.heap.size ≤ x ∧ x < w4.heap.size) ∧ Below w.heap.size w w4) := by
      have s0 := KB0.out.size
      have tr : ∀ x, w0.heap.size ≤ x → w4.heap[x]? = w2.heap[x]? := fun x hx => by rw [HW4.out]; exact setRow_other _ _ _ _ (by omega)
      have s4 : w4.heap.size = w2.heap.size := by rw [HW4.out]; simp
      have o3 := O2.out
      refine ⟨F1, F2, F3, ⟨((o3.n.base s0).frame (fun x hx _ => tr x (L2.out.1 x (.inl hx)).1)).congr (fun i q hi _ => by show ndD (N i) q = ndD (wiN id N i) q; rw [wi_none hin i hi]), (o3.z.base s0).frame (fun x hx _ => tr x (L2.out.1 x (.inr (.inl hx))).1), (o3.y.base s0).frame (fun x hx _ => tr x (L2.out.1 x (.inr (.inr hx))).1), o3.d1, o3.d2, o3.d3⟩, fun x hx => ?_, ?_⟩
      · rw [s4]
        have := L2.out.1 x hx
        omega
      · rw [HW4.out]
        exact belowSetRow B2.out lD.1 _
    have HIN : Hid (¬ (0 ≤ id ∧ id < (n : Int))) := hin
    clear lD lG hin
    by_cases t0 : id ≥ 0
    · have t1 : ¬ id < (n : Int) := fun k => HIN.out ⟨t0, k⟩
      go_wp2_with (first | (refine wpList_load_row (by rfl) 31 _ (by rfl) G (by rfl) 31 #[.int .i64 f, .slice (some ⟨g1, 0, none⟩) n n, .slice a2 zl c2, .slice (some ⟨g3, 0, none⟩) m m] (0, 0) _ ?_ Try.underlying31 (by rfl) Try.infoNt ?_; exact RG.out) | (refine wpList_store_row (by rfl) 31 _ _ (by rfl) D #[.int .i64 f, .slice (some ⟨g1, 0, none⟩) n n, .slice a2 zl c2, .slice (some ⟨g3, 0, none⟩) m m] (by rfl) (by rfl) 31 #[.int .i64 0, .slice none 0 0, .slice none 0 0, .slice none 0 0] ?_ Try.infoNt rfl (by simp [Value.oneCell']) ?_; exact RD2.out; rw [← HW4.out]))
      obtain ⟨F1, F2, F3, kf⟩ := KF.out
      exact bodyPost_ret (v := ntV f (.slice (some ⟨g1, 0, none⟩) n n) (.slice a2 zl c2) (.slice (some ⟨g3, 0, none⟩) m m)) (results_cell_row Try.results8 _ _ D 31 _ (0, 0) _ (by rfl) RD4.out Try.underlying31 (by rfl) Try.infoNt) rfl (by first | exact ⟨g1, a2, c2, g3, F1, F2, F3, rfl, kf⟩ | exact ⟨g1, a2, c2, g3, rfl, F1, F2, F3, kf⟩)
    · go_wp2_with (first | (refine wpList_load_row (by rfl) 31 _ (by rfl) G (by rfl) 31 #[.int .i64 f, .slice (some ⟨g1, 0, none⟩) n n, .slice a2 zl c2, .slice (some ⟨g3, 0, none⟩) m m] (0, 0) _ ?_ Try.underlying31 (by rfl) Try.infoNt ?_; exact RG.out) | (refine wpList_store_row (by rfl) 31 _ _ (by rfl) D #[.int .i64 f, .slice (some ⟨g1, 0, none⟩) n n, .slice a2 zl c2, .slice (some ⟨g3, 0, none⟩) m m] (by rfl) (by rfl) 31 #[.int .i64 0, .slice none 0 0, .slice none 0 0, .slice none 0 0] ?_ Try.infoNt rfl (by simp [Value.oneCell']) ?_; exact RD2.out; rw [← HW4.out]))
      obtain ⟨F1, F2, F3, kf⟩ := KF.out
      exact bodyPost_ret (v := ntV f (.slice (some ⟨g1, 0, none⟩) n n) (.slice a2 zl c2) (.slice (some ⟨g3, 0, none⟩) m m)) (results_cell_row Try.results8 _ _ D 31 _ (0, 0) _ (by rfl) RD4.out Try.underlying31 (by rfl) Try.infoNt) rfl (by first | exact ⟨g1, a2, c2, g3, F1, F2, F3, rfl, kf⟩ | exact ⟨g1, a2, c2, g3, rfl, F1, F2, F3, kf⟩)
set_option maxHeartbeats 8000000 in
theorem sWipe_any (f : Int) (a : Option Addr) (n c : Nat) (l : Option Addr) (zs : List Int) (d : Nat) (e : Option Addr) (m g : Nat) (N : Nat → Nd) (Y : Nat → Sy) (id : Int) (w : World) (h1 : Rd w (ndsD n N) (.slice a n c)) (h2 : IntsAt w l zs.length zs) (h3 : Rd w (sysD m Y) (.slice e m g)) (hn : n ≤ 1048576) (hz : zs.length ≤ 1048576) (hm : m ≤ 1048576) (hN : ∀ i, i < n → (N i).n ≤ 1048576 ∧ ∀ j, j < (N i).n → SlS ((N i).S j)) (hY : ∀ i, i < m → (Y i).p.m ≤ 1048576) :
    Calls Try.prog 6 #[ntV f (.slice a n c) (.slice l zs.length d) (.slice e m g), .int .i64 id] w fun r w' => ∃ g1 c1 g2 c2 g3 c3 F1 F2 F3, r = .returned (ntV f (.slice (some ⟨g1, 0, none⟩) n c1) (.slice (some ⟨g2, 0, none⟩) zs.length c2) (.slice (some ⟨g3, 0, none⟩) m c3)) ∧ NtO w' w.heap.size n (wiN id N) zs m Y (.slice (some ⟨g1, 0, none⟩) n c1) (.slice (some ⟨g2, 0, none⟩) zs.length c2) (.slice (some ⟨g3, 0, none⟩) m c3) F1 F2 F3 ∧ (∀ x, F1 x ∨ F2 x ∨ F3 x → w.heap.size ≤ x ∧ x < w'.heap.size) ∧ Below w.heap.size w w' := by
  obtain ⟨A, HA⟩ : ∃ x, Hid (x = w.heap.size) := ⟨_, rfl⟩
  obtain ⟨D, HD⟩ : ∃ x, Hid (x = w.heap.size + 1) := ⟨_, rfl⟩
  obtain ⟨w0, HW0⟩ : ∃ x, Hid (x = (w.alloc (.cells #[.int .i64 f, .slice a n c, .slice l zs.length d, .slice e m g] 31)).alloc (.cells #[.int .i64 0, .slice none 0 0, .slice none 0 0, .slice none 0 0] 31)) := ⟨_, rfl⟩
  have RA : Hid (Row w0 A 31 #[.int .i64 f, .slice a n c, .slice l zs.length d, .slice e m g]) := by show Row _ _ _ _; rw [HW0.out, HA.out]; exact Row.alloc (Row.new w _ _) _
  have RD : Hid (Row w0 D 31 #[.int .i64 0, .slice none 0 0, .slice none 0 0, .slice none 0 0]) := by
    show Row _ _ _ _
    rw [HW0.out, HD.out]
    have := Row.new (w.alloc (.cells #[.int .i64 f, .slice a n c, .slice l zs.length d, .slice e m g] 31)) #[.int .i64 0, .slice none 0 0, .slice none 0 0, .slice none 0 0] 31
    simpa using this
  have hb0 : Below w.heap.size w w0 := by rw [HW0.out]; exact ((Below.refl _ _).alloc (Nat.le_refl _) _).alloc (by simp) _
  have KB0 : Hid (Below w.heap.size w w0) := hb0
  have HL : Hid (w.heap.size ≤ D ∧ D < w0.heap.size ∧ w.heap.size ≤ A ∧ A < w0.heap.size ∧ A ≠ D) := ⟨by have := HD.out; omega, RD.out.lt, by have := HA.out; omega, RA.out.lt, by have := HA.out; have := HD.out; omega⟩
  have KC : Hid _ := sCopyT_any f a n c l zs d e m g N Y w0 (h1.below hb0) (h2.below hb0) (h3.below hb0) hn hz hm hN hY
  obtain ⟨zl, HZL⟩ : ∃ x, Hid (zs.length = x) := ⟨_, rfl⟩
  rw [HZL.out] at KC RA HW0 ⊢
  obtain ⟨q, HQ⟩ : ∃ q : Int, Hid ((n : Int) - 1 = q) := ⟨_, rfl⟩
  have eq1 : IntKind.i64.wrap ((n : Int) - 1) = q := by have := HQ.out; rw [IntKind.wrap_i64]; omega
  obtain ⟨bi, HBI⟩ : ∃ b, Hid (inB id 0 q = b) := ⟨_, rfl⟩
  have KIn : Hid (∀ W, Calls Try.prog 18 #[.int .i64 id, .int .i64 0, .int .i64 q] W fun e w' => e = .returned (.bool bi) ∧ w' = W) := fun W => by rw [← HBI.out]; exact sIn_any id 0 q W
  clear h1 h2 h3 hb0 hN hY
  go_enter Try.func6, Try.ntmps6
  go_wp2_with (rw [← HW0.out, ← HD.out, ← HA.out]; refine wpList_load_row (by rfl) 31 _ (by rfl) A (by rfl) 31 #[.int .i64 f, .slice a n c, .slice l zl d, .slice e m g] (0, 0) _ ?_ Try.underlying31 (by rfl) Try.infoNt ?_; exact RA.out)
  refine Calls.mono KC.out ?_
  rintro r w1 ⟨g1, c1, g2, c2, g3, c3, F1, F2, F3, rfl, o1, hl1, b1⟩
  obtain ⟨w2, HW2⟩ : ∃ x, Hid (x = w1.setRow A #[.int .i64 f, .slice (some ⟨g1, 0, none⟩) n c1, .slice (some ⟨g2, 0, none⟩) zl c2, .slice (some ⟨g3, 0, none⟩) m c3]) := ⟨_, rfl⟩
  have RA1 : Hid (Row w1 A 31 #[.int .i64 f, .slice a n c, .slice l zl d, .slice e m g]) := RA.out.below b1 RA.out.lt
  have RG : Hid (Row w2 A 31 #[.int .i64 f, .slice (some ⟨g1, 0, none⟩) n c1, .slice (some ⟨g2, 0, none⟩) zl c2, .slice (some ⟨g3, 0, none⟩) m c3]) := by show Row _ _ _ _; rw [HW2.out]; exact RA1.out.row
  have RD2 : Hid (Row w2 D 31 #[.int .i64 0, .slice none 0 0, .slice none 0 0, .slice none 0 0]) := by show Row _ _ _ _; rw [HW2.out]; exact (RD.out.below b1 RD.out.lt).otherRow (fun e => HL.out.2.2.2.2 e.symm)
  have s2 : w2.heap.size = w1.heap.size := by rw [HW2.out]; simp
  have tr2 : ∀ x, w0.heap.size ≤ x → w2.heap[x]? = w1.heap[x]? := fun x hx => by rw [HW2.out]; exact setRow_other _ _ _ _ (by have := HL.out.2.2.2.1; omega)
  have O2 : Hid (NtO w2 w0.heap.size n N zs m Y (.slice (some ⟨g1, 0, none⟩) n c1) (.slice (some ⟨g2, 0, none⟩) zl c2) (.slice (some ⟨g3, 0, none⟩) m c3) F1 F2 F3) := ⟨o1.n.frame (fun x hx _ => tr2 x (hl1 x (.inl hx)).1), o1.z.frame (fun x hx _ => tr2 x (hl1 x (.inr (.inl hx))).1), o1.y.frame (fun x hx _ => tr2 x (hl1 x (.inr (.inr hx))).1), o1.d1, o1.d2, o1.d3⟩
  have L2 : Hid ((∀ x, F1 x ∨ F2 x ∨ F3 x → w0.heap.size ≤ x ∧ x < w2.heap.size) ∧ w0.heap.size ≤ w2.heap.size) := ⟨fun x hx => by rw [s2]; exact hl1 x hx, by rw [s2]; exact b1.size⟩
  have B2 : Hid (Below w.heap.size w w2) := by show Below _ _ _; rw [HW2.out]; exact belowSetRow (below2 KB0.out b1) HL.out.2.2.1 _
  have x1 := RG.out.cell 1
  simp at x1
  clear o1 hl1 b1 s2 tr2 KC
  go_wp2_with (first | (refine wpList_store_row (by rfl) 31 _ _ (by rfl) A #[.int .i64 f, .slice (some ⟨g1, 0, none⟩) n c1, .slice (some ⟨g2, 0, none⟩) zl c2, .slice (some ⟨g3, 0, none⟩) m c3] (by rfl) (by rfl) 31 #[.int .i64 f, .slice a n c, .slice l zl d, .slice e m g] ?_ Try.infoNt rfl (by simp [Value.oneCell']) ?_; exact RA1.out; rw [← HW2.out]))
  refine Calls.mono (KIn.out _) ?_
  rintro r w' ⟨rfl, hw⟩
  obtain rfl := hw.symm
  clear hw
  clear eq1 KIn
  by_cases hin : 0 ≤ id ∧ id < (n : Int)
  · obtain ⟨p, hp⟩ : ∃ p : Nat, id = (p : Int) := ⟨id.toNat, by omega⟩
    subst hp
    have hpn : p < n := by omega
    have hpi : (p : Int) < (n : Int) := by omega
    obtain rfl : true = bi := by rw [← HBI.out]; unfold inB; exact (decide_eq_true (by have := HQ.out; omega)).symm
    obtain ⟨v0, y0, z0⟩ := nds_cell (O2.out.n.below ((Below.refl w2.heap.size w2).alloc (Nat.le_refl _) (.cells #[] 60))) hpn
    obtain ⟨w3, HW3⟩ : ∃ x, Hid (x = (w2.alloc (.cells #[] 60)).setCell ⟨g1, p * 3 + 2, none⟩ (.slice (some ⟨w2.heap.size, 0, none⟩) 0 0)) := ⟨_, rfl⟩
    have hF1 : F1 g1 := by obtain ⟨_, _, _, _, e, _, hs, _⟩ := O2.out.n; cases e; exact hs.head _ rfl
    have lg1 := L2.out.1 g1 (.inl hF1)
    have lD := HL.out
    have lG := L2.out.2
    have RG3 : Hid (Row w3 A 31 #[.int .i64 f, .slice (some ⟨g1, 0, none⟩) n c1, .slice (some ⟨g2, 0, none⟩) zl c2, .slice (some ⟨g3, 0, none⟩) m c3]) := by show Row _ _ _ _; rw [HW3.out]; exact (RG.out.alloc _).other _ _ (by omega)
    have RD3 : Hid (Row w3 D 31 #[.int .i64 0, .slice none 0 0, .slice none 0 0, .slice none 0 0]) := by show Row _ _ _ _; rw [HW3.out]; exact (RD2.out.alloc _).other _ _ (by omega)
    obtain ⟨w4, HW4⟩ : ∃ x, Hid (x = w3.setRow D #[.int .i64 f, .slice (some ⟨g1, 0, none⟩) n c1, .slice (some ⟨g2, 0, none⟩) zl c2, .slice (some ⟨g3, 0, none⟩) m c3]) := ⟨_, rfl⟩
    have RD4 : Hid (Row w4 D 31 #[.int .i64 f, .slice (some ⟨g1, 0, none⟩) n c1, .slice (some ⟨g2, 0, none⟩) zl c2, .slice (some ⟨g3, 0, none⟩) m c3]) := by show Row _ _ _ _; rw [HW4.out]; exact RD3.out.row
    have KF : Hid (∃ F1 F2 F3, NtO w4 w.heap.size n (wiN p N) zs m Y (.slice (some ⟨g1, 0, none⟩) n c1) (.slice (some ⟨g2, 0, none⟩) zl c2) (.slice (some ⟨g3, 0, none⟩) m c3) F1 F2 F3 ∧ (∀ x, F1 x ∨ F2 x ∨ F3 x → w.heap.size ≤ x ∧ x < w4.heap.size) ∧ Below w.heap.size w w4) := by
      obtain ⟨G1, o3, hl3⟩ := nt_wipe O2.out (fun x hx => ⟨(L2.out.1 x hx).1, by have := (L2.out.1 x hx).2; omega⟩) hpn (by omega)
      rw [← HW3.out] at o3 hl3
      have s0 := KB0.out.size
      have tr : ∀ x, w0.heap.size ≤ x → w4.heap[x]? = w3.heap[x]? := fun x hx => by rw [HW4.out]; exact setRow_other _ _ _ _ (by omega)
      have s4 : w4.heap.size = w3.heap.size := by rw [HW4.out]; simp
      refine ⟨G1, F2, F3, ⟨(o3.n.base s0).frame (fun x hx _ => tr x (hl3 x (.inl hx)).1), (o3.z.base s0).frame (fun x hx _ => tr x (hl3 x (.inr (.inl hx))).1), (o3.y.base s0).frame (fun x hx _ => tr x (hl3 x (.inr (.inr hx))).1), o3.d1, o3.d2, o3.d3⟩, fun x hx => ?_, ?_⟩
      · rw [s4]
        have := hl3 x hx
        omega
      · rw [HW4.out, HW3.out]
        exact belowSetRow ((B2.out.alloc B2.out.size _).setCell (show w.heap.size ≤ g1 by omega) _) lD.1 _
    clear hF1 lg1 lD lG
    go_wp2_with (first | (rw [← HW3.out]; refine wpList_load_row (by rfl) 31 _ (by rfl) A (by rfl) 31 #[.int .i64 f, .slice (some ⟨g1, 0, none⟩) n c1, .slice (some ⟨g2, 0, none⟩) zl c2, .slice (some ⟨g3, 0, none⟩) m c3] (0, 0) _ ?_ Try.underlying31 (by rfl) Try.infoNt ?_; exact RG3.out) | (refine wpList_store_row (by rfl) 31 _ _ (by rfl) D #[.int .i64 f, .slice (some ⟨g1, 0, none⟩) n c1, .slice (some ⟨g2, 0, none⟩) zl c2, .slice (some ⟨g3, 0, none⟩) m c3] (by rfl) (by rfl) 31 #[.int .i64 0, .slice none 0 0, .slice none 0 0, .slice none 0 0] ?_ Try.infoNt rfl (by simp [Value.oneCell']) ?_; exact RD3.out; rw [← HW4.out]))
    obtain ⟨F1, F2, F3, kf⟩ := KF.out
    exact bodyPost_ret (v := ntV f (.slice (some ⟨g1, 0, none⟩) n c1) (.slice (some ⟨g2, 0, none⟩) zl c2) (.slice (some ⟨g3, 0, none⟩) m c3)) (results_cell_row Try.results6 _ _ D 31 _ (0, 0) _ (by rfl) RD4.out Try.underlying31 (by rfl) Try.infoNt) rfl (by first | exact ⟨g1, c1, g2, c2, g3, c3, F1, F2, F3, rfl, kf⟩ | exact ⟨g1, c1, g2, c2, g3, c3, rfl, F1, F2, F3, kf⟩)
  · obtain ⟨w4, HW4⟩ : ∃ x, Hid (x = w2.setRow D #[.int .i64 f, .slice (some ⟨g1, 0, none⟩) n c1, .slice (some ⟨g2, 0, none⟩) zl c2, .slice (some ⟨g3, 0, none⟩) m c3]) := ⟨_, rfl⟩
    have RD4 : Hid (Row w4 D 31 #[.int .i64 f, .slice (some ⟨g1, 0, none⟩) n c1, .slice (some ⟨g2, 0, none⟩) zl c2, .slice (some ⟨g3, 0, none⟩) m c3]) := by show Row _ _ _ _; rw [HW4.out]; exact RD2.out.row
    have lD := HL.out
    have lG := L2.out.2
    have KF : Hid (∃ F1 F2 F3, NtO w4 w.heap.size n (wiN id N) zs m Y (.slice (some ⟨g1, 0, none⟩) n c1) (.slice (some ⟨g2, 0, none⟩) zl c2) (.slice (some ⟨g3, 0, none⟩) m c3) F1 F2 F3 ∧ (∀ x, F1 x ∨ F2 x ∨ F3 x → w.heap.size ≤ x ∧ x < w4.heap.size) ∧ Below w.heap.size w w4) := by
      have s0 := KB0.out.size
      have tr : ∀ x, w0.heap.size ≤ x → w4.heap[x]? = w2.heap[x]? := fun x hx => by rw [HW4.out]; exact setRow_other _ _ _ _ (by omega)
      have s4 : w4.heap.size = w2.heap.size := by rw [HW4.out]; simp
      have o3 := O2.out
      refine ⟨F1, F2, F3, ⟨((o3.n.base s0).frame (fun x hx _ => tr x (L2.out.1 x (.inl hx)).1)).congr (fun i q hi _ => by show ndD (N i) q = ndD (wiN id N i) q; rw [wi_none hin i hi]), (o3.z.base s0).frame (fun x hx _ => tr x (L2.out.1 x (.inr (.inl hx))).1), (o3.y.base s0).frame (fun x hx _ => tr x (L2.out.1 x (.inr (.inr hx))).1), o3.d1, o3.d2, o3.d3⟩, fun x hx => ?_, ?_⟩
      · rw [s4]
        have := L2.out.1 x hx
        omega
      · rw [HW4.out]
        exact belowSetRow B2.out lD.1 _
    obtain rfl : false = bi := by rw [← HBI.out]; unfold inB; exact (decide_eq_false (fun k => hin ⟨k.1, by have := HQ.out; omega⟩)).symm
    have HIN : Hid (¬ (0 ≤ id ∧ id < (n : Int))) := hin
    clear lD lG hin
    go_wp2_with (first | (refine wpList_load_row (by rfl) 31 _ (by rfl) A (by rfl) 31 #[.int .i64 f, .slice (some ⟨g1, 0, none⟩) n c1, .slice (some ⟨g2, 0, none⟩) zl c2, .slice (some ⟨g3, 0, none⟩) m c3] (0, 0) _ ?_ Try.underlying31 (by rfl) Try.infoNt ?_; exact RG.out) | (refine wpList_store_row (by rfl) 31 _ _ (by rfl) D #[.int .i64 f, .slice (some ⟨g1, 0, none⟩) n c1, .slice (some ⟨g2, 0, none⟩) zl c2, .slice (some ⟨g3, 0, none⟩) m c3] (by rfl) (by rfl) 31 #[.int .i64 0, .slice none 0 0, .slice none 0 0, .slice none 0 0] ?_ Try.infoNt rfl (by simp [Value.oneCell']) ?_; exact RD2.out; rw [← HW4.out]))
    obtain ⟨F1, F2, F3, kf⟩ := KF.out
    exact bodyPost_ret (v := ntV f (.slice (some ⟨g1, 0, none⟩) n c1) (.slice (some ⟨g2, 0, none⟩) zl c2) (.slice (some ⟨g3, 0, none⟩) m c3)) (results_cell_row Try.results6 _ _ D 31 _ (0, 0) _ (by rfl) RD4.out Try.underlying31 (by rfl) Try.infoNt) rfl (by first | exact ⟨g1, c1, g2, c2, g3, c3, F1, F2, F3, rfl, kf⟩ | exact ⟨g1, c1, g2, c2, g3, c3, rfl, F1, F2, F3, kf⟩)
end Go.Proofs.Ytjhbjfplgmcbpaa
