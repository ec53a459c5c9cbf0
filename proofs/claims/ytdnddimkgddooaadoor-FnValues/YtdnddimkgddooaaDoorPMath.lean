/- What the answers of the polynomials' functions have to do with each other: division and product and sum; the polynomial through places and its values. Plain mathematics; conditions stand at each theorem. -/
import Derived.Test.YtdnddimkgddooaaDoorPInter
namespace Go.Proofs.YtdnddimkgddooaaDoor
open Go.ChangeShapes Go.WideShapes Go.ChangeAt Go.RowKit

theorem coP_eI {f : Nat → Nat} {t : Nat} (h : Gp.Pol f t) : coP (eI f t) = f := by
  funext i
  unfold coP
  by_cases hi : i < t
  · rw [eI_getD f t i hi]; simp
  · rw [h.2 i (by omega)]
    simp [List.getD, List.getElem?_eq_none (show (eI f t).length ≤ i by rw [eI_len]; omega)]
theorem okB_eI {f : Nat → Nat} {t : Nat} (h : Gp.Pol f t) (ht : t ≤ 40) (hl : t = 0 ∨ f (t - 1) ≠ 0) : okB (eI f t) = true := by
  unfold okB
  rw [eI_len]
  have h3 : (eI f t).all isB = true := by
    rw [List.all_eq_true]
    intro x hx
    obtain ⟨i, hi, rfl⟩ := List.mem_map.1 hx
    exact isB_ofNat (h.1 i)
  rw [h3, decide_eq_true ht]
  rcases hl with hl | hl
  · simp [hl]
  · by_cases e : t = 0
    · simp [e]
    · rw [eI_getD f t (t - 1) (by omega)]
      simp
      right
      exact hl
theorem tl_good (f : Nat → Nat) (n : Nat) : Gp.tl f n = 0 ∨ f (Gp.tl f n - 1) ≠ 0 := by
  by_cases e : Gp.tl f n = 0
  · exact .inl e
  · exact .inr (Gp.tl_last f n (by omega))
theorem tl_under {f : Nat → Nat} {k n : Nat} (h : ∀ i, n ≤ i → f i = 0) : Gp.tl f k ≤ n := by
  rcases tl_good f k with e | e
  · omega
  · by_cases hle : Gp.tl f k ≤ n
    · exact hle
    · exact absurd (h _ (by omega)) e
/-- The whole of a polynomial, by a bound that reaches it. -/
theorem tl_whole {f : Nat → Nat} {n k : Nat} (h : Gp.Pol f n) (hl : n = 0 ∨ f (n - 1) ≠ 0) (hk : ∀ i, k ≤ i → f i = 0) : Gp.tl f k = n := by
  have hnk : n ≤ k := by
    rcases hl with e | e
    · omega
    · by_cases hle : n ≤ k
      · exact hle
      · exact absurd (hk (n - 1) (by omega)) e
  exact Gp.tl_is f k n hnk (fun i h1 _ => h.2 i h1) hl
theorem okB_self {xs : List Int} (h : okB xs = true) : xs = eI (coP xs) xs.length := (okB_parts h).2.2.2.1

theorem divided {xs ys : List Int} (h : (divP xs ys).2.2 = true) :
    (mulP (divP xs ys).1 ys).2 = true ∧ addP (mulP (divP xs ys).1 ys).1 (divP xs ys).2.1 = (xs, true) ∧ (divP xs ys).2.1.length < ys.length := by
  by_cases hok : okB xs = true ∧ okB ys = true ∧ 0 < ys.length
  · obtain ⟨hx, hy, hm⟩ := hok
    have px := (okB_parts hx).2.2.1
    have py := (okB_parts hy).2.2.1
    have lx := (okB_parts hx).2.1
    have ly := (okB_parts hy).2.1
    have h40 := (okB_parts hx).1
    have sx := okB_self hx
    have key : ∀ (Q R : Nat → Nat) (tq tr : Nat), divP xs ys = (eI Q tq, eI R tr, true) → Gp.Pol Q tq → Gp.Pol R tr → tq ≤ 40 → tr ≤ 40 → (tq = 0 ∨ Q (tq - 1) ≠ 0) → (tr = 0 ∨ R (tr - 1) ≠ 0) → tr < ys.length → (∀ i, Gp.cv Q (coP ys) tq i ^^^ R i = coP xs i) → (∀ i, xs.length ≤ i → R i = 0) →
        (mulP (divP xs ys).1 ys).2 = true ∧ addP (mulP (divP xs ys).1 ys).1 (divP xs ys).2.1 = (xs, true) ∧ (divP xs ys).2.1.length < ys.length := by
      intro Q R tq tr e pQ pR h1 h2 l1 l2 h3 hsum hRz
      rw [e]
      show (mulP (eI Q tq) ys).2 = true ∧ addP (mulP (eI Q tq) ys).1 (eI R tr) = (xs, true) ∧ (eI R tr).length < ys.length
      have okQ := okB_eI pQ h1 l1
      have okR := okB_eI pR h2 l2
      have hcz : ∀ i, xs.length ≤ i → Gp.cv Q (coP ys) tq i = 0 := fun i hi => by
        have := hsum i
        rw [hRz i hi, Nat.xor_zero, px.2 i hi] at this
        exact this
      have ht40 : Gp.tl (Gp.cv Q (coP ys) tq) (tq + ys.length) ≤ 40 := Nat.le_trans (tl_under hcz) h40
      have eM : mulP (eI Q tq) ys = (eI (Gp.cv Q (coP ys) tq) (Gp.tl (Gp.cv Q (coP ys) tq) (tq + ys.length)), true) := by
        unfold mulP
        rw [coP_eI pQ, eI_len, if_pos ⟨okQ, hy, ht40⟩]
      rw [eM]
      have pC : Gp.Pol (Gp.cv Q (coP ys) tq) (Gp.tl (Gp.cv Q (coP ys) tq) (tq + ys.length)) := (Gp.cv_pol py).tl
      refine ⟨rfl, ?_, by rw [eI_len]; exact h3⟩
      show addP (eI _ _) (eI R tr) = (xs, true)
      have okC := okB_eI pC ht40 (tl_good _ _)
      unfold addP
      rw [if_pos ⟨okC, okR⟩, coP_eI pC, coP_eI pR, eI_len, eI_len]
      have ea : Gp.ad (Gp.cv Q (coP ys) tq) R = coP xs := by funext i; exact hsum i
      have pad := Gp.ad_pol pC pR
      rw [ea] at pad ⊢
      rw [tl_whole px lx pad.2, ← sx]
    have hd : divP xs ys = if ys.length ≤ xs.length then (eI (divQ xs ys) (Gp.tl (divQ xs ys) (xs.length - ys.length + 1)), eI (divR xs ys) (Gp.tl (divR xs ys) xs.length), true)
        else ([], eI (coP xs) (Gp.tl (coP xs) xs.length), true) := by
      unfold divP
      rw [if_pos ⟨hx, hy, hm⟩]
    by_cases hle : ys.length ≤ xs.length
    · rw [if_pos hle] at hd
      have hlead : Gp.m (coP ys (ys.length - 1)) (Gf.inv (coP ys (ys.length - 1))) = 1 := Gp.m_inv (py.1 _) (ly.resolve_left (by omega))
      have pq : Gp.Pol (divQ xs ys) (xs.length - ys.length + 1) := Gp.dq_pol _ _ _ _ _ _
      have rz : ∀ i, ys.length - 1 ≤ i → divR xs ys i = 0 := fun i hi => Gp.dr_short _ _ _ ys.length (xs.length - ys.length + 1) hm (by rw [show xs.length - ys.length + 1 + ys.length - 1 = xs.length by omega]; exact px) py.2 hlead _ (Nat.le_refl _) i (by omega)
      have pr : Gp.Pol (divR xs ys) xs.length := ⟨fun i => Gp.dr_lt _ _ _ _ _ px.1 _ i, fun i hi => rz i (by omega)⟩
      have tq := Gp.tl_le (divQ xs ys) (xs.length - ys.length + 1)
      refine key _ _ _ _ hd pq.tl pr.tl (by omega) (Nat.le_trans (tl_under rz) (by have := (okB_parts hy).1; omega)) (tl_good _ _) (tl_good _ _) (by have := tl_under (k := xs.length) rz; omega) (fun i => ?_) (fun i hi => rz i (by omega))
      rw [← Gp.cv_zero_rows (divQ xs ys) (coP ys) (Gp.tl (divQ xs ys) (xs.length - ys.length + 1)) (xs.length - ys.length + 1) i pq.tl.2 tq]
      exact Gp.dr_all _ _ _ _ _ i
    · rw [if_neg hle] at hd
      have tx : Gp.tl (coP xs) xs.length = xs.length := tl_whole px lx px.2
      rw [tx] at hd
      refine key (fun _ => 0) (coP xs) 0 xs.length hd ⟨fun _ => by show (0 : Nat) < 256; omega, fun _ _ => rfl⟩ px (by omega) h40 (.inl rfl) lx (by omega) (fun i => ?_) px.2
      show 0 ^^^ _ = _
      rw [Nat.zero_xor]
  · exfalso
    unfold divP at h
    rw [if_neg hok] at h
    cases h

theorem mul_div {xs ys : List Int} (h : (divP xs ys).2.2 = true) (hm : (mulP xs ys).2 = true) : divP (mulP xs ys).1 ys = (xs, [], true) := by
  by_cases hok : okB xs = true ∧ okB ys = true ∧ 0 < ys.length
  · obtain ⟨hx, hy, hl⟩ := hok
    have px := (okB_parts hx).2.2.1
    have py := (okB_parts hy).2.2.1
    have lx := (okB_parts hx).2.1
    have ly := (okB_parts hy).2.1
    have sx := okB_self hx
    by_cases h40 : Gp.tl (Gp.cv (coP xs) (coP ys) xs.length) (xs.length + ys.length) ≤ 40
    · have eM : mulP xs ys = (eI (Gp.cv (coP xs) (coP ys) xs.length) (Gp.tl (Gp.cv (coP xs) (coP ys) xs.length) (xs.length + ys.length)), true) := by
        unfold mulP
        rw [if_pos ⟨hx, hy, h40⟩]
      rw [eM]
      have pC : Gp.Pol (Gp.cv (coP xs) (coP ys) xs.length) (Gp.tl (Gp.cv (coP xs) (coP ys) xs.length) (xs.length + ys.length)) := (Gp.cv_pol py).tl
      have okC := okB_eI pC h40 (tl_good _ _)
      by_cases hx0 : xs.length = 0
      · have e0 : xs = [] := List.eq_nil_of_length_eq_zero hx0
        have ec : Gp.tl (Gp.cv (coP xs) (coP ys) xs.length) (xs.length + ys.length) = 0 := Gp.tl_is _ _ _ (Nat.zero_le _) (fun i _ _ => by rw [hx0]; rfl) (.inl rfl)
        show divP (eI _ _) ys = _
        rw [ec] at okC pC ⊢
        unfold divP
        rw [if_pos ⟨okC, hy, hl⟩, eI_len, if_neg (by omega), e0]
        rfl
      · have et : Gp.tl (Gp.cv (coP xs) (coP ys) xs.length) (xs.length + ys.length) = xs.length + ys.length - 1 := by
          refine Gp.tl_is _ _ _ (by omega) (fun i h1 _ => Gp.cv_high _ _ ys.length py.2 _ i (by omega)) (.inr ?_)
          rw [show xs.length + ys.length - 1 - 1 = xs.length + ys.length - 2 by omega, Gp.cv_top _ _ _ _ py.2 (by omega) hl]
          exact Gp.m_ne (py.1 _) (px.1 _) (ly.resolve_left (by omega)) (lx.resolve_left hx0)
        show divP (eI _ _) ys = _
        have hlead : Gp.m (coP ys (ys.length - 1)) (Gf.inv (coP ys (ys.length - 1))) = 1 := Gp.m_inv (py.1 _) (ly.resolve_left (by omega))
        rw [et] at okC pC ⊢
        have eT : xs.length + ys.length - 1 - ys.length + 1 = xs.length := by omega
        have eQ : divQ (eI (Gp.cv (coP xs) (coP ys) xs.length) (xs.length + ys.length - 1)) ys = coP xs := by
          funext i
          unfold divQ
          rw [coP_eI pC, eI_len, eT]
          exact Gp.dq_exact _ _ _ _ _ (coP xs) px hl py.2 hlead (fun _ => rfl) i
        have eR : divR (eI (Gp.cv (coP xs) (coP ys) xs.length) (xs.length + ys.length - 1)) ys = fun _ => 0 := by
          funext i
          unfold divR
          rw [coP_eI pC, eI_len, eT, Gp.dr_exact _ _ _ _ _ (coP xs) px.1 hl py.2 hlead (fun _ => rfl) _ (Nat.le_refl _), Nat.sub_self]
          rfl
        unfold divP
        rw [if_pos ⟨okC, hy, hl⟩, eI_len, if_pos (by omega), eQ, eR, eT, tl_whole px lx px.2, ← sx, Gp.tl_is (fun _ => 0) _ 0 (Nat.zero_le _) (fun _ _ _ => rfl) (.inl rfl)]
        rfl
    · exfalso
      unfold mulP at hm
      rw [if_neg (fun h' => h40 h'.2.2)] at hm
      cases hm
  · exfalso
    unfold divP at h
    rw [if_neg hok] at h
    cases h

/-- Of an answer that is none the lists are empty. -/
theorem divP_false {xs ys : List Int} (h : (divP xs ys).2.2 = false) : (divP xs ys).1 = [] ∧ (divP xs ys).2.1 = [] := by
  unfold divP at h ⊢
  by_cases hok : okB xs = true ∧ okB ys = true ∧ 0 < ys.length
  · rw [if_pos hok] at h
    by_cases hle : ys.length ≤ xs.length
    · rw [if_pos hle] at h; cases h
    · rw [if_neg hle] at h; cases h
  · rw [if_neg hok]
    exact ⟨rfl, rfl⟩
theorem interP_false {xs ys : List Int} (h : (interP xs ys).2 = false) : (interP xs ys).1 = [] := by
  unfold interP at h ⊢
  split
  · rename_i h'
    rw [if_pos h'] at h
    cases h
  · rfl
theorem interP_true {xs ys : List Int} (h : (interP xs ys).2 = true) : xs.length = ys.length ∧ xs.length ≤ 40 ∧ xs.all isB = true ∧ ys.all isB = true ∧ dis (coP xs) xs.length = true := by
  unfold interP at h
  split at h
  · assumption
  · cases h
/-- It goes through its places. -/
theorem through {xs ys : List Int} (h : (interP xs ys).2 = true) : okB (interP xs ys).1 = true ∧ (interP xs ys).1.length ≤ xs.length ∧ ∀ i, i < xs.length → atP (interP xs ys).1 (xs.getD i 0) = ys.getD i 0 := by
  have hc := interP_true h
  obtain ⟨h1, h2, h3, h4, h5⟩ := hc
  have e : interP xs ys = (eI (Gp.th (coP xs) (coP ys) xs.length xs.length) (Gp.tl (Gp.th (coP xs) (coP ys) xs.length xs.length) xs.length), true) := by
    unfold interP
    rw [if_pos ⟨h1, h2, h3, h4, h5⟩]
  obtain ⟨bx, px, ex⟩ := bytes_at h3
  obtain ⟨bY, py, ey⟩ := bytes_at h4
  have pt := Gp.th_pol (coP xs) (coP ys) xs.length xs.length (Nat.le_refl _)
  have htl := Gp.tl_le (Gp.th (coP xs) (coP ys) xs.length xs.length) xs.length
  have ok := okB_eI pt.tl (by omega) (tl_good _ _)
  rw [e]
  refine ⟨ok, by show (eI _ _).length ≤ _; rw [eI_len]; exact htl, fun i hi => ?_⟩
  show atP (eI _ _) _ = _
  unfold atP
  rw [if_pos ⟨ok, bx i hi⟩, coP_eI pt.tl, eI_len]
  have ev : Gp.ev (Gp.th (coP xs) (coP ys) xs.length xs.length) (xs.getD i 0).toNat (Gp.tl (Gp.th (coP xs) (coP ys) xs.length xs.length) xs.length) = coP ys i := by
    rw [Gp.ev_ps pt.1, ← Gp.ps_more pt.tl.2 _ xs.length htl]
    have := Gp.ps_th px py (dis_of h5) xs.length i (Nat.le_refl _) hi
    rw [if_pos hi] at this
    exact this
  rw [ev]
  obtain ⟨X, _, hX⟩ := isB_nat (bY i (by omega))
  unfold coP
  rw [hX]
  simp
/-- Of a polynomial that is as short as that it is itself. -/
theorem again {xs ys qs vs : List Int} (h : (interP xs ys).2 = true) (hq : okB qs = true) (hl : qs.length ≤ xs.length) (hv : vs.length = xs.length) (hvs : ∀ i, i < xs.length → vs.getD i 0 = atP qs (xs.getD i 0)) : interP xs vs = (qs, true) := by
  obtain ⟨h1, h2, h3, h4, h5⟩ := interP_true h
  obtain ⟨bx, px, ex⟩ := bytes_at h3
  have pq := (okB_parts hq).2.2.1
  have lq := (okB_parts hq).2.1
  have sq := okB_self hq
  have eat : ∀ i, i < xs.length → vs.getD i 0 = ((Gp.ps (coP qs) (coP xs i) qs.length : Nat) : Int) := fun i hi => by
    rw [hvs i hi]
    unfold atP
    rw [if_pos ⟨hq, bx i hi⟩, Gp.ev_ps pq.1]
    rfl
  have psl : ∀ i, Gp.ps (coP qs) (coP xs i) qs.length < 256 := fun i => by rw [← Gp.ev_ps pq.1]; exact Gp.hn_lt pq.1 _ _ _
  have hv2 : vs.all isB = true := by
    rw [List.all_eq_true]
    intro v hvm
    obtain ⟨i, hi, rfl⟩ := List.mem_iff_getElem.1 hvm
    have := eat i (by omega)
    rw [show vs.getD i 0 = vs[i] by simp [List.getD, hi]] at this
    rw [this]
    exact isB_ofNat (psl i)
  obtain ⟨_, pv, ev⟩ := bytes_at hv2
  have cv : ∀ i, i < xs.length → coP vs i = Gp.ps (coP qs) (coP xs i) qs.length := fun i hi => by
    unfold coP
    rw [eat i hi]
    simp
    rfl
  have pt := Gp.th_pol (coP xs) (coP vs) xs.length xs.length (Nat.le_refl _)
  have e0 : ∀ i, Gp.ad (Gp.th (coP xs) (coP vs) xs.length xs.length) (coP qs) i = 0 := by
    have pqm := pq.more hl
    have pa := Gp.ad_pol pt pqm
    rw [Nat.max_self] at pa
    refine Gp.roots xs.length _ (coP xs) pa px (dis_of h5) (fun i hi => ?_)
    have h6 := Gp.ps_th px pv (dis_of h5) xs.length i (Nat.le_refl _) hi
    rw [if_pos hi] at h6
    rw [Gp.ps_ad, h6, cv i hi, Gp.ps_more pq.2 _ xs.length hl, Gp.xor_self]
  have ef : Gp.th (coP xs) (coP vs) xs.length xs.length = coP qs := by
    funext i
    exact Gp.xor_eq (e0 i)
  unfold interP
  rw [if_pos ⟨by omega, h2, h3, hv2, h5⟩, ef, tl_whole pq lq (fun i hi => pq.2 i (by omega)), ← sq]
end Go.Proofs.YtdnddimkgddooaaDoor
