/- One piece made anew, in the model, once it has chosen: Remake. -/
import Derived.Test.YthnjhjgffkilcaaGreatDoorH42
import Derived.Test.YthnjhjgffkilcaaGreatDoorH39
namespace Go.Proofs.YthnjhjgffkilcaaGreatDoor
set_option maxRecDepth 2000
open Go.ChangeShapes Go.WideShapes Go.ChangeAt Go.RowKit

/-- What the model's choice is asked: the pieces that count, by place, the first K of them. -/
def ChE (w' : World) (root : ByteArray) (n : Nat) (P : Nat → Pc) (A : Nat → Option Addr) (C : Nat → Nat) (e : Ending) : Prop :=
  (enB root n P = false ∧ ∃ v, e = .returned (.tuple #[v, .bool false])) ∨
  (enB root n P = true ∧ ∃ (g cc : Nat) (L : List Nat), e = .returned (.tuple #[.slice (some ⟨g, 0, none⟩) (enK root n P).toNat cc, .bool true]) ∧ L.Perm (gsel root P n) ∧ (∀ x y, x < y → y < L.length → (P (L.getD x 0)).i ≤ (P (L.getD y 0)).i) ∧ (∀ j q, j < (enK root n P).toNat → q < 6 → w'.cell? ⟨g, j * 6 + q, none⟩ = some (celp P A C (L.getD j 0) q)))
def ChOk (root : ByteArray) (a : Option Addr) (n cap : Nat) (P : Nat → Pc) (A : Nat → Option Addr) (C : Nat → Nat) (w : World) : Prop :=
  ∀ W, Below w.heap.size w W → Calls Tryz.prog 88 #[.string root, .slice a n cap] W fun e w' => Below W.heap.size W w' ∧ ChE w' root n P A C e
theorem en_parts {root : ByteArray} {n : Nat} {P : Nat → Pc} {L : List Nat} (hen : enB root n P = true) (hp : L.Perm (gsel root P n)) : 0 < (enK root n P).toNat ∧ (enK root n P).toNat ≤ 64 ∧ (enK root n P).toNat ≤ L.length ∧ (qL P L 0).b.size ≤ 1048576 := by
  have hlen : L.length = (gsel root P n).length := hp.length_eq
  have hpart : n ≤ 64 ∧ gsel root P n ≠ [] ∧ enK root n P ≤ ((gsel root P n).length : Int) := by
    unfold enB at hen
    simp only [Bool.and_eq_true, decide_eq_true_eq] at hen
    exact ⟨hen.1.1, hen.1.2, hen.2⟩
  have hgl := gsel_len root P n
  have hg0 : 0 < (gsel root P n).length := List.length_pos_iff.2 hpart.2.1
  have hk1 : 1 ≤ enK root n P := (pok_k (gsel_mem (getD_memL hg0)).2.2).1
  have hL0 := (pok_k (gsel_mem (hp.mem_iff.1 (getD_memL (L := L) (j := 0) (by omega)))).2.2).2.2.2.2
  exact ⟨by omega, by omega, by omega, Nat.le_trans hL0 (by omega)⟩
set_option maxHeartbeats 4000000 in
theorem sRemake_any (root : ByteArray) (a : Option Addr) (n cap : Nat) (A : Nat → Option Addr) (C : Nat → Nat) (P : Nat → Pc) (idx : Int) (w : World) (hch : ChOk root a n cap P A C w) :
    Calls Tryz.prog 36 #[.string root, .slice a n cap, .int .i64 idx] w fun e w' => Below w.heap.size w w' ∧ ((enB root n P = false ∧ e = .returned (.tuple #[.agg pcZ, .int .i64 1])) ∨ (enB root n P = true ∧ ∃ L : List Nat, L.Perm (gsel root P n) ∧ (∀ x y, x < y → y < L.length → (P (L.getD x 0)).i ≤ (P (L.getD y 0)).i) ∧ RmE w w' root (enK root n P).toNat (qL P L) idx e)) := by
  obtain ⟨B, HB⟩ : ∃ x, Hid (x = w.heap.size) := ⟨_, rfl⟩
  obtain ⟨w0, HW0⟩ : ∃ x, Hid (x = w.alloc (.cells pcZ 33)) := ⟨_, rfl⟩
  have HR0 : Hid (Row w0 B 33 pcZ) := by show Row _ _ _ _; rw [HW0.out, HB.out]; exact Row.new w _ _
  have b0 : Below w.heap.size w w0 := by rw [HW0.out]; exact (Below.refl _ _).alloc (Nat.le_refl _) _
  have hBw : w.heap.size ≤ B := by rw [HB.out]; exact Nat.le_refl _
  have KB0 : Hid (Below w.heap.size w w0) := b0
  have KCH : Hid _ := hch w0 b0
  clear hch b0
  go_enter Tryz.func36, Tryz.ntmps36
  go_wp2_with fail
  rw [← HW0.out, ← HB.out]
  refine Calls.mono KCH.out ?_
  rintro e w1 ⟨hb1, h1⟩
  have HR1 : Hid (Row w1 B 33 pcZ) := HR0.out.below hb1 HR0.out.lt
  have KB1 : Hid (Below w.heap.size w w1) := below2 KB0.out hb1
  rcases h1 with ⟨hen, v1, rfl⟩ | ⟨hen, g, cc, L, rfl, hp, hso, hcell⟩
  · have q0 := HR1.out.cell 0
    have q1 := HR1.out.cell 1
    have q2 := HR1.out.cell 2
    have q3 := HR1.out.cell 3
    have q4 := HR1.out.cell 4
    have q5 := HR1.out.cell 5
    have f0 := HR1.out.free 0
    have f1 := HR1.out.free 1
    have f2 := HR1.out.free 2
    have f3 := HR1.out.free 3
    have f4 := HR1.out.free 4
    have f5 := HR1.out.free 5
    simp [pcZ] at q0 q1 q2 q3 q4 q5
    clear KCH hb1
    obtain ⟨w6, HW6⟩ : ∃ x, Hid (x = ((((((w1.setCell ⟨B, 0, none⟩ (.string ⟨#[]⟩)).setCell ⟨B, 1, none⟩ (.int .i64 0)).setCell ⟨B, 2, none⟩ (.int .i64 0)).setCell ⟨B, 3, none⟩ (.int .i64 0)).setCell ⟨B, 4, none⟩ (.string ⟨#[]⟩)).setCell ⟨B, 5, none⟩ (.slice none 0 0))) := ⟨_, rfl⟩
    have HR6 : Row w6 B 33 pcZ := by rw [HW6.out]; exact ((((((HR1.out.set 0 _).set 1 _).set 2 _).set 3 _).set 4 _).set 5 _)
    have B6 : Hid (Below w.heap.size w w6) := by show Below _ _ _; rw [HW6.out]; exact Below.setCell (Below.setCell (Below.setCell (Below.setCell (Below.setCell (Below.setCell KB1.out hBw _) hBw _) hBw _) hBw _) hBw _) hBw _
    have p0 := HR6.cell 0
    have p1 := HR6.cell 1
    have p2 := HR6.cell 2
    have p3 := HR6.cell 3
    have p4 := HR6.cell 4
    have p5 := HR6.cell 5
    simp [pcZ] at p0 p1 p2 p3 p4 p5
    go_wp2
    rw [← HW6.out]
    refine bodyPost_ret (v := .tuple #[.agg pcZ, .int .i64 1]) (by simp [results, Tryz.results36, go_sem, pcZ, p0, p1, p2, p3, p4, p5]) rfl ⟨B6.out, .inl ⟨hen, rfl⟩⟩
  · obtain ⟨k0, k64, kL, kb⟩ := en_parts hen hp
    obtain ⟨K, HK⟩ : ∃ x, Hid ((enK root n P).toNat = x) := ⟨_, rfl⟩
    obtain ⟨Q, HQ⟩ : ∃ x, Hid (qL P L = x) := ⟨_, rfl⟩
    have HFin : Hid (∀ w' e, RmE w w' root K Q idx e → (enB root n P = false ∧ e = .returned (.tuple #[.agg pcZ, .int .i64 1])) ∨ (enB root n P = true ∧ ∃ L : List Nat, L.Perm (gsel root P n) ∧ (∀ x y, x < y → y < L.length → (P (L.getD x 0)).i ≤ (P (L.getD y 0)).i) ∧ RmE w w' root (enK root n P).toNat (qL P L) idx e)) := fun w' e he => .inr ⟨hen, L, hp, hso, by rw [HK.out, HQ.out]; exact he⟩
    rw [HK.out] at k0 k64 hcell
    rw [HK.out]
    rw [HQ.out] at kb
    have KBO : Hid _ := sBod_any root g K cc Q (fun j => A (L.getD j 0)) (fun j => C (L.getD j 0)) w1 (fun j q hj hq => by rw [← HQ.out]; exact hcell j q hj hq) k0 k64 kb
    clear hcell hp hso hen HK HQ KCH hb1
    go_wp2_with fail
    refine Calls.mono KBO.out ?_
    rintro e w2 ⟨hb2, h2⟩
    have HR2 : Hid (Row w2 B 33 pcZ) := HR1.out.below hb2 HR1.out.lt
    have KB2 : Hid (Below w.heap.size w w2) := below2 KB1.out hb2
    have q0 := HR2.out.cell 0
    have q1 := HR2.out.cell 1
    have q2 := HR2.out.cell 2
    have q3 := HR2.out.cell 3
    have q4 := HR2.out.cell 4
    have q5 := HR2.out.cell 5
    have f0 := HR2.out.free 0
    have f1 := HR2.out.free 1
    have f2 := HR2.out.free 2
    have f3 := HR2.out.free 3
    have f4 := HR2.out.free 4
    have f5 := HR2.out.free 5
    simp [pcZ] at q0 q1 q2 q3 q4 q5
    rcases h2 with ⟨hcm, g', rfl⟩ | ⟨hcm, v, rfl, hP⟩
    · have hf := fun w' => HFin.out w' (.returned (.tuple #[.agg pcZ, .int .i64 2])) (.inl ⟨fun h => hcm h.1, rfl⟩)
      have HFn : Hid (∀ w', _) := hf
      clear hf KBO hb2
      obtain ⟨w6, HW6⟩ : ∃ x, Hid (x = ((((((w2.setCell ⟨B, 0, none⟩ (.string ⟨#[]⟩)).setCell ⟨B, 1, none⟩ (.int .i64 0)).setCell ⟨B, 2, none⟩ (.int .i64 0)).setCell ⟨B, 3, none⟩ (.int .i64 0)).setCell ⟨B, 4, none⟩ (.string ⟨#[]⟩)).setCell ⟨B, 5, none⟩ (.slice none 0 0))) := ⟨_, rfl⟩
      have HR6 : Row w6 B 33 pcZ := by rw [HW6.out]; exact ((((((HR2.out.set 0 _).set 1 _).set 2 _).set 3 _).set 4 _).set 5 _)
      have B6 : Hid (Below w.heap.size w w6) := by show Below _ _ _; rw [HW6.out]; exact Below.setCell (Below.setCell (Below.setCell (Below.setCell (Below.setCell (Below.setCell KB2.out hBw _) hBw _) hBw _) hBw _) hBw _) hBw _
      have p0 := HR6.cell 0
      have p1 := HR6.cell 1
      have p2 := HR6.cell 2
      have p3 := HR6.cell 3
      have p4 := HR6.cell 4
      have p5 := HR6.cell 5
      simp [pcZ] at p0 p1 p2 p3 p4 p5
      go_wp2
      rw [← HW6.out]
      refine bodyPost_ret (v := .tuple #[.agg pcZ, .int .i64 2]) (by simp [results, Tryz.results36, go_sem, pcZ, p0, p1, p2, p3, p4, p5]) rfl ⟨B6.out, HFn.out _⟩
    · obtain ⟨g5, c5, A5, C5, rfl, hO5⟩ := hP
      have hsp := sprOk_parts hcm.1.1
      obtain ⟨N, HN⟩ : ∃ x, Hid ((Q 0).n.toNat = x) := ⟨_, rfl⟩
      rw [HN.out] at hO5
      rw [HN.out]
      have hnn : (Q 0).n = (N : Int) := by rw [← HN.out]; exact (Int.toNat_of_nonneg (by omega)).symm
      have hN : 0 < N ∧ N ≤ 64 := by omega
      have HCM : Hid (Cm root K Q) := hcm
      have HO5 : Hid (OwnP w2 w1.heap.size (some ⟨g5, 0, none⟩) N c5 A5 C5 (cutP (Q 0).k N (alQ K Q))) := hO5
      clear hO5 KBO hb2 hcm
      by_cases hin : 0 ≤ idx ∧ idx < (N : Int)
      · obtain ⟨h0, h1⟩ := hin
        obtain ⟨i, rfl⟩ := Int.eq_ofNat_of_zero_le h0
        have hiN : i < N := by omega
        have hib : inB (i : Int) 0 ((N : Int) - 1) = true := by unfold inB; exact decide_eq_true (by omega)
        have KI : Hid _ := sIn_any (i : Int) 0 ((N : Int) - 1) w2
        rw [hib] at KI
        have hx := fun q (hq : q < 6) => OwnC.cell HO5.out.1 (i := i) (q := q) hiN hq
        have HRt : Hid ((cutP (Q 0).k N (alQ K Q) i).r = root) := by show (cutP (Q 0).k N (alQ K Q) i).r = root; rw [← HCM.out.2]; unfold rtQ; rw [HN.out]; rfl
        have HOp := HO5.out.2.1 i hiN
        have lA : ∀ x, A5 i = some x → x.block ≠ B := fun x e => by
          have h := HOp
          rw [e] at h
          have h1 := (World.ownsRow.lt h x.block rfl).1
          have h2 := HR1.out.lt
          omega
        have x0 := hx 0 (by omega)
        have x1 := hx 1 (by omega)
        have x2 := hx 2 (by omega)
        have x3 := hx 3 (by omega)
        have x4 := hx 4 (by omega)
        have x5 := hx 5 (by omega)
        simp only [cel, Nat.add_zero] at x0 x1 x2 x3 x4 x5
        rw [HRt.out] at x0
        rw [show (cutP (Q 0).k N (alQ K Q) i).k = (Q 0).k from rfl] at x1
        rw [show (cutP (Q 0).k N (alQ K Q) i).n = (N : Int) from rfl] at x2
        rw [show (cutP (Q 0).k N (alQ K Q) i).i = (i : Int) from rfl] at x3
        rw [show (cutP (Q 0).k N (alQ K Q) i).b = alQ K Q i from rfl] at x4
        have HFy : Hid (∀ w' v, ResT w w' v (cutP (Q 0).k N (alQ K Q) i).m (cutP (Q 0).k N (alQ K Q) i).S → _) := fun w' v hv => HFin.out w' (.returned (.tuple #[pcV root (Q 0).k (N : Int) (i : Int) (alQ K Q i) v, .int .i64 0])) (.inr ⟨HCM.out, h0, by omega, v, by rw [hnn]; simp, by rw [HN.out]; exact hv⟩)
        obtain ⟨m, HM⟩ : ∃ m, Hid ((cutP (Q 0).k N (alQ K Q) i).m = m) := ⟨_, rfl⟩
        obtain ⟨F, HF⟩ : ∃ m, Hid ((cutP (Q 0).k N (alQ K Q) i).S = m) := ⟨_, rfl⟩
        rw [HM.out] at x5 HOp HFy
        rw [HF.out] at HOp HFy
        obtain ⟨sb, HSB⟩ : ∃ m, Hid (alQ K Q i = m) := ⟨_, rfl⟩
        rw [HSB.out] at x4 HFy
        obtain ⟨ap, HAP⟩ : ∃ m, Hid (A5 i = m) := ⟨_, rfl⟩
        obtain ⟨cp, HCP⟩ : ∃ m, Hid (C5 i = m) := ⟨_, rfl⟩
        rw [HAP.out, HCP.out] at x5 HOp
        rw [HAP.out] at lA
        have KOp : Hid (OwnT w2 w.heap.size ap m cp F) := OwnT.base HOp KB1.out.size
        clear hx hib hnn HOp HRt
        go_wp2_with fail
        refine Calls.mono KI.out ?_
        rintro e w' ⟨rfl, rfl⟩
        obtain ⟨w6, HW6⟩ : ∃ x, Hid (x = ((((((w'.setCell ⟨B, 0, none⟩ (.string root)).setCell ⟨B, 1, none⟩ (.int .i64 (Q 0).k)).setCell ⟨B, 2, none⟩ (.int .i64 (N : Int))).setCell ⟨B, 3, none⟩ (.int .i64 (i : Int))).setCell ⟨B, 4, none⟩ (.string sb)).setCell ⟨B, 5, none⟩ (.slice ap m cp))) := ⟨_, rfl⟩
        have HR6 : Row w6 B 33 (pcC root (Q 0).k (N : Int) (i : Int) sb (.slice ap m cp)) := by rw [HW6.out]; exact ((((((HR2.out.set 0 _).set 1 _).set 2 _).set 3 _).set 4 _).set 5 _)
        have B6 : Hid (Below w.heap.size w w6) := by show Below _ _ _; rw [HW6.out]; exact Below.setCell (Below.setCell (Below.setCell (Below.setCell (Below.setCell (Below.setCell KB2.out hBw _) hBw _) hBw _) hBw _) hBw _) hBw _
        have p0 := HR6.cell 0
        have p1 := HR6.cell 1
        have p2 := HR6.cell 2
        have p3 := HR6.cell 3
        have p4 := HR6.cell 4
        have p5 := HR6.cell 5
        simp at p0 p1 p2 p3 p4 p5
        have set1 : ∀ (W : World) (o : Nat) (v : Value), OwnT W w.heap.size ap m cp F → OwnT (W.setCell ⟨B, o, none⟩ v) w.heap.size ap m cp F := fun W o v hW => own_kept hW (grown_set _ _ _ _) lA
        have O6 : Hid (OwnT w6 w.heap.size ap m cp F) := by show OwnT _ _ _ _ _ _; rw [HW6.out]; exact set1 _ _ _ (set1 _ _ _ (set1 _ _ _ (set1 _ _ _ (set1 _ _ _ (set1 _ _ _ KOp.out)))))
        clear set1 lA
        go_wp2
        rw [← HW6.out]
        refine bodyPost_ret (v := .tuple #[pcV root (Q 0).k (N : Int) (i : Int) sb (.slice ap m cp), .int .i64 0]) (by simp [results, Tryz.results36, go_sem, p0, p1, p2, p3, p4, p5]) rfl ⟨B6.out, HFy.out _ _ ⟨_, _, rfl, O6.out⟩⟩
      · have hib : inB idx 0 ((N : Int) - 1) = false := by unfold inB; exact decide_eq_false (by omega)
        have HFn : Hid (∀ w', _) := fun w' => HFin.out w' (.returned (.tuple #[.agg pcZ, .int .i64 2])) (.inl ⟨fun h => hin ⟨h.2.1, by omega⟩, rfl⟩)
        have KI : Hid _ := sIn_any idx 0 ((N : Int) - 1) w2
        rw [hib] at KI
        clear hin hib hnn
        go_wp2_with fail
        refine Calls.mono KI.out ?_
        rintro e w' ⟨rfl, rfl⟩
        obtain ⟨w6, HW6⟩ : ∃ x, Hid (x = ((((((w'.setCell ⟨B, 0, none⟩ (.string ⟨#[]⟩)).setCell ⟨B, 1, none⟩ (.int .i64 0)).setCell ⟨B, 2, none⟩ (.int .i64 0)).setCell ⟨B, 3, none⟩ (.int .i64 0)).setCell ⟨B, 4, none⟩ (.string ⟨#[]⟩)).setCell ⟨B, 5, none⟩ (.slice none 0 0))) := ⟨_, rfl⟩
        have HR6 : Row w6 B 33 pcZ := by rw [HW6.out]; exact ((((((HR2.out.set 0 _).set 1 _).set 2 _).set 3 _).set 4 _).set 5 _)
        have B6 : Hid (Below w.heap.size w w6) := by show Below _ _ _; rw [HW6.out]; exact Below.setCell (Below.setCell (Below.setCell (Below.setCell (Below.setCell (Below.setCell KB2.out hBw _) hBw _) hBw _) hBw _) hBw _) hBw _
        have p0 := HR6.cell 0
        have p1 := HR6.cell 1
        have p2 := HR6.cell 2
        have p3 := HR6.cell 3
        have p4 := HR6.cell 4
        have p5 := HR6.cell 5
        simp [pcZ] at p0 p1 p2 p3 p4 p5
        go_wp2
        rw [← HW6.out]
        refine bodyPost_ret (v := .tuple #[.agg pcZ, .int .i64 2]) (by simp [results, Tryz.results36, go_sem, pcZ, p0, p1, p2, p3, p4, p5]) rfl ⟨B6.out, HFn.out _⟩
end Go.Proofs.YthnjhjgffkilcaaGreatDoor
/- The text out of pieces, in the model, once it has chosen: Regain. -/
namespace Go.Proofs.YthnjhjgffkilcaaGreatDoor
set_option maxRecDepth 2000
open Go.ChangeShapes Go.WideShapes Go.ChangeAt Go.RowKit

end Go.Proofs.YthnjhjgffkilcaaGreatDoor
/- The text told by the first of all bodies is the text that the chosen bodies tell. Plain mathematics. -/
namespace Go.Proofs.YthnjhjgffkilcaaGreatDoor
set_option maxRecDepth 2000
open Go.ChangeShapes Go.WideShapes Go.ChangeAt Go.RowKit

end Go.Proofs.YthnjhjgffkilcaaGreatDoor
