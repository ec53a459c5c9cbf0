/- Slots, lists of slots and nodes, copied by the exact laws: the copies lie in new memory. Conditions: no list is longer than 2^20. Written by mknto.py. -/
import Derived.Test.YtpomffkpjldloaaH25
import Derived.Test.YtpomffkpjldloaaH12
import Derived.Test.YtpomffkpjldloaaH9
import Derived.Test.YtpomffkpjldloaaH16
namespace Go.Proofs.Ytpomffkpjldloaa
set_option maxRecDepth 2000
open Go.ChangeShapes Go.WideShapes Go.ChangeAt Go.RowKit

/-- A row of numbers that is ours, as a datum. -/
theorem ow_ints {w : World} {B : Nat} {a : Option Addr} {cap : Nat} {zs : List Int} {F : Nat → Prop} (h : w.ownsRow B 3 1 (.slice a zs.length cap) zs.length (zs.map (Value.int .i64))) (hF : ∀ x, a = some x → F x.block) : Ow w B (inD zs) (.slice a zs.length cap) F := by
  refine ⟨a, cap, fun i _ => .int .i64 (zs.getD i 0), fun _ _ _ => False, rfl, ?_, ⟨hF, fun _ _ _ _ _ h => h.elim, fun _ _ _ _ _ _ h => h, fun _ _ _ _ _ _ _ _ _ h => h.elim⟩, fun _ _ _ _ => rfl⟩
  have : cL 1 (fun i _ => Value.int .i64 (zs.getD i 0)) zs.length = zs.map (Value.int .i64) := by
    apply List.ext_getElem?
    intro i
    by_cases hi : i < zs.length
    · have := cL_get 1 (fun i _ => Value.int .i64 (zs.getD i 0)) zs.length i 0 hi (by omega)
      rw [Nat.mul_one, Nat.add_zero] at this
      rw [this]
      simp [hi]
    · rw [List.getElem?_eq_none (by rw [cL_len]; omega), List.getElem?_eq_none (by simp; omega)]
  rw [this]
  exact h
theorem ints_ow {w : World} {B : Nat} {v : Value} {zs : List Int} {F : Nat → Prop} (h : Ow w B (inD zs) v F) : ∃ a cap, v = .slice a zs.length cap ∧ w.ownsRow B 3 1 (.slice a zs.length cap) zs.length (zs.map (Value.int .i64)) ∧ ∀ x, a = some x → F x.block := by
  obtain ⟨a, cap, c, G, e, ho, hs, hr⟩ := h
  refine ⟨a, cap, e, ?_, hs.head⟩
  have : cL 1 c zs.length = zs.map (Value.int .i64) := by
    apply List.ext_getElem?
    intro i
    by_cases hi : i < zs.length
    · have := cL_get 1 c zs.length i 0 hi (by omega)
      rw [Nat.mul_one, Nat.add_zero] at this
      rw [this]
      have h2 : c i 0 = .int .i64 (zs.getD i 0) := hr i 0 hi (by omega)
      rw [h2]
      simp [hi]
    · rw [List.getElem?_eq_none (by rw [cL_len]; omega), List.getElem?_eq_none (by simp; omega)]
  rw [← this]
  exact ho
theorem World.size_setCells (b : Nat) : ∀ (vs : List Value) (o : Nat) (w : World), (w.setCells b o vs).heap.size = w.heap.size
  | [], _, _ => rfl
  | v :: r, o, w => by rw [World.setCells, World.size_setCells b r (o + 1) _]; simp
end Go.Proofs.Ytpomffkpjldloaa
/- Lists of numbers, copied: slices.Clone, and the model's way. Condition: at most 2^20 numbers. -/
namespace Go.Proofs.Ytpomffkpjldloaa
set_option maxRecDepth 2000
open Go.ChangeShapes Go.WideShapes Go.ChangeAt Go.RowKit

/-- The cells of a list that is read, as append asks for them. -/
theorem ints_news {w : World} {b off n : Nat} {zs : List Int} (h : IntsAt w (some ⟨b, off, none⟩) n zs) : ∀ (j : Nat) (u : Value), (zs.map (Value.int .i64))[j]? = some u → w.cell? ((⟨b, off, none⟩ : Addr).add j) = some u := fun j u hu => by
  have hj : j < zs.length := by
    have := (List.getElem?_eq_some_iff.1 hu).1
    simpa using this
  obtain ⟨b', off', e, hc⟩ := h.2 j (by rw [← h.1]; exact hj)
  cases e
  have ea : (⟨b, off, none⟩ : Addr).add j = ⟨b, off + j, none⟩ := by unfold Addr.add; split <;> simp_all
  rw [ea, hc, ← hu]
  simp [hj]
theorem ints_spot {w : World} {a : Addr} {n : Nat} {zs : List Int} (h : IntsAt w (some a) n zs) (hn : 0 < n) : a = ⟨a.block, a.off, none⟩ := by
  obtain ⟨b, off, e, _⟩ := h.2 0 hn
  cases e
  rfl
theorem slice_none (n c : Nat) (w : World) : Sem.run Try.prog (binOp BinOp.eql 22 (.slice none n c) (.slice none 0 0)) w = .ok (.bool true) w := by rfl
theorem slice_some (x : Addr) (n c : Nat) (w : World) : Sem.run Try.prog (binOp BinOp.eql 22 (.slice (some x) n c) (.slice none 0 0)) w = .ok (.bool false) w := by rfl
set_option maxHeartbeats 1000000 in
theorem cloneI_any (a : Option Addr) (cap : Nat) (zs : List Int) (w : World) (h : IntsAt w a zs.length zs) (hn : zs.length ≤ 1048576) :
    Calls Try.prog 29 #[.slice a zs.length cap] w fun e w' => ∃ a' c', e = .returned (.slice a' zs.length c') ∧ Ow w' w.heap.size (inD zs) (.slice a' zs.length c') (rng w.heap.size w'.heap.size) ∧ Below w.heap.size w w' := by
  obtain ⟨i0, hi, hz0, hz1, hz2⟩ : ∃ i0, Try.prog.info? 3 = some i0 ∧ i0.zero = some (.int .i64 0) ∧ i0.size = 1 ∧ i0.bytes = 8 := ⟨_, rfl, rfl, rfl, rfl⟩
  obtain ⟨n, HN⟩ : ∃ x, Hid (zs.length = x) := ⟨_, rfl⟩
  rw [HN.out] at h hn ⊢
  match a, h with
  | none, h =>
    have e0 : n = 0 := by
      by_cases h0 : n = 0
      · exact h0
      · obtain ⟨b, off, e, _⟩ := h.2 0 (by omega)
        cases e
    subst e0
    have ez : zs = [] := List.length_eq_zero_iff.1 HN.out
    subst ez
    have hsn := slice_none
    go_enter Try.func29, Try.ntmps29
    go_wp2
    go_ret
    exact ⟨none, 0, rfl, ow_ints (zs := []) (World.ownsRow_nil _ _ _ _) (fun x e => by cases e), Below.refl _ _⟩
  | some ad, h =>
    obtain ⟨b, off, sp⟩ := ad
    have HNW : Hid (∀ (j : Nat) (u : Value), (zs.map (Value.int .i64))[j]? = some u → w.cell? ((⟨b, off, sp⟩ : Addr).add j) = some u) := fun j u hu => by
      have hj : 0 < n := by
        have := (List.getElem?_eq_some_iff.1 hu).1
        have := HN.out
        simp at *
        omega
      have e := ints_spot h hj
      simp at e
      subst e
      exact ints_news h j u hu
    have HLL : Hid ((zs.map (Value.int .i64)).length = n * 1) := by show _ = _; simp [HN.out]
    have HO : Hid ((w.alloc (.cells #[] 3)).ownsRow w.heap.size 3 1 (.slice (some ⟨w.heap.size, 0, none⟩) 0 0) 0 []) := by
      have := World.ownsRow_lit (e := 3) (size := 1) (base := w.heap.size) w #[] 0 (by simp) (by unfold maxLen; omega) (by simp)
      exact this
    have HNA : Hid (∀ (j : Nat) (u : Value), (zs.map (Value.int .i64))[j]? = some u → (w.alloc (.cells #[] 3)).cell? ((⟨b, off, sp⟩ : Addr).add j) = some u) := fun j u hu => by
      have := HNW.out j u hu
      rw [((Below.refl w.heap.size w).alloc (Nat.le_refl _) _).cell (block_lt_of_cell this)]
      exact this
    have HB0 : Hid (Below w.heap.size w (w.alloc (.cells #[] 3))) := (Below.refl _ _).alloc (Nat.le_refl _) _
    clear h
    have hss := slice_some
    go_enter Try.func29, Try.ntmps29
    go_wp2_with (at_builtin; refine wpList_append_all _ (by rfl) _ _ 22 (by rfl) w.heap.size 3 i0 (.int .i64 0) 1 8 Try.underlying22 hi hz0 hz1 hz2 rfl (by decide) w.heap.size 0 0 [] (by rfl) ?_ ⟨b, off, sp⟩ n cap (zs.map (Value.int .i64)) (by rfl) ?_ ?_ (by simp [Value.oneCell']) (by unfold maxLen; omega) (by omega) (by simp) ?_; exact HO.out; exact HLL.out; exact HNA.out; intro g3 cap3 w3 hown3 hgrow3)
    have HB3 : Hid (Below w.heap.size w w3) := HB0.out.grown hgrow3 (by simp) (fun x hx => by cases hx; exact Nat.le_refl _)
    have HO3 : Hid (w3.ownsRow w.heap.size 3 1 (.slice (some ⟨g3, 0, none⟩) zs.length cap3) zs.length (zs.map (Value.int .i64))) := by
      show World.ownsRow _ _ _ _ _ _ _
      rw [HN.out]
      simpa using hown3
    have lg := World.ownsRow.lt HO3.out g3 rfl
    clear hown3 hgrow3
    go_wp2
    go_ret
    refine ⟨some ⟨g3, 0, none⟩, cap3, by simp, ?_, HB3.out⟩
    have := ow_ints HO3.out (F := rng w.heap.size w3.heap.size) (fun x e => by cases e; exact lg)
    rw [HN.out] at this
    exact this
end Go.Proofs.Ytpomffkpjldloaa
/- Marks over lists of numbers and texts, with wide bounds. Conditions: lists of at most 2^20. -/
namespace Go.Proofs.Ytpomffkpjldloaa
set_option maxRecDepth 2000
open Go.ChangeShapes Go.WideShapes Go.ChangeAt Go.RowKit

set_option maxHeartbeats 1000000 in
theorem mark2_any (B E : Nat) (a : Option Addr) (n cap k : Nat) (zs : List Int) (w : World) (h : RowI w B E a n cap zs) (hn : n ≤ 1048576) (hk : k ≤ 50000000) :
    Calls Try.prog 9 #[.slice a n cap, .int .i64 (k : Int)] w fun e w' => e = .returned (.int .i64 ((k + n : Nat) : Int)) ∧ RowI w' B E a n cap (marks k n) ∧ Turned w w' B E := by
  obtain ⟨ho, hl, hcap, hb⟩ := h
  rcases ho.2 with ⟨e, hz⟩ | ⟨g, cap', cur, e, hB, hg, _⟩
  · cases e
    rw [hl] at *
    clear hl
    have HM : Hid (RowI w B E none 0 0 (marks k 0)) := ⟨World.ownsRow_nil w _ _ _, rfl, Nat.le_refl _, fun k hk => by cases hk⟩
    have HT : Hid (Turned w w B E) := ⟨none, World.grownBy.refl _ _, fun g hg => by cases hg⟩
    rw [hz]
    clear ho hb hz hn hcap
    go_enter Try.func9, Try.ntmps9
    go_wp2
    go_loopw [1, 5] (fun p i wr => p = .int .i64 (k : Int) ∧ i = .int .i64 0 ∧ wr = w) (fun _ _ _ => 0)
    case atStart => exact ⟨rfl, rfl, rfl⟩
    case round =>
      obtain ⟨rfl, rfl, rfl⟩ := hrel
      go_wp2
      go_ret
      exact ⟨rfl, HM.out, HT.out⟩
  · have hca : cap = cap' ∧ a = some ⟨g, 0, none⟩ := by cases e; exact ⟨rfl, rfl⟩
    obtain ⟨rfl, rfl⟩ := hca
    have hgE := hb g rfl
    have HL : Hid (zs.length = n) := hl.symm
    have ho' : w.ownsRow B 3 1 (.slice (some ⟨g, 0, none⟩) n cap) n ((marks k 0 ++ zs.drop 0).map (Value.int .i64)) := by
      have h2 := ho
      unfold OwnI at h2
      rw [← hl] at h2
      exact h2
    have H0 : Hid _ := ho'
    clear ho ho' hg e hl hb
    go_enter Try.func9, Try.ntmps9
    go_wp2
    go_loopw [1, 5] (fun p i wr => ∃ c : Nat, c ≤ n ∧ p = .int .i64 ((k + c : Nat) : Int) ∧ i = .int .i64 c ∧ wr.ownsRow B 3 1 (.slice (some ⟨g, 0, none⟩) n cap) n ((marks k c ++ zs.drop c).map (Value.int .i64)) ∧ w.grownBy wr (some g)) (fun _ i _ => n - (intOf i).toNat)
    case atStart => exact ⟨0, Nat.zero_le _, rfl, rfl, H0.out, World.grownBy.refl _ _⟩
    case round =>
      obtain ⟨c, hc, rfl, rfl, hown, hgr⟩ := hrel
      clear H0
      by_cases hlt : c < n
      · have hltI : (c : Int) < (n : Int) := by omega
        obtain ⟨old, hold⟩ : ∃ v, wr.cell? ⟨g, c, none⟩ = some v := by
          rw [hown.cellAt c (by omega)]
          exact ⟨_, List.getElem?_eq_getElem (by rw [hown.1]; omega)⟩
        have hfr := hown.frozenAt c
        have hst := hown.stored c (.int .i64 ((k + c : Nat) : Int))
        rw [marks_step k n c zs HL.out hlt] at hst
        have hg2 : wr.grownBy (wr.setCell ⟨g, c, none⟩ (.int .i64 ((k + c : Nat) : Int))) (some g) := ⟨rfl, rfl, rfl, by simp, fun j _ hj => heap_setCell_other wr ⟨g, c, none⟩ j _ (fun e => hj (by simp [e]))⟩
        have HO : Hid _ := And.intro hst.1 (grownBy_trans hgr hg2)
        clear hst hg2 hown hgr
        obtain ⟨kc, hkc⟩ : ∃ kc, k + c = kc := ⟨_, rfl⟩
        rw [hkc] at HO
        rw [hkc]
        go_wp2
        go_roundw
        case rel => exact ⟨c + 1, by omega, by rw [show k + (c + 1) = kc + 1 by omega]; go_num, by go_num, HO.out.1, HO.out.2⟩
        case measure => simp [intOf] <;> omega
      · obtain rfl : c = n := by omega
        have HR : Hid (RowI wr B E (some ⟨g, 0, none⟩) c cap (marks k c)) := by
          have e : marks k c ++ zs.drop c = marks k c := by rw [List.drop_eq_nil_of_le (by rw [HL.out]; omega), List.append_nil]
          rw [e] at hown
          have hm : (marks k c).length = c := eI_len _ _
          refine ⟨?_, hm.symm, hcap, fun j hj => by cases hj; exact ⟨hB, hgE.2⟩⟩
          unfold OwnI
          rw [hm]
          exact hown
        have HT : Hid (Turned w wr B E) := ⟨some g, hgr, fun j hj => by cases hj; exact ⟨hB, hgE.2⟩⟩
        clear hown hgr
        go_wp2
        go_ret
        exact ⟨rfl, HR.out, HT.out⟩

set_option maxHeartbeats 1000000 in
theorem heldT2_any (a : Option Addr) (n cap k q : Nat) (w : World) (h : TxtAt w a n (fun i => mtxt (k + i))) (hn : n ≤ 1048576) (hk : k ≤ 50000000) (hq : k + n = q) :
    Calls Try.prog 48 #[.slice a n cap, .int .i64 (k : Int)] w fun e w' => e = .returned (.int .i64 (q : Int)) ∧ Below w.heap.size w w' := by
  subst hq
  have KH : Hid (TxtAt w a n (fun i => mtxt (k + i))) := h
  clear h
  go_enter Try.func48, Try.ntmps48
  go_wp2
  go_loopw [1, 5] (fun p i wr => ∃ c x : Nat, c ≤ n ∧ k + c = x ∧ p = .int .i64 (x : Int) ∧ i = .int .i64 (c : Int) ∧ Below w.heap.size w wr) (fun _ i _ => n - (intOf i).toNat)
  case atStart => exact ⟨0, k, Nat.zero_le _, rfl, rfl, rfl, Below.refl _ _⟩
  case round =>
    obtain ⟨c, x, hc, hx, rfl, rfl, hbel⟩ := hrel
    by_cases hlt : c < n
    · have hlti : (c : Int) < (n : Int) := by omega
      obtain ⟨b, off, rfl, hcell⟩ := KH.out.below hbel c hlt
      simp only [hx] at hcell
      have KC : Hid (∀ w, Calls Try.prog 37 #[.int .i64 (x : Int)] w fun e w' => e = .returned (.string (mtxt x)) ∧ Below w.heap.size w w') := fun w => markText_any x w (by omega)
      generalize mtxt x = mx at hcell KC
      have hbq := ba_beq mx
      have hlc := block_lt_of_cell hcell
      go_wp2_with fail
      go_region_held3 (fun w' => w'.cell? ⟨b, off + c, none⟩ = some (.string mx)) (go_keep) ((go_at_call 37; refine Calls.mono (KC.out _) ?_; rintro e w5 ⟨rfl, hb5'⟩; have hb5 := below_of_drew hb5'; clear hb5'; have h50 := (hb5.cell (p := ⟨b, off + c, none⟩) hlc).trans hcell))
      all_goals
        have HB : Hid (Below w.heap.size w w5) := below2 hbel hb5
        clear hb5 h50
        go_wp2
        go_roundw
        case rel => exact ⟨c + 1, x + 1, by omega, by omega, by go_num, by go_num, HB.out⟩
        case measure => simp [intOf] <;> omega
    · obtain rfl : c = n := by omega
      subst hx
      go_wp2
      go_ret
      exact ⟨rfl, hbel⟩
theorem marks_length (k n : Nat) : (marks k n).length = n := by simp [marks, eI]
theorem Trn.ofTurned {w w' : World} {B E : Nat} {F : Nat → Prop} (h : Turned w w' B E) (hF : ∀ g, B ≤ g → g < E → F g) : Trn w w' F := by
  obtain ⟨r, hg, hr⟩ := h
  exact ⟨hg.os, hg.tape, hg.output, hg.size, fun j hj hn => hg.block j hj (fun e => hn (hF j (hr j e.symm).1 (hr j e.symm).2))⟩
/-- Marks over a list of numbers, by data. -/
theorem markD_ints (B : Nat) (v : Value) (zs : List Int) (k q : Nat) (F : Nat → Prop) (w : World) (h : Ow w B (inD zs) v F) (hn : zs.length ≤ 1048576) (hk : k ≤ 50000000) (hq : k + zs.length = q) :
    Calls Try.prog 9 #[v, .int .i64 (k : Int)] w fun e w' => e = .returned (.int .i64 (q : Int)) ∧ Ow w' B (inD (marks k zs.length)) v F ∧ Trn w w' F := by
  obtain ⟨a, cap, rfl, ho, hF⟩ := ints_ow h
  subst hq
  have back : ∀ {w' : World} {C : Nat}, OwnI w' C (.slice a zs.length cap) (marks k zs.length) → B ≤ C → Ow w' B (inD (marks k zs.length)) (.slice a zs.length cap) F := fun {w'} {C} h' hC => by
    have h2 : w'.ownsRow C 3 1 (.slice a (marks k zs.length).length cap) (marks k zs.length).length ((marks k zs.length).map (Value.int .i64)) := by
      have := h'
      unfold OwnI at this
      rw [marks_length] at this ⊢
      exact this
    have := ow_ints (own_base h2 hC) hF
    rw [marks_length] at this
    exact this
  rcases ho.2 with ⟨h0, hz⟩ | ⟨g, cap', cur, e, hB, hg, hcap, hr⟩
  · have ea : a = none ∧ cap = 0 := by
      simp only [Value.slice.injEq] at h0
      exact ⟨h0.1, h0.2.2⟩
    obtain ⟨rfl, rfl⟩ := ea
    refine (mark2_any B B none zs.length 0 k zs w ⟨ho, rfl, by omega, fun x hx => by cases hx⟩ hn hk).mono ?_
    rintro e w' ⟨rfl, hR, hT⟩
    exact ⟨rfl, back hR.1 (Nat.le_refl _), Trn.ofTurned hT (fun g h1 h2 => absurd h1 (by omega))⟩
  · have ea : a = some ⟨g, 0, none⟩ ∧ cap = cap' := by
      simp only [Value.slice.injEq] at e
      exact ⟨e.1, e.2.2⟩
    obtain ⟨rfl, rfl⟩ := ea
    have hO : OwnI w g (.slice (some ⟨g, 0, none⟩) zs.length cap) zs := ⟨ho.1, .inr ⟨g, cap, cur, e, Nat.le_refl _, hg, hcap, hr⟩⟩
    refine (mark2_any g (g + 1) (some ⟨g, 0, none⟩) zs.length cap k zs w ⟨hO, rfl, hcap, fun x hx => by cases hx; exact ⟨Nat.le_refl _, Nat.lt_succ_self _⟩⟩ hn hk).mono ?_
    rintro e w' ⟨rfl, hR, hT⟩
    exact ⟨rfl, back hR.1 hB, Trn.ofTurned hT (fun x h1 h2 => (show x = g by omega) ▸ hF _ rfl)⟩
end Go.Proofs.Ytpomffkpjldloaa
/- Lists of slots and nodes, copied by the exact laws: the copies lie in new memory. Conditions: no list is longer than 2^20. -/
namespace Go.Proofs.Ytpomffkpjldloaa
set_option maxRecDepth 2000
open Go.ChangeShapes Go.WideShapes Go.ChangeAt Go.RowKit

def slZ : Sl := ⟨ByteArray.empty, ⟨ByteArray.empty, 0, 0, 0, ByteArray.empty, 0, fun _ => ByteArray.empty⟩, false, false, false, false, [], []⟩
end Go.Proofs.Ytpomffkpjldloaa
/- Marks laid into a list of slots: the call ends with a number, and turns blocks of the list's alone. Conditions: lists of at most 2^20. Written by mkmarks.py. -/
namespace Go.Proofs.Ytpomffkpjldloaa
set_option maxRecDepth 2000
open Go.ChangeShapes Go.WideShapes Go.ChangeAt Go.RowKit

/-- How many marks a slot takes. -/
def wkS (s : Sl) : Nat := 10 + s.p.m + s.ze.length + s.zr.length
theorem tot_step {g : Nat → Nat} {c n : Nat} (h : c < n) : tot g c + g c ≤ tot g n := by
  induction n with
  | zero => omega
  | succ n ih =>
    rw [show tot g (n + 1) = tot g n + g n from rfl]
    by_cases e : c = n
    · subst e; omega
    · have := ih (by omega); omega
end Go.Proofs.Ytpomffkpjldloaa
