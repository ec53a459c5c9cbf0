/- A map that counts badges: looked up, and one more counted. No condition but what each says. -/
import Derived.Test.YtjhbjfplgmcbpaaH41
namespace Go.Proofs.Ytjhbjfplgmcbpaa
set_option maxRecDepth 2000
open Go.ChangeShapes Go.WideShapes Go.ChangeAt Go.RowKit Go.ChangeMaps Go.MapKept Go.WideElems

/-- The entries count the numbers of a list. -/
structure LE (f : Int) (zs : List Int) (es : Array MapEntry) (clock : Nat) : Prop where
  ks : ∀ e ∈ es.toList, ∃ a c, e.key = bk a f ∧ e.val = .int .i64 c ∧ 1 ≤ c ∧ c ≤ (zs.length : Int) ∧ a ∈ zs
  all : ∀ a ∈ zs, ∃ e ∈ es.toList, e.key = bk a f
  st : ∀ e ∈ es.toList, e.born < clock
  nd : (es.toList.map (·.born)).Nodup
theorem LE.keys {f : Int} {zs : List Int} {es : Array MapEntry} {clock : Nat} (h : LE f zs es clock) : ∀ e ∈ es.toList, ∃ a, e.key = bk a f := fun e he => by
  obtain ⟨a, _, h1, _⟩ := h.ks e he
  exact ⟨a, h1⟩
def LM (w : World) (b : Nat) (f : Int) (zs : List Int) : Prop := ∃ es clock, w.heap[b]? = some (.map es clock) ∧ LE f zs es clock
theorem le_nil (f : Int) : LE f [] #[] 0 := ⟨(fun e he => by simp at he), (fun a ha => absurd ha (by simp)), (fun e he => by simp at he), (by simp)⟩
theorem bk_map : Try.prog.underlying 93 = some (.map 67 3) := by kernel_rfl
theorem look_at {w : World} {b : Nat} {es : Array MapEntry} {clock : Nat} (hb : w.heap[b]? = some (.map es clock)) {x f : Int} {j : Nat} {e : MapEntry} (h1 : ∀ w, (Instr.findKey 67 (bk x f) es.toList).run Try.prog w = .ok (some (j, e.val)) w) :
    (Instr.lookup 93 (.map (some b)) (bk x f) false).run Try.prog w = .ok e.val w := by
  simp [Instr.lookup, run_underlying bk_map, MapKept.run_getObj_map hb, bk_check, h1, Result.andThen]
theorem look_no {w : World} {b : Nat} {es : Array MapEntry} {clock : Nat} (hb : w.heap[b]? = some (.map es clock)) {x f : Int} (h1 : ∀ w, (Instr.findKey 67 (bk x f) es.toList).run Try.prog w = .ok none w) :
    (Instr.lookup 93 (.map (some b)) (bk x f) false).run Try.prog w = .ok (.int .i64 0) w := by
  simp [Instr.lookup, run_underlying bk_map, MapKept.run_getObj_map hb, bk_check, h1, Result.andThen]
/-- What a look-up answers. -/
theorem lm_look {w : World} {b : Nat} {f : Int} {zs : List Int} (h : LM w b f zs) (x : Int) : ∃ c : Int, (Instr.lookup 93 (.map (some b)) (bk x f) false).run Try.prog w = .ok (.int .i64 c) w ∧ (0 < c ↔ x ∈ zs) := by
  obtain ⟨es, clock, hb, hl⟩ := h
  rcases bk_find x f es.toList hl.keys with ⟨h1, h2⟩ | ⟨j, e, h1, h2, h3⟩
  · refine ⟨0, look_no hb h1, ⟨fun h => absurd h (by omega), fun hx => ?_⟩⟩
    obtain ⟨e, he, hk⟩ := hl.all x hx
    exact absurd hk (h2 e he)
  · obtain ⟨a, c, k1, k2, k3, _, k5⟩ := hl.ks e (List.mem_of_getElem? h2)
    refine ⟨c, by rw [look_at hb h1, k2], ⟨fun _ => ?_, fun _ => by omega⟩⟩
    rw [← bk_inj (k1.symm.trans h3)]
    exact k5
/-- One more is counted. -/
theorem lm_more {w : World} {b : Nat} {f : Int} {zs : List Int} (h : LM w b f zs) (x : Int) : ∃ (c : Int) (st : Nat) (es1 : Array MapEntry) (clock1 : Nat) (es2 : Array MapEntry) (clock2 : Nat),
    (∀ W, W.heap[b]? = w.heap[b]? → (Instr.lookup 93 (.map (some b)) (bk x f) false).run Try.prog W = .ok (.int .i64 c) W ∧ (Instr.mapEntry 93 (.map (some b)) (bk x f)).run Try.prog W = .ok (.tuple #[.int .i64 c, .int .i64 (st : Int)]) (setBlock W b (.map es1 clock1))) ∧
    (∀ W, W.heap[b]? = some (.map es1 clock1) → (Instr.lookup 93 (.map (some b)) (bk x f) false).run Try.prog W = .ok (.int .i64 c) W ∧ (Instr.entryStore 93 (.map (some b)) (.int .i64 (st : Int)) (.int .i64 (c + 1))).run Try.prog W = .ok () (setBlock W b (.map es2 clock2))) ∧
    0 ≤ c ∧ c ≤ (zs.length : Int) ∧ LE f (zs ++ [x]) es2 clock2 := by
  obtain ⟨es, clock, hb, hl⟩ := h
  rcases bk_find x f es.toList hl.keys with ⟨h1, h2⟩ | ⟨j, e0, h1, h2, h3⟩
  · have hpk : ∀ e ∈ (es.push ⟨bk x f, .int .i64 0, clock⟩).toList, ∃ a, e.key = bk a f := fun e he => by
      simp only [Array.toList_push, List.mem_append, List.mem_singleton] at he
      rcases he with he | rfl
      · exact hl.keys e he
      · exact ⟨x, rfl⟩
    have hnd : ((es.push ⟨bk x f, .int .i64 0, clock⟩).toList.map (·.born)).Nodup := by
      simp only [Array.toList_push, List.map_append, List.map_cons, List.map_nil]
      refine List.nodup_append.2 ⟨hl.nd, by simp, fun a ha c hc e1 => ?_⟩
      simp only [List.mem_singleton] at hc
      obtain ⟨y, hy, rfl⟩ := List.mem_map.1 ha
      have := hl.st y hy
      omega
    refine ⟨0, clock, es.push ⟨bk x f, .int .i64 0, clock⟩, clock + 1, es.push ⟨bk x f, .int .i64 1, clock⟩, clock + 1, fun W hW => ?_, fun W hW => ?_, by omega, by omega, ?_⟩
    · rw [hb] at hW
      refine ⟨look_no hW h1, ?_⟩
      simp [Instr.mapEntry, run_underlying bk_map, MapKept.run_getObj_map hW, bk_check, h1, MapKept.run_setObj_map _ hW, Result.andThen, setBlock, goInt]
    · constructor
      · rcases bk_find x f _ hpk with ⟨_, g2⟩ | ⟨j', e', g1, g2, g3⟩
        · exact absurd rfl (g2 ⟨bk x f, .int .i64 0, clock⟩ (by simp))
        · have he := List.mem_of_getElem? g2
          simp only [Array.toList_push, List.mem_append, List.mem_singleton] at he
          rcases he with he | rfl
          · exact absurd g3 (h2 e' he)
          · exact look_at hW g1
      · have hidx : (es.push ⟨bk x f, .int .i64 0, clock⟩).findIdx? (fun e => ((e.born : Nat) : Int) == ((clock : Nat) : Int)) = some es.size := by
          rw [findIdx_arr]
          exact findIdx_born (l := (es.push ⟨bk x f, .int .i64 0, clock⟩).toList) (j := es.size) (e0 := ⟨bk x f, .int .i64 0, clock⟩) hnd (by simp)
        have hmod : (es.push ⟨bk x f, .int .i64 0, clock⟩).modify es.size (fun e => { e with val := .int .i64 1 }) = es.push ⟨bk x f, .int .i64 1, clock⟩ := by
          apply Array.ext'
          rw [Array.toList_modify, Array.toList_push, Array.toList_push, ← Array.length_toList, modify_last]
        simp [Instr.entryStore, MapKept.run_getObj_map hW, asInt, asIntOf, hidx, hmod, MapKept.run_setObj_map _ hW, Result.andThen, setBlock]
    · refine ⟨fun e he => ?_, fun a ha => ?_, fun e he => ?_, ?_⟩
      · simp only [Array.toList_push, List.mem_append, List.mem_singleton] at he
        rcases he with he | rfl
        · obtain ⟨a, c, k1, k2, k3, k4, k5⟩ := hl.ks e he
          exact ⟨a, c, k1, k2, k3, by simp; omega, by simp [k5]⟩
        · exact ⟨x, 1, rfl, rfl, by omega, by simp; omega, by simp⟩
      · simp only [List.mem_append, List.mem_singleton] at ha
        rcases ha with ha | rfl
        · obtain ⟨e, he, hk⟩ := hl.all a ha
          exact ⟨e, by simp [he], hk⟩
        · exact ⟨⟨bk a f, .int .i64 1, clock⟩, by simp, rfl⟩
      · simp only [Array.toList_push, List.mem_append, List.mem_singleton] at he
        rcases he with he | rfl
        · have := hl.st e he; omega
        · show clock < clock + 1; omega
      · simpa using hnd
  · have hm0 := List.mem_of_getElem? h2
    obtain ⟨a, c, k1, k2, k3, k4, k5⟩ := hl.ks e0 hm0
    obtain rfl : a = x := bk_inj (k1.symm.trans h3)
    have hj : es[j]? = some e0 := by simpa using h2
    have hsame : es.modify j (fun e => { e with key := bk a f }) = es := by
      apply Array.ext'
      rw [Array.toList_modify, modify_eq_set _ _ _ _ h2]
      have : ({ e0 with key := bk a f } : MapEntry) = e0 := by rw [← h3]
      rw [this]
      exact set_self _ _ _ h2
    refine ⟨c, e0.born, es, clock, es.modify j (fun e => { e with val := .int .i64 (c + 1) }), clock, fun W hW => ?_, fun W hW => ?_, by omega, by omega, ?_⟩
    · rw [hb] at hW
      refine ⟨by rw [look_at hW h1, k2], ?_⟩
      simp [Instr.mapEntry, run_underlying bk_map, MapKept.run_getObj_map hW, bk_check, h1, hj, h3, bk_stays, hsame, k2, MapKept.run_setObj_map _ hW, Result.andThen, setBlock, goInt]
    · refine ⟨by rw [look_at hW h1, k2], ?_⟩
      have hidx : es.findIdx? (fun e => ((e.born : Nat) : Int) == ((e0.born : Nat) : Int)) = some j := by
        rw [findIdx_arr]
        exact findIdx_born hl.nd h2
      simp [Instr.entryStore, MapKept.run_getObj_map hW, asInt, asIntOf, hidx, MapKept.run_setObj_map _ hW, Result.andThen, setBlock]
    · have hto : (es.modify j (fun e => { e with val := .int .i64 (c + 1) })).toList = es.toList.set j { e0 with val := .int .i64 (c + 1) } := by
        rw [Array.toList_modify, modify_eq_set _ _ _ _ h2]
      have hmem : ∀ e ∈ (es.modify j (fun e => { e with val := .int .i64 (c + 1) })).toList, e ∈ es.toList ∨ e = { e0 with val := .int .i64 (c + 1) } := fun e he => by
        rw [hto] at he
        exact List.mem_or_eq_of_mem_set he
      refine ⟨fun e he => ?_, fun b' hb' => ?_, fun e he => ?_, ?_⟩
      · rcases hmem e he with he | rfl
        · obtain ⟨a', c', g1, g2, g3, g4, g5⟩ := hl.ks e he
          exact ⟨a', c', g1, g2, g3, by simp; omega, by simp [g5]⟩
        · exact ⟨a, c + 1, k1, rfl, by omega, by simp; omega, by simp⟩
      · have hb2 : b' ∈ zs := by
          simp only [List.mem_append, List.mem_singleton] at hb'
          rcases hb' with h | rfl
          · exact h
          · exact k5
        obtain ⟨e, he, hk⟩ := hl.all b' hb2
        obtain ⟨i, hi, rfl⟩ := List.getElem_of_mem he
        by_cases ei : i = j
        · subst ei
          have e1 : es.toList[i] = e0 := by rw [List.getElem?_eq_getElem hi] at h2; exact Option.some.inj h2
          refine ⟨{ e0 with val := .int .i64 (c + 1) }, ?_, by rw [← e1]; exact hk⟩
          rw [hto]
          exact List.mem_iff_getElem.2 ⟨i, by simpa using hi, by simp⟩
        · refine ⟨es.toList[i], ?_, hk⟩
          rw [hto]
          exact List.mem_iff_getElem.2 ⟨i, by simpa using hi, by rw [List.getElem_set_ne (Ne.symm ei)]⟩
      · rcases hmem e he with he | rfl
        · exact hl.st e he
        · exact hl.st e0 hm0
      · rw [hto, List.map_set]
        have : (es.toList.map (·.born)).set j e0.born = es.toList.map (·.born) := set_self _ _ _ (by rw [List.getElem?_map, h2]; rfl)
        show ((es.toList.map (·.born)).set j e0.born).Nodup
        rw [this]
        exact hl.nd
end Go.Proofs.Ytjhbjfplgmcbpaa
/- The liars of a net, counted in a map, in the program. Conditions: lists of at most 2^20. -/
namespace Go.Proofs.Ytjhbjfplgmcbpaa
set_option maxRecDepth 2000
open Go.ChangeShapes Go.WideShapes Go.ChangeAt Go.RowKit Go.ChangeMaps

theorem below_setBlock {B b : Nat} {w0 w : World} (h : Below B w0 w) (hb : B ≤ b) (o : Obj) : Below B w0 (setBlock w b o) :=
  ⟨h.os, h.tape, h.output, by show _ ≤ (w.heap.setIfInBounds b o).size; simp; exact h.size, fun j hj => by
    show (w.heap.setIfInBounds b o)[j]? = _
    rw [Array.getElem?_setIfInBounds_ne (by omega)]
    exact h.block j hj⟩
set_option maxHeartbeats 2000000 in
theorem lies_any (f : Int) (v1 v3 : Value) (l : Option Addr) (d : Nat) (zs : List Int) (w : World) (h : IntsAt w l zs.length zs) (hn : zs.length ≤ 1048576) :
    Calls Try.prog 54 #[ntV f v1 (.slice l zs.length d) v3] w fun e w' => ∃ b, e = .returned (.map (some b)) ∧ LM w' b f zs ∧ w.heap.size ≤ b ∧ Below w.heap.size w w' := by
  obtain ⟨A, HA⟩ : ∃ x, Hid (x = w.heap.size) := ⟨_, rfl⟩
  obtain ⟨w0, HW0⟩ : ∃ x, Hid (x = w.alloc (.cells #[.int .i64 f, v1, .slice l zs.length d, v3] 31)) := ⟨_, rfl⟩
  have RA : Hid (Row w0 A 31 #[.int .i64 f, v1, .slice l zs.length d, v3]) := by show Row _ _ _ _; rw [HW0.out, HA.out]; exact Row.new w _ _
  have hb0 : Below w.heap.size w w0 := by rw [HW0.out]; exact (Below.refl _ _).alloc (Nat.le_refl _) _
  obtain ⟨b, HB⟩ : ∃ x, Hid (x = w.heap.size + 1) := ⟨_, rfl⟩
  have eb : b = w0.heap.size := by rw [HB.out, HW0.out]; simp
  obtain ⟨w1, HW1⟩ : ∃ x, Hid (x = w0.alloc (.map #[] 0)) := ⟨_, rfl⟩
  have hb1 : Below w0.heap.size w0 w1 := by rw [HW1.out]; exact (Below.refl _ _).alloc (Nat.le_refl _) _
  have HL1 : Hid (LM w1 b f [] ∧ Row w1 A 31 #[.int .i64 f, v1, .slice l zs.length d, v3] ∧ Below w.heap.size w w1) := ⟨⟨#[], 0, by rw [HW1.out, eb]; exact heap_alloc_new w0 _, le_nil f⟩, RA.out.below hb1 RA.out.lt, below2 hb0 hb1⟩
  have HLs : Hid (A < b ∧ w.heap.size ≤ b ∧ w.heap.size ≤ A) := ⟨by rw [eb]; exact RA.out.lt, by rw [eb]; exact hb0.size, by rw [HA.out]; exact Nat.le_refl _⟩
  obtain ⟨n, HN⟩ : ∃ x, Hid (zs.length = x) := ⟨_, rfl⟩
  have KI : Hid (∀ W, Below w.heap.size w W → IntsAt W l n zs) := fun W hW => by have := h.below hW; rw [HN.out] at this; exact this
  rw [HN.out] at hn HL1 RA HW0 ⊢
  have x2 := HL1.out.2.1.cell 2
  simp at x2
  have hmm : ∀ W, (Instr.makeMap 93 none).run Try.prog W = .ok (.map (some W.heap.size)) (W.alloc (.map #[] 0)) := fun W => rfl
  clear h hb0 hb1 eb
  rw [HW0.out] at HW1
  go_enter Try.func54, Try.ntmps54
  go_wp2
  rw [← HW1.out, ← HB.out, ← HA.out]
  go_loopw [10, 5] (fun vi _ wr => ∃ k : Nat, k ≤ n ∧ vi = .int .i64 (k : Int) ∧ Hid (LM wr b f (zs.take k) ∧ Row wr A 31 #[.int .i64 f, v1, .slice l n d, v3] ∧ Below w.heap.size w wr)) (fun vi _ _ => n - (intOf vi).toNat)
  case atStart => exact ⟨0, Nat.zero_le _, rfl, HL1.out⟩
  case round =>
    obtain ⟨k, hk, rfl, HR⟩ := hrel
    clear HL1 hmm x2
    by_cases hlt : k < n
    · have hki : (k : Int) < (n : Int) := by omega
      obtain ⟨bl, off, rfl, hc⟩ := (KI.out _ HR.out.2.2).some (by omega)
      have x1 := hc k hlt
      obtain ⟨x, HX⟩ : ∃ y, Hid (zs.getD k 0 = y) := ⟨_, rfl⟩
      rw [HX.out] at x1
      clear hc
      have x0 := HR.out.2.1.cell 0
      simp at x0
      obtain ⟨c, st, es1, clock1, es2, clock2, q1, q2, c0, cl, hle⟩ := lm_more HR.out.1 x
      have HTK : Hid (zs.take (k + 1) = zs.take k ++ [x]) := by show _ = _; rw [take_snoc zs k (by rw [HN.out]; exact hlt), HX.out]
      have hlen : (zs.take k).length = k := by rw [List.length_take, HN.out]; omega
      rw [hlen] at cl
      have hb' : wr.heap[b]? ≠ none := by
        obtain ⟨es, clock, e, _⟩ := HR.out.1
        rw [e]; simp
      have e1 := (q1 wr.drew rfl).1
      have e2 := (q1 wr.drew rfl).2
      have hW1 : (setBlock wr.drew b (.map es1 clock1)).heap[b]? = some (.map es1 clock1) := by
        show (wr.heap.setIfInBounds b _)[b]? = _
        obtain ⟨es, clock, e, _⟩ := HR.out.1
        simp [(Array.getElem?_eq_some_iff.1 e).1]
      have e3 := (q2 _ hW1).1
      have e4 := (q2 _ hW1).2
      have hW2 : (setBlock (setBlock wr.drew b (.map es1 clock1)) b (.map es2 clock2)).heap[b]? = some (.map es2 clock2) := by
        show ((setBlock wr.drew b (.map es1 clock1)).heap.setIfInBounds b _)[b]? = _
        simp [(Array.getElem?_eq_some_iff.1 hW1).1]
      have hAb := HLs.out
      have HR2 : Hid (LM (setBlock (setBlock wr.drew b (.map es1 clock1)) b (.map es2 clock2)) b f (zs.take (k + 1)) ∧ Row (setBlock (setBlock wr.drew b (.map es1 clock1)) b (.map es2 clock2)) A 31 #[.int .i64 f, v1, .slice (some ⟨bl, off, none⟩) n d, v3] ∧ Below w.heap.size w (setBlock (setBlock wr.drew b (.map es1 clock1)) b (.map es2 clock2))) := by
        refine ⟨⟨es2, clock2, hW2, by rw [HTK.out]; exact hle⟩, ?_, below_setBlock (below_setBlock HR.out.2.2.drew hAb.2.1 _) hAb.2.1 _⟩
        show ((wr.heap.setIfInBounds b _).setIfInBounds b _)[A]? = _
        rw [Array.getElem?_setIfInBounds_ne (by omega), Array.getElem?_setIfInBounds_ne (by omega)]
        exact HR.out.2.1
      have hcw : IntKind.i64.wrap (c + 1) = c + 1 := by rw [IntKind.wrap_i64]; omega
      simp only [bk] at e1 e2 e3 e4
      clear q1 q2 hle hW1 hW2 hb' hlen
      go_wp2_with fail
      go_region
      all_goals
        go_wp2
        go_roundw
        case rel => exact ⟨k + 1, by omega, by go_num, HR2⟩
        case measure => simp [intOf]; omega
    · obtain rfl : k = n := by omega
      have HF : Hid (LM wr b f zs) := by have := HR.out.1; rw [← HN.out, List.take_length] at this; exact this
      have HBf : Hid (Below w.heap.size w wr) := HR.out.2.2
      go_wp2
      go_ret
      exact ⟨b, rfl, HF.out, HLs.out.2.1, HBf.out⟩
end Go.Proofs.Ytjhbjfplgmcbpaa
