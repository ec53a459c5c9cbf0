import Derived.Test.YtmhcdkbgjjibeaaGreatDoorG27
import Derived.Test.YtmhcdkbgjjibeaaGreatDoorG21
import Derived.Test.YtmhcdkbgjjibeaaGreatDoorG25
import Derived.Test.YtmhcdkbgjjibeaaGreatDoorG19
import Derived.Test.YtmhcdkbgjjibeaaGreatDoorG23
import Derived.WideKeyEntry
import Derived.Laws.StructEq
import Derived.Laws.IdiomCopy
import Derived.Test.YtmhcdkbgjjibeaaGreatDoorG26
import Derived.Test.YtmhcdkbgjjibeaaGreatDoorG5
import Derived.Test.YtmhcdkbgjjibeaaGreatDoorG6
set_option maxHeartbeats 8000000
set_option maxRecDepth 2000
open Go.ChangeShapes Go.WideShapes Go.ChangeAt Go.RowKit
namespace Go.Proofs.YtmhcdkbgjjibeaaGreatDoor
def wkN (d : Nd) : Nat := 2 + tot (fun i => wkS (d.S i)) d.n
def mq1 (n : Nat) (N : Nat → Nd) : Nat := 1 + tot (fun i => wkN (N i)) n
def mq2 (n : Nat) (N : Nat → Nd) (zs : List Int) : Nat := mq1 n N + zs.length
def mq3 (n : Nat) (N : Nat → Nd) (zs : List Int) (m : Nat) (Y : Nat → Sy) : Nat := ofy (mq2 n N zs) Y m
structure NtW (n : Nat) (N : Nat → Nd) (zs : List Int) (m : Nat) (Y : Nat → Sy) : Prop where
 kn : n ≤ 1048576
 kN : ∀ i, i < n → NdS (N i)
 kz : zs.length ≤ 1048576
 km : m ≤ 1048576
 kY : ∀ i, i < m → (Y i).p.m ≤ 1048576
 kq : mq3 n N zs m Y ≤ 40000000
section
variable {W0 W W' : World} {m : Nat} {zs : List Int} {p2 p3 p5 p6 p8 : Bool} {x20 x21 x23 x24 x6 : Value}
end
end Go.Proofs.YtmhcdkbgjjibeaaGreatDoor
namespace Go.Proofs.YtmhcdkbgjjibeaaGreatDoor
section
variable {w4 W W' : World} {bg G : Nat} {fx : Int} {m : Nat} {N N' : Nat → Nd} {zs zs' : List Int} {Y Y' : Nat → Sy} {b1 b2 b3 : Option Addr} {d1 l2 d2 d3 : Nat}
end
end Go.Proofs.YtmhcdkbgjjibeaaGreatDoor
namespace Go.Proofs.YtmhcdkbgjjibeaaGreatDoor
def bk (a f : Int) : Value := .agg #[.int .i64 a, .int .i64 f]
theorem bk_check (a f : Int) (em : Bool) (w : World) : (Instr.checkKey em 10000 99 (bk a f)).run Tryz.prog w = .ok () w := by rfl
theorem bk_equal (a b f : Int) (w : World) : (Op.equal 99 (bk a f) (bk b f)).run Tryz.prog w = .ok (decide (a = b)) w := by
 have u3 := Tryz.underlying3
 have hS : Tryz.prog.underlying 99 = some (.struct (Tryz.prog.fieldsOf 99)) := by kernel_rfl
 unfold Op.equal Op.maxDepth bk
 rw [show (10000 : Nat) = 9999 + 1 from rfl, run_equalIn_struct w 9999 99 _ _ hS (by kernel_rfl)]
 simp only [Program.fieldsOf, Tryz.underlying99]
 go_simp
 by_cases h : a = b <;> simp [h]
theorem bk_stays (a f : Int) (w : World) : (Instr.keyThatStays (bk a f) (bk a f)).run Tryz.prog w = .ok (bk a f) w := by
 have h : Instr.sameBits 10000 (bk a f) (bk a f) = true := by
  show ((2 : Nat) == 2 && _) = true
  simp [Instr.sameBits]
 simp [Instr.keyThatStays, h]
theorem bk_inj {a b f : Int} (h : bk a f = bk b f) : a = b := by
 unfold bk at h
 simp at h
 exact h
theorem bk_find (x f : Int) : ∀ (es : List MapEntry), (∀ e ∈ es, ∃ a, e.key = bk a f) →
  ((∀ w, (Instr.findKey 99 (bk x f) es).run Tryz.prog w = .ok none w) ∧ ∀ e ∈ es, e.key ≠ bk x f) ∨ ∃ j e, (∀ w, (Instr.findKey 99 (bk x f) es).run Tryz.prog w = .ok (some (j, e.val)) w) ∧ es[j]? = some e ∧ e.key = bk x f := by
 have ask : ∀ (es : List MapEntry) (i : Nat), (∀ e ∈ es, ∃ a, e.key = bk a f) → ((∀ w, (Instr.findAsking 99 (bk x f) es i).run Tryz.prog w = .ok none w) ∧ ∀ e ∈ es, e.key ≠ bk x f) ∨ ∃ j e, (∀ w, (Instr.findAsking 99 (bk x f) es i).run Tryz.prog w = .ok (some (i + j, e.val)) w) ∧ es[j]? = some e ∧ e.key = bk x f := by
  intro es
  induction es with
  | nil => intro i _; exact .inl ⟨fun w => rfl, fun e he => by cases he⟩
  | cons e r ih =>
   intro i hk
   obtain ⟨a, ha⟩ := hk e (by simp)
   by_cases hx : x = a
   ·refine .inr ⟨0, e, fun w => ?_, rfl, by rw [ha, hx]⟩
    simp [Instr.findAsking, ha, bk_equal, hx]
   ·have hne : e.key ≠ bk x f := fun h => hx (bk_inj (ha.symm.trans h)).symm
    rcases ih (i + 1) (fun e' he' => hk e' (by simp [he'])) with ⟨h1, h2⟩ | ⟨j, e', h1, h2, h3⟩
    ·refine .inl ⟨fun w => ?_, fun e' he' => ?_⟩
     ·simp [Instr.findAsking, ha, bk_equal, hx, h1]
     ·rcases List.mem_cons.1 he' with rfl | he'
      ·exact hne
      ·exact h2 e' he'
    ·refine .inr ⟨j + 1, e', fun w => ?_, by simpa using h2, h3⟩
     simp [Instr.findAsking, ha, bk_equal, hx, h1]
     omega
 intro es hk
 have hu : Tryz.prog.underlying 99 = some (.struct (Tryz.prog.fieldsOf 99)) := by kernel_rfl
 cases es with
 | nil => exact .inl ⟨fun w => by simp [Instr.findKey, run_underlying hu, Instr.findNow], fun e he => by cases he⟩
 | cons e r =>
  have hn : Instr.findNow (.struct (Tryz.prog.fieldsOf 99)) (bk x f) (e :: r) 0 = none := rfl
  rcases ask (e :: r) 0 hk with ⟨h1, h2⟩ | ⟨j, e', h1, h2, h3⟩
  ·exact .inl ⟨fun w => by simp [Instr.findKey, run_underlying hu, hn, h1], h2⟩
  ·refine .inr ⟨j, e', fun w => ?_, h2, h3⟩
   simp [Instr.findKey, run_underlying hu, hn, h1]
end Go.Proofs.YtmhcdkbgjjibeaaGreatDoor
namespace Go.Proofs.YtmhcdkbgjjibeaaGreatDoor
open Go.ChangeShapes Go.WideShapes Go.ChangeAt Go.RowKit Go.ChangeMaps Go.MapKept Go.WideElems
structure LE (f : Int) (zs : List Int) (es : Array MapEntry) (clock : Nat) : Prop where
 ks : ∀ e ∈ es.toList, ∃ a c, e.key = bk a f ∧ e.val = .int .i64 c ∧ 1 ≤ c ∧ c ≤ (zs.length : Int) ∧ a ∈ zs
 all : ∀ a ∈ zs, ∃ e ∈ es.toList, e.key = bk a f
 st : ∀ e ∈ es.toList, e.born < clock
 nd : (es.toList.map (·.born)).Nodup
theorem LE.keys {f : Int} {zs : List Int} {es : Array MapEntry} {clock : Nat} (h : LE f zs es clock) : ∀ e ∈ es.toList, ∃ a, e.key = bk a f := fun e he => by
 obtain ⟨a, _, h1, _⟩ := h.ks e he
 exact ⟨a, h1⟩
def LM (w : World) (b : Nat) (f : Int) (zs : List Int) : Prop := ∃ es clock, w.heap[b]? = some (.map es clock) ∧ LE f zs es clock
theorem le_nil (f : Int) : LE f [] #[] 0 := ⟨(fun e he => by simp at he), (fun a ha => absurd ha (by simp)), (fun e he => by simp at he), (by simp)⟩
theorem bk_map : Tryz.prog.underlying 132 = some (.map 99 3) := by kernel_rfl
theorem look_at {w : World} {b : Nat} {es : Array MapEntry} {clock : Nat} (hb : w.heap[b]? = some (.map es clock)) {x f : Int} {j : Nat} {e : MapEntry} (h1 : ∀ w, (Instr.findKey 99 (bk x f) es.toList).run Tryz.prog w = .ok (some (j, e.val)) w) :
  (Instr.lookup 132 (.map (some b)) (bk x f) false).run Tryz.prog w = .ok e.val w := by
 simp [Instr.lookup, run_underlying bk_map, MapKept.run_getObj_map hb, bk_check, h1, Result.andThen]
theorem look_no {w : World} {b : Nat} {es : Array MapEntry} {clock : Nat} (hb : w.heap[b]? = some (.map es clock)) {x f : Int} (h1 : ∀ w, (Instr.findKey 99 (bk x f) es.toList).run Tryz.prog w = .ok none w) :
  (Instr.lookup 132 (.map (some b)) (bk x f) false).run Tryz.prog w = .ok (.int .i64 0) w := by
 simp [Instr.lookup, run_underlying bk_map, MapKept.run_getObj_map hb, bk_check, h1, Result.andThen]
theorem lm_look {w : World} {b : Nat} {f : Int} {zs : List Int} (h : LM w b f zs) (x : Int) : ∃ c : Int, (Instr.lookup 132 (.map (some b)) (bk x f) false).run Tryz.prog w = .ok (.int .i64 c) w ∧ (0 < c ↔ x ∈ zs) := by
 obtain ⟨es, clock, hb, hl⟩ := h
 rcases bk_find x f es.toList hl.keys with ⟨h1, h2⟩ | ⟨j, e, h1, h2, h3⟩
 ·refine ⟨0, look_no hb h1, ⟨fun h => absurd h (by omega), fun hx => ?_⟩⟩
  obtain ⟨e, he, hk⟩ := hl.all x hx
  exact absurd hk (h2 e he)
 ·obtain ⟨a, c, k1, k2, k3, _, k5⟩ := hl.ks e (List.mem_of_getElem? h2)
  refine ⟨c, by rw [look_at hb h1, k2], ⟨fun _ => ?_, fun _ => by omega⟩⟩
  rw [← bk_inj (k1.symm.trans h3)]
  exact k5
theorem lm_more {w : World} {b : Nat} {f : Int} {zs : List Int} (h : LM w b f zs) (x : Int) : ∃ (c : Int) (st : Nat) (es1 : Array MapEntry) (clock1 : Nat) (es2 : Array MapEntry) (clock2 : Nat),
  (∀ W, W.heap[b]? = w.heap[b]? → (Instr.lookup 132 (.map (some b)) (bk x f) false).run Tryz.prog W = .ok (.int .i64 c) W ∧ (Instr.mapEntry 132 (.map (some b)) (bk x f)).run Tryz.prog W = .ok (.tuple #[.int .i64 c, .int .i64 (st : Int)]) (setBlock W b (.map es1 clock1))) ∧
  (∀ W, W.heap[b]? = some (.map es1 clock1) → (Instr.lookup 132 (.map (some b)) (bk x f) false).run Tryz.prog W = .ok (.int .i64 c) W ∧ (Instr.entryStore 132 (.map (some b)) (.int .i64 (st : Int)) (.int .i64 (c + 1))).run Tryz.prog W = .ok () (setBlock W b (.map es2 clock2))) ∧
  0 ≤ c ∧ c ≤ (zs.length : Int) ∧ LE f (zs ++ [x]) es2 clock2 := by
 obtain ⟨es, clock, hb, hl⟩ := h
 rcases bk_find x f es.toList hl.keys with ⟨h1, h2⟩ | ⟨j, e0, h1, h2, h3⟩
 ·have hpk : ∀ e ∈ (es.push ⟨bk x f, .int .i64 0, clock⟩).toList, ∃ a, e.key = bk a f := fun e he => by
   simp only [Array.toList_push, List.mem_append, List.mem_singleton] at he
   rcases he with he | rfl
   ·exact hl.keys e he
   ·exact ⟨x, rfl⟩
  have hnd : ((es.push ⟨bk x f, .int .i64 0, clock⟩).toList.map (·.born)).Nodup := by
   simp only [Array.toList_push, List.map_append, List.map_cons, List.map_nil]
   refine List.nodup_append.2 ⟨hl.nd, by simp, fun a ha c hc e1 => ?_⟩
   simp only [List.mem_singleton] at hc
   obtain ⟨y, hy, rfl⟩ := List.mem_map.1 ha
   have := hl.st y hy
   omega
  refine ⟨0, clock, es.push ⟨bk x f, .int .i64 0, clock⟩, clock + 1, es.push ⟨bk x f, .int .i64 1, clock⟩, clock + 1, fun W hW => ?_, fun W hW => ?_, by omega, by omega, ?_⟩
  ·rw [hb] at hW
   refine ⟨look_no hW h1, ?_⟩
   simp [Instr.mapEntry, run_underlying bk_map, MapKept.run_getObj_map hW, bk_check, h1, MapKept.run_setObj_map _ hW, Result.andThen, setBlock, goInt]
  ·constructor
   ·rcases bk_find x f _ hpk with ⟨_, g2⟩ | ⟨j', e', g1, g2, g3⟩
    ·exact absurd rfl (g2 ⟨bk x f, .int .i64 0, clock⟩ (by simp))
    ·have he := List.mem_of_getElem? g2
     simp only [Array.toList_push, List.mem_append, List.mem_singleton] at he
     rcases he with he | rfl
     ·exact absurd g3 (h2 e' he)
     ·exact look_at hW g1
   ·have hidx : (es.push ⟨bk x f, .int .i64 0, clock⟩).findIdx? (fun e => ((e.born : Nat) : Int) == ((clock : Nat) : Int)) = some es.size := by
     rw [findIdx_arr]
     exact findIdx_born (l := (es.push ⟨bk x f, .int .i64 0, clock⟩).toList) (j := es.size) (e0 := ⟨bk x f, .int .i64 0, clock⟩) hnd (by simp)
    have hmod : (es.push ⟨bk x f, .int .i64 0, clock⟩).modify es.size (fun e => { e with val := .int .i64 1 }) = es.push ⟨bk x f, .int .i64 1, clock⟩ := by
     apply Array.ext'
     rw [Array.toList_modify, Array.toList_push, Array.toList_push, ← Array.length_toList, modify_last]
    simp [Instr.entryStore, MapKept.run_getObj_map hW, asInt, asIntOf, hidx, hmod, MapKept.run_setObj_map _ hW, Result.andThen, setBlock]
  ·refine ⟨fun e he => ?_, fun a ha => ?_, fun e he => ?_, ?_⟩
   ·simp only [Array.toList_push, List.mem_append, List.mem_singleton] at he
    rcases he with he | rfl
    ·obtain ⟨a, c, k1, k2, k3, k4, k5⟩ := hl.ks e he
     exact ⟨a, c, k1, k2, k3, by simp; omega, by simp [k5]⟩
    ·exact ⟨x, 1, rfl, rfl, by omega, by simp; omega, by simp⟩
   ·simp only [List.mem_append, List.mem_singleton] at ha
    rcases ha with ha | rfl
    ·obtain ⟨e, he, hk⟩ := hl.all a ha
     exact ⟨e, by simp [he], hk⟩
    ·exact ⟨⟨bk a f, .int .i64 1, clock⟩, by simp, rfl⟩
   ·simp only [Array.toList_push, List.mem_append, List.mem_singleton] at he
    rcases he with he | rfl
    ·have := hl.st e he; omega
    ·show clock < clock + 1; omega
   ·simpa using hnd
 ·have hm0 := List.mem_of_getElem? h2
  obtain ⟨a, c, k1, k2, k3, k4, k5⟩ := hl.ks e0 hm0
  obtain rfl : a = x := bk_inj (k1.symm.trans h3)
  have hj : es[j]? = some e0 := by simpa using h2
  have hsame : es.modify j (fun e => { e with key := bk a f }) = es := by
   apply Array.ext'
   rw [Array.toList_modify, modify_eq_set _ _ _ _ h2]
   have : ({ e0 with key := bk a f } : MapEntry) = e0 := by rw [← h3]
   rw [this]
   exact set_self _ _ _ h2
  refine ⟨c, e0.born, es, clock, es.modify j (fun e => { e with val := .int .i64 (c + 1) }), clock, fun W hW => ?_, fun W hW => ?_, by omega, by omega, ?_⟩
  ·rw [hb] at hW
   refine ⟨by rw [look_at hW h1, k2], ?_⟩
   simp [Instr.mapEntry, run_underlying bk_map, MapKept.run_getObj_map hW, bk_check, h1, hj, h3, bk_stays, hsame, k2, MapKept.run_setObj_map _ hW, Result.andThen, setBlock, goInt]
  ·refine ⟨by rw [look_at hW h1, k2], ?_⟩
   have hidx : es.findIdx? (fun e => ((e.born : Nat) : Int) == ((e0.born : Nat) : Int)) = some j := by
    rw [findIdx_arr]
    exact findIdx_born hl.nd h2
   simp [Instr.entryStore, MapKept.run_getObj_map hW, asInt, asIntOf, hidx, MapKept.run_setObj_map _ hW, Result.andThen, setBlock]
  ·have hto : (es.modify j (fun e => { e with val := .int .i64 (c + 1) })).toList = es.toList.set j { e0 with val := .int .i64 (c + 1) } := by
    rw [Array.toList_modify, modify_eq_set _ _ _ _ h2]
   have hmem : ∀ e ∈ (es.modify j (fun e => { e with val := .int .i64 (c + 1) })).toList, e ∈ es.toList ∨ e = { e0 with val := .int .i64 (c + 1) } := fun e he => by
    rw [hto] at he
    exact List.mem_or_eq_of_mem_set he
   refine ⟨fun e he => ?_, fun b' hb' => ?_, fun e he => ?_, ?_⟩
   ·rcases hmem e he with he | rfl
    ·obtain ⟨a', c', g1, g2, g3, g4, g5⟩ := hl.ks e he
     exact ⟨a', c', g1, g2, g3, by simp; omega, by simp [g5]⟩
    ·exact ⟨a, c + 1, k1, rfl, by omega, by simp; omega, by simp⟩
   ·have hb2 : b' ∈ zs := by
     simp only [List.mem_append, List.mem_singleton] at hb'
     rcases hb' with h | rfl
     ·exact h
     ·exact k5
    obtain ⟨e, he, hk⟩ := hl.all b' hb2
    obtain ⟨i, hi, rfl⟩ := List.getElem_of_mem he
    by_cases ei : i = j
    ·subst ei
     have e1 : es.toList[i] = e0 := by rw [List.getElem?_eq_getElem hi] at h2; exact Option.some.inj h2
     refine ⟨{ e0 with val := .int .i64 (c + 1) }, ?_, by rw [← e1]; exact hk⟩
     rw [hto]
     exact List.mem_iff_getElem.2 ⟨i, by simpa using hi, by simp⟩
    ·refine ⟨es.toList[i], ?_, hk⟩
     rw [hto]
     exact List.mem_iff_getElem.2 ⟨i, by simpa using hi, by rw [List.getElem_set_ne (Ne.symm ei)]⟩
   ·rcases hmem e he with he | rfl
    ·exact hl.st e he
    ·exact hl.st e0 hm0
   ·rw [hto, List.map_set]
    have : (es.toList.map (·.born)).set j e0.born = es.toList.map (·.born) := set_self _ _ _ (by rw [List.getElem?_map, h2]; rfl)
    show ((es.toList.map (·.born)).set j e0.born).Nodup
    rw [this]
    exact hl.nd
end Go.Proofs.YtmhcdkbgjjibeaaGreatDoor
namespace Go.Proofs.YtmhcdkbgjjibeaaGreatDoor
open Go.ChangeShapes Go.WideShapes Go.ChangeAt Go.RowKit Go.ChangeMaps
theorem below_setBlock {B b : Nat} {w0 w : World} (h : Below B w0 w) (hb : B ≤ b) (o : Obj) : Below B w0 (setBlock w b o) :=
 ⟨h.os, h.tape, h.output, by show _ ≤ (w.heap.setIfInBounds b o).size; simp; exact h.size, fun j hj => by
  show (w.heap.setIfInBounds b o)[j]? = _
  rw [Array.getElem?_setIfInBounds_ne (by omega)]
  exact h.block j hj⟩
theorem lies_any (f : Int) (v1 v3 : Value) (l : Option Addr) (d : Nat) (zs : List Int) (w : World) (h : IntsAt w l zs.length zs) (hn : zs.length ≤ 1048576) :
  Calls Tryz.prog 74 #[ntV f v1 (.slice l zs.length d) v3] w fun e w' => ∃ b, e = .returned (.map (some b)) ∧ LM w' b f zs ∧ w.heap.size ≤ b ∧ Below w.heap.size w w' := by
 obtain ⟨A, HA⟩ : ∃ x, Hid (x = w.heap.size) := ⟨_, rfl⟩
 obtain ⟨w0, HW0⟩ : ∃ x, Hid (x = w.alloc (.cells #[.int .i64 f, v1, .slice l zs.length d, v3] 35)) := ⟨_, rfl⟩
 have RA : Hid (Row w0 A 35 #[.int .i64 f, v1, .slice l zs.length d, v3]) := by show Row _ _ _ _; rw [HW0.out, HA.out]; exact Row.new w _ _
 have hb0 : Below w.heap.size w w0 := by rw [HW0.out]; exact (Below.refl _ _).alloc (Nat.le_refl _) _
 obtain ⟨b, HB⟩ : ∃ x, Hid (x = w.heap.size + 1) := ⟨_, rfl⟩
 have eb : b = w0.heap.size := by rw [HB.out, HW0.out]; simp
 obtain ⟨w1, HW1⟩ : ∃ x, Hid (x = w0.alloc (.map #[] 0)) := ⟨_, rfl⟩
 have hb1 : Below w0.heap.size w0 w1 := by rw [HW1.out]; exact (Below.refl _ _).alloc (Nat.le_refl _) _
 have HL1 : Hid (LM w1 b f [] ∧ Row w1 A 35 #[.int .i64 f, v1, .slice l zs.length d, v3] ∧ Below w.heap.size w w1) := ⟨⟨#[], 0, by rw [HW1.out, eb]; exact heap_alloc_new w0 _, le_nil f⟩, RA.out.below hb1 RA.out.lt, below2 hb0 hb1⟩
 have HLs : Hid (A < b ∧ w.heap.size ≤ b ∧ w.heap.size ≤ A) := ⟨by rw [eb]; exact RA.out.lt, by rw [eb]; exact hb0.size, by rw [HA.out]; exact Nat.le_refl _⟩
 obtain ⟨n, HN⟩ : ∃ x, Hid (zs.length = x) := ⟨_, rfl⟩
 have KI : Hid (∀ W, Below w.heap.size w W → IntsAt W l n zs) := fun W hW => by have := h.below hW; rw [HN.out] at this; exact this
 rw [HN.out] at hn HL1 RA HW0 ⊢
 have x2 := HL1.out.2.1.cell 2
 simp at x2
 have hmm : ∀ W, (Instr.makeMap 132 none).run Tryz.prog W = .ok (.map (some W.heap.size)) (W.alloc (.map #[] 0)) := fun W => rfl
 clear h hb0 hb1 eb
 rw [HW0.out] at HW1
 go_enter Tryz.func74, Tryz.ntmps74
 go_wp2
 rw [← HW1.out, ← HB.out, ← HA.out]
 go_loopw [10, 5] (fun vi _ wr => ∃ k : Nat, k ≤ n ∧ vi = .int .i64 (k : Int) ∧ Hid (LM wr b f (zs.take k) ∧ Row wr A 35 #[.int .i64 f, v1, .slice l n d, v3] ∧ Below w.heap.size w wr)) (fun vi _ _ => n - (intOf vi).toNat)
 case atStart => exact ⟨0, Nat.zero_le _, rfl, HL1.out⟩
 case round =>
  obtain ⟨k, hk, rfl, HR⟩ := hrel
  clear HL1 hmm x2
  by_cases hlt : k < n
  ·have hki : (k : Int) < (n : Int) := by omega
   obtain ⟨bl, off, rfl, hc⟩ := (KI.out _ HR.out.2.2).some (by omega)
   have x1 := hc k hlt
   obtain ⟨x, HX⟩ : ∃ y, Hid (zs.getD k 0 = y) := ⟨_, rfl⟩
   rw [HX.out] at x1
   clear hc
   have x0 := HR.out.2.1.cell 0
   simp at x0
   obtain ⟨c, st, es1, clock1, es2, clock2, q1, q2, c0, cl, hle⟩ := lm_more HR.out.1 x
   have HTK : Hid (zs.take (k + 1) = zs.take k ++ [x]) := by show _ = _; rw [take_snoc zs k (by rw [HN.out]; exact hlt), HX.out]
   have hlen : (zs.take k).length = k := by rw [List.length_take, HN.out]; omega
   rw [hlen] at cl
   have hb' : wr.heap[b]? ≠ none := by
    obtain ⟨es, clock, e, _⟩ := HR.out.1
    rw [e]; simp
   have e1 := (q1 wr.drew rfl).1
   have e2 := (q1 wr.drew rfl).2
   have hW1 : (setBlock wr.drew b (.map es1 clock1)).heap[b]? = some (.map es1 clock1) := by
    show (wr.heap.setIfInBounds b _)[b]? = _
    obtain ⟨es, clock, e, _⟩ := HR.out.1
    simp [(Array.getElem?_eq_some_iff.1 e).1]
   have e3 := (q2 _ hW1).1
   have e4 := (q2 _ hW1).2
   have hW2 : (setBlock (setBlock wr.drew b (.map es1 clock1)) b (.map es2 clock2)).heap[b]? = some (.map es2 clock2) := by
    show ((setBlock wr.drew b (.map es1 clock1)).heap.setIfInBounds b _)[b]? = _
    simp [(Array.getElem?_eq_some_iff.1 hW1).1]
   have hAb := HLs.out
   have HR2 : Hid (LM (setBlock (setBlock wr.drew b (.map es1 clock1)) b (.map es2 clock2)) b f (zs.take (k + 1)) ∧ Row (setBlock (setBlock wr.drew b (.map es1 clock1)) b (.map es2 clock2)) A 35 #[.int .i64 f, v1, .slice (some ⟨bl, off, none⟩) n d, v3] ∧ Below w.heap.size w (setBlock (setBlock wr.drew b (.map es1 clock1)) b (.map es2 clock2))) := by
    refine ⟨⟨es2, clock2, hW2, by rw [HTK.out]; exact hle⟩, ?_, below_setBlock (below_setBlock HR.out.2.2.drew hAb.2.1 _) hAb.2.1 _⟩
    show ((wr.heap.setIfInBounds b _).setIfInBounds b _)[A]? = _
    rw [Array.getElem?_setIfInBounds_ne (by omega), Array.getElem?_setIfInBounds_ne (by omega)]
    exact HR.out.2.1
   have hcw : IntKind.i64.wrap (c + 1) = c + 1 := by rw [IntKind.wrap_i64]; omega
   simp only [bk] at e1 e2 e3 e4
   clear q1 q2 hle hW1 hW2 hb' hlen
   go_wp2_with fail
   go_region
   all_goals
    go_wp2
    go_roundw
    case rel => exact ⟨k + 1, by omega, by go_num, HR2⟩
    case measure => simp [intOf]; omega
  ·obtain rfl : k = n := by omega
   have HF : Hid (LM wr b f zs) := by have := HR.out.1; rw [← HN.out, List.take_length] at this; exact this
   have HBf : Hid (Below w.heap.size w wr) := HR.out.2.2
   go_wp2
   go_ret
   exact ⟨b, rfl, HF.out, HLs.out.2.1, HBf.out⟩
end Go.Proofs.YtmhcdkbgjjibeaaGreatDoor
namespace Go.Proofs.YtmhcdkbgjjibeaaGreatDoor
def stD (d : Nd) (i : Nat) (f : Int) : Nat → Dt
 | 0 => .val (.int .i64 d.i)
 | 1 => .val (.int .i64 d.f)
 | 2 => slsD d.n d.S
 | 3 => .val (.int .i64 (i : Int))
 | _ => .val (.int .i64 f)
def zcT : List Value := [.int .i64 0, .int .i64 0, .slice none 0 0, .int .i64 0, .int .i64 0]
theorem Tryz.infoStZ : (Tryz.prog.info? 101).map (fun i => (i.zero, i.size, i.bytes)) = some (some (.agg zcT.toArray), 5, 56) := by kernel_rfl
theorem Tryz.infoSt : (Tryz.prog.info? 101).map (·.size) = some 5 := by kernel_rfl
theorem seatO_any (f : Int) (a : Option Addr) (n c : Nat) (v2 v3 : Value) (N : Nat → Nd) (wb w : World) (hwb : Below wb.heap.size wb w) (h : Rd wb (ndsD n N) (.slice a n c)) (hn : n ≤ 1048576) :
  Calls Tryz.prog 76 #[ntV f (.slice a n c) v2 v3] w fun e w' => ∃ g y, e = .returned (.slice (some ⟨g, 0, none⟩) n n) ∧ w'.ownsRow w.heap.size 101 5 (.slice (some ⟨g, 0, none⟩) n n) n (cL 5 y n) ∧ (∀ i, i < n → ∀ q, q < 5 → Rd wb (stD (N i) i f q) (y i q)) ∧ Below w.heap.size w w' := by
 obtain ⟨i0, hi, hz0, hz1, hz2⟩ := info_parts Tryz.infoStZ
 obtain ⟨A, HA⟩ : ∃ x, Hid (x = w.heap.size) := ⟨_, rfl⟩
 obtain ⟨w0, HW0⟩ : ∃ x, Hid (x = w.alloc (.cells #[.int .i64 f, .slice a n c, v2, v3] 35)) := ⟨_, rfl⟩
 have RA : Hid (Row w0 A 35 #[.int .i64 f, .slice a n c, v2, v3]) := by show Row _ _ _ _; rw [HW0.out, HA.out]; exact Row.new w _ _
 have hb0 : Below w.heap.size w w0 := by rw [HW0.out]; exact (Below.refl _ _).alloc (Nat.le_refl _) _
 have KB0 : Hid (Below w.heap.size w w0) := hb0
 have KH : Hid (Rd wb (ndsD n N) (.slice a n c) ∧ Below wb.heap.size wb w) := ⟨h, hwb⟩
 obtain ⟨g, HG⟩ : ∃ x, Hid (x = w0.heap.size) := ⟨_, rfl⟩
 have x1 := RA.out.cell 1
 simp at x1
 clear h hb0 hwb
 go_enter Tryz.func76, Tryz.ntmps76
 go_wp2_with (at_make; rw [← HW0.out, ← HA.out]; refine wpList_make_full _ rfl _ _ 96 rfl w0.heap.size 101 i0 (.agg zcT.toArray) 5 Tryz.underlying96 hi hz0 hz1 .i64 .i64 _ _ n rfl rfl rfl rfl (by rw [hz2]; omega) (by unfold maxLen; omega) (Nat.le_refl _) ?_; intro w1 hown hgrow; have hb1 : Below w0.heap.size w0 w1 := (Below.refl _ _).grown hgrow (Nat.le_refl _) (by simp); have y1 := (hb1.cell (p := ⟨A, 1, none⟩) RA.out.lt).trans x1)
 have ho1 : w1.ownsRow w0.heap.size 101 5 (.slice (some ⟨g, 0, none⟩) n n) n (cL 5 (fun _ q => zcT.getD q undef) n) := by
  have e : (madeCells (Value.agg zcT.toArray).cells (n * 5)).toList = cL 5 (fun _ q => zcT.getD q undef) n := made_cL (zs := zcT) (by simp [zcT])
  rw [e] at hown
  rw [HG.out]
  exact hown
 rw [← HG.out]
 have KO1 : Hid (w1.ownsRow w0.heap.size 101 5 (.slice (some ⟨g, 0, none⟩) n n) n (cL 5 (fun _ q => zcT.getD q undef) n)) := ho1
 clear hown hgrow ho1
 go_loopw [13] (fun vi wr => ∃ k : Nat, k ≤ n ∧ vi = .int .i64 (k : Int) ∧ Hid (∃ y, wr.ownsRow w0.heap.size 101 5 (.slice (some ⟨g, 0, none⟩) n n) n (cL 5 y n) ∧ ∀ i, i < k → ∀ q, q < 5 → Rd wb (stD (N i) i f q) (y i q)) ∧ Below w0.heap.size w0 wr) (fun vi _ => n - (intOf vi).toNat)
 case atStart => exact ⟨0, Nat.zero_le _, rfl, ⟨_, KO1.out, fun i hi => absurd hi (Nat.not_lt_zero _)⟩, hb1⟩
 case round =>
  obtain ⟨k, hk, rfl, HY, hbel⟩ := hrel
  clear KO1 hb1 y1 x1
  by_cases hlt : k < n
  ·have hki : (k : Int) < (n : Int) := by omega
   obtain ⟨b1, f1, an, cn, rfl, _, R0, hr0⟩ := node_at KH.out.1 hlt
   have R1 : Hid (wr.rangeAt b1 (f1 + k * 3) [.int .i64 (N k).i, .int .i64 (N k).f, .slice an (N k).n cn]) := fun j v hv => ((below2 KH.out.2 (below2 KB0.out hbel)).cell (block_lt_of_cell (R0 j v hv))).trans (R0 j v hv)
   obtain ⟨w2, HW2⟩ : ∃ x, Hid (x = wr.alloc (.cells #[.int .i64 (N k).i, .int .i64 (N k).f, .slice an (N k).n cn] 81)) := ⟨_, rfl⟩
   have b2 : Below wr.heap.size wr w2 := by rw [HW2.out]; exact (Below.refl _ _).alloc (Nat.le_refl _) _
   obtain ⟨y, hoy, hry⟩ := HY.out
   have ho2 := ownsRow_below hoy b2
   have TH : Hid (w2.there g (k * 5) 5) := by
    intro j hj
    refine ⟨?_, World.ownsRow.frozenAt ho2 _⟩
    rw [World.ownsRow.cellAt ho2 _ (mid_lt hlt hj), cL_get _ _ _ _ _ hlt hj]
    rfl
   have x0 := (RA.out.below hbel RA.out.lt).cell 0
   have lA := (RA.out.below hbel RA.out.lt).lt
   simp at x0
   obtain ⟨w3, HW3⟩ : ∃ x, Hid (x = w2.setCells g (k * 5) [.int .i64 (N k).i, .int .i64 (N k).f, .slice an (N k).n cn, .int .i64 (k : Int), .int .i64 f]) := ⟨_, rfl⟩
   have HY3 : Hid (∃ y, w3.ownsRow w0.heap.size 101 5 (.slice (some ⟨g, 0, none⟩) n n) n (cL 5 y n) ∧ ∀ i, i < k + 1 → ∀ q, q < 5 → Rd wb (stD (N i) i f q) (y i q)) := by
    rw [HW3.out]
    have := own_setCells hlt [.int .i64 (N k).i, .int .i64 (N k).f, .slice an (N k).n cn, .int .i64 (k : Int), .int .i64 f] 0 w2 y rfl ho2
    rw [Nat.add_zero] at this
    refine ⟨_, this, fun i hi q hq => ?_⟩
    by_cases e : i = k
    ·subst e
     match q, hq with
     | 0, _ | 1, _ | 3, _ | 4, _ => simp [stD, Rd]
     | 2, _ => simpa [stD] using hr0
    ·simp only [e, false_and, if_false]
     exact hry i (by omega) q hq
   have hgs : w0.heap.size ≤ g := by rw [HG.out]; exact Nat.le_refl _
   have KB3 : Hid (Below w0.heap.size w0 w3) := by show Below _ _ _; rw [HW3.out]; exact below_setCells (below2 hbel b2) hgs _ _
   clear HY hoy ho2 b2 R0 hr0 hbel hry hgs
   go_wp2_with (first | (refine wpList_load_mid (by rfl) 81 _ (by rfl) b1 (f1 + k * 3) (by rfl) [.int .i64 (N k).i, .int .i64 (N k).f, .slice an (N k).n cn] _ ?_ Tryz.underlying81 (by rfl) Tryz.infoNd ?_; exact R1.out) | (rw [← HW2.out]; refine wpList_store_mid (by rfl) 101 _ _ (by rfl) g (k * 5) #[.int .i64 (N k).i, .int .i64 (N k).f, .slice an (N k).n cn, .int .i64 (k : Int), .int .i64 f] (by rfl) (by rfl) ?_ Tryz.infoSt (by simp [Value.oneCell']) ?_; exact TH.out; rw [← HW3.out]))
   go_roundw
   case rel => exact ⟨k + 1, by omega, by go_num, HY3, KB3.out⟩
   case measure => simp [intOf]; omega
  ·obtain rfl : k = n := by omega
   have HF : Hid (∃ y, wr.ownsRow w.heap.size 101 5 (.slice (some ⟨g, 0, none⟩) k k) k (cL 5 y k) ∧ ∀ i, i < k → ∀ q, q < 5 → Rd wb (stD (N i) i f q) (y i q)) := by
    obtain ⟨y, hoy, hry⟩ := HY.out
    exact ⟨y, own_base hoy KB0.out.size, hry⟩
   obtain ⟨y, hf1, hf2⟩ := HF.out
   have HF2 : Hid _ := And.intro hf1 hf2
   clear hf1 hf2 HF
   go_wp2
   go_ret
   exact ⟨g, y, rfl, HF2.out.1, HF2.out.2, below2 KB0.out hbel⟩
theorem st_cells {w : World} {d : Nd} {i : Nat} {f : Int} {y : Nat → Value} (h : ∀ q, q < 5 → Rd w (stD d i f q) (y q)) : ∃ an cn, y 0 = .int .i64 d.i ∧ y 1 = .int .i64 d.f ∧ y 2 = .slice an d.n cn ∧ y 3 = .int .i64 (i : Int) ∧ y 4 = .int .i64 f ∧ Rd w (slsD d.n d.S) (.slice an d.n cn) := by
 have g0 := h 0 (by omega)
 have g1 := h 1 (by omega)
 have g2 : Rd w (slsD d.n d.S) (y 2) := h 2 (by omega)
 have g3 := h 3 (by omega)
 have g4 := h 4 (by omega)
 simp only [Rd, stD] at g0 g1 g3 g4
 obtain ⟨an, cn, e2⟩ := g2.shape
 rw [e2] at g2
 exact ⟨an, cn, g0, g1, e2, g3, g4, g2⟩
theorem LM.below {w w' : World} {b : Nat} {f : Int} {zs : List Int} (h : LM w b f zs) (hb : Below w.heap.size w w') : LM w' b f zs := by
 obtain ⟨es, clock, e, hl⟩ := h
 exact ⟨es, clock, (hb.block b (Array.getElem?_eq_some_iff.1 e).1).trans e, hl⟩
theorem honest1_any (L b : Nat) (f : Int) (zs : List Int) (x0 x1 x2 : Value) (i : Int) (w : World) (hL : w.cell? ⟨L, 0, none⟩ = some (.map (some b))) (hm : LM w b f zs) :
  Calls Tryz.prog 77 #[.agg #[x0, x1, x2, .int .i64 i, .int .i64 f], .pointer (some ⟨L, 0, none⟩)] w fun e w' => e = .returned (.bool (decide (i ∈ zs))) ∧ Below w.heap.size w w' := by
 have hb0 : Below w.heap.size w (w.alloc (.cells #[x0, x1, x2, .int .i64 i, .int .i64 f] 101)) := (Below.refl _ _).alloc (Nat.le_refl _) _
 have KB : Hid _ := hb0
 have lL := block_lt_of_cell hL
 obtain ⟨c, hc, hiff⟩ := lm_look (hm.below hb0) i
 simp only [bk] at hc
 by_cases hx : i ∈ zs
 ·have hc0 : c > 0 := hiff.2 hx
  rw [decide_eq_true hx]
  clear hm hb0 hiff hx
  go_enter Tryz.func77, Tryz.ntmps77
  go_wp2
  go_ret
  exact ⟨rfl, KB.out⟩
 ·have hc0 : ¬ (c > 0) := fun h => hx (hiff.1 h)
  rw [decide_eq_false hx]
  clear hm hb0 hiff hx
  go_enter Tryz.func77, Tryz.ntmps77
  go_wp2
  go_ret
  exact ⟨rfl, KB.out⟩
def ixF (p : Nat → Bool) : Nat → Nat → Option Nat
 | 0, _ => none
 | n + 1, k => if p k = true then some k else ixF p n (k + 1)
def ixX (p : Nat → Bool) (n : Nat) : Int := match ixF p n 0 with
 | some x => (x : Int)
 | none => -1
theorem ixF_some {p : Nat → Bool} : ∀ {n k x : Nat}, ixF p n k = some x → k ≤ x ∧ x < k + n ∧ p x = true ∧ ∀ i, k ≤ i → i < x → p i = false
 | 0, _, _, h => by cases h
 | n + 1, k, x, h => by
  unfold ixF at h
  by_cases e : p k = true
  ·rw [if_pos e] at h
   cases h
   exact ⟨Nat.le_refl _, by omega, e, fun i h1 h2 => by omega⟩
  ·rw [if_neg e] at h
   obtain ⟨h1, h2, h3, h4⟩ := ixF_some h
   refine ⟨by omega, by omega, h3, fun i hi hx => ?_⟩
   by_cases ei : i = k
   ·rw [ei]; simpa using e
   ·exact h4 i (by omega) hx
theorem ixF_none {p : Nat → Bool} : ∀ {n k : Nat}, ixF p n k = none → ∀ i, k ≤ i → i < k + n → p i = false
 | 0, _, _, i, h1, h2 => by omega
 | n + 1, k, h, i, h1, h2 => by
  unfold ixF at h
  by_cases e : p k = true
  ·rw [if_pos e] at h; cases h
  ·rw [if_neg e] at h
   by_cases ei : i = k
   ·rw [ei]; simpa using e
   ·exact ixF_none h i (by omega) (by omega)
def kl (p : Nat → Bool) (n : Nat) : List Nat := (List.range n).filter fun i => !p i
theorem kl_succ (p : Nat → Bool) (n : Nat) : kl p (n + 1) = if p n = true then kl p n else kl p n ++ [n] := by
 unfold kl
 rw [List.range_succ, List.filter_append]
 by_cases h : p n = true <;> simp [h]
theorem kl_le (p : Nat → Bool) (n : Nat) : (kl p n).length ≤ n := by
 have := List.length_filter_le (fun i => !p i) (List.range n)
 simpa [kl] using this
theorem kl_all {p : Nat → Bool} {n : Nat} (h : ∀ i, i < n → p i = false) : kl p n = List.range n := by
 unfold kl
 rw [List.filter_eq_self]
 intro a ha
 simp [h a (List.mem_range.1 ha)]
theorem row_range {w : World} {B g n cap : Nat} {y : Nat → Nat → Value} (h : w.ownsRow B 101 5 (.slice (some ⟨g, 0, none⟩) n cap) n (cL 5 y n)) {k : Nat} (hk : k < n) : w.rangeAt g (k * 5) [y k 0, y k 1, y k 2, y k 3, y k 4] := by
 intro j v hv
 have hj : j < 5 := (List.getElem?_eq_some_iff.1 hv).1
 rw [World.ownsRow.cellAt h _ (mid_lt hk hj), cL_get _ _ _ _ _ hk hj, ← hv]
 match j, hj with
 | 0, _ | 1, _ | 2, _ | 3, _ | 4, _ => rfl
theorem ixS_any (B g n cap L : Nat) (y : Nat → Nat → Value) (p : Nat → Bool) (w : World) (hO : w.ownsRow B 101 5 (.slice (some ⟨g, 0, none⟩) n cap) n (cL 5 y n)) (hn : n ≤ 1048576)
  (hF : ∀ i, i < n → ∀ W, Below w.heap.size w W → Calls Tryz.prog 77 #[.agg #[y i 0, y i 1, y i 2, y i 3, y i 4], .pointer (some ⟨L, 0, none⟩)] W fun e w' => e = .returned (.bool (p i)) ∧ Below W.heap.size W w') :
  Calls Tryz.prog 113 #[.slice (some ⟨g, 0, none⟩) n cap, .func (.func 77) #[] #[.pointer (some ⟨L, 0, none⟩)]] w fun e w' => e = .returned (.int .i64 (ixX p n)) ∧ Below w.heap.size w w' := by
 have KO : Hid _ := hO
 have KF : Hid _ := hF
 clear hO hF
 go_enter Tryz.func113, Tryz.ntmps113
 go_wp2
 go_loopw [8] (fun vi wr => ∃ k : Nat, k ≤ n ∧ vi = .int .i64 (k : Int) ∧ Hid (ixF p (n - k) k = ixF p n 0) ∧ Below w.heap.size w wr) (fun vi _ => n - (intOf vi).toNat)
 case atStart => exact ⟨0, Nat.zero_le _, rfl, rfl, Below.refl _ _⟩
 case round =>
  obtain ⟨k, hk, rfl, HP, hbel⟩ := hrel
  by_cases hlt : k < n
  ·have hki : (k : Int) < (n : Int) := by omega
   have R1 : Hid (wr.rangeAt g (k * 5) [y k 0, y k 1, y k 2, y k 3, y k 4]) := row_range (ownsRow_below KO.out hbel) hlt
   have KC : Hid _ := KF.out k hlt wr hbel
   have KB : Hid (Below w.heap.size w wr) := hbel
   have e2 : n - k = (n - (k + 1)) + 1 := by omega
   have HP' := HP.out
   rw [e2] at HP'
   rw [show ixF p (n - (k + 1) + 1) k = if p k = true then some k else ixF p (n - (k + 1)) (k + 1) from rfl] at HP'
   clear hbel HP e2
   cases hr : p k with
   | true =>
    rw [if_pos hr] at HP'
    have HI : Hid (ixX p n = (k : Int)) := by show _ = _; unfold ixX; rw [← HP']
    rw [hr] at KC
    clear HP' hr
    go_wp2_with (refine wpList_load_mid (by rfl) 101 _ (by rfl) g (k * 5) (by rfl) [y k 0, y k 1, y k 2, y k 3, y k 4] _ ?_ Tryz.underlying101 (by rfl) Tryz.infoSt ?_; exact R1.out)
    refine Calls.mono KC.out ?_
    rintro e w1 ⟨rfl, b1'⟩
    have KB1 : Hid (Below w.heap.size w w1) := below2 KB.out b1'
    clear b1'
    go_wp2
    go_ret
    exact ⟨ret_int HI.out.symm, KB1.out⟩
   | false =>
    rw [if_neg (by rw [hr]; decide)] at HP'
    have HP2 : Hid (ixF p (n - (k + 1)) (k + 1) = ixF p n 0) := HP'
    rw [hr] at KC
    clear HP' hr
    go_wp2_with (refine wpList_load_mid (by rfl) 101 _ (by rfl) g (k * 5) (by rfl) [y k 0, y k 1, y k 2, y k 3, y k 4] _ ?_ Tryz.underlying101 (by rfl) Tryz.infoSt ?_; exact R1.out)
    refine Calls.mono KC.out ?_
    rintro e w1 ⟨rfl, b1'⟩
    have KB1 : Hid (Below w.heap.size w w1) := below2 KB.out b1'
    clear b1' KC R1
    go_wp2
    go_roundw
    case rel => exact ⟨k + 1, by omega, by go_num, HP2, KB1.out⟩
    case measure => simp [intOf]; omega
  ·obtain rfl : k = n := by omega
   have HI : Hid (ixX p k = -1) := by
    have := HP.out
    rw [Nat.sub_self] at this
    show _ = _
    unfold ixX
    rw [← this]
    rfl
   go_wp2
   go_ret
   exact ⟨ret_int HI.out.symm, hbel⟩
theorem own_seg {B t sz g n cap : Nat} (hz : 0 < sz) : ∀ (vs : List Value) (o : Nat) (w : World) (z : Nat → Nat → Value), o + vs.length ≤ n * sz → w.ownsRow B t sz (.slice (some ⟨g, 0, none⟩) n cap) n (cL sz z n) →
  ∃ z', (w.setCells g o vs).ownsRow B t sz (.slice (some ⟨g, 0, none⟩) n cap) n (cL sz z' n) ∧ ∀ x q, x < n → q < sz → x * sz + q < o → z' x q = z x q
 | [], _, _, z, _, h => ⟨z, h, fun _ _ _ _ _ => rfl⟩
 | v :: r, o, w, z, hl, h => by
  have ho : o < n * sz := by simp at hl; omega
  have hd : o / sz < n := (Nat.div_lt_iff_lt_mul hz).2 ho
  have hm : o % sz < sz := Nat.mod_lt _ hz
  have h1 := (World.ownsRow.stored h o v).1
  have e : (cL sz z n).set o v = cL sz (fun i' q' => if i' = o / sz ∧ q' = o % sz then v else z i' q') n := by
   have := cL_set sz z n (o / sz) (o % sz) v hd hm
   rw [mid_eq] at this
   exact this
  rw [e] at h1
  obtain ⟨z', h2, h3⟩ := own_seg hz r (o + 1) (w.setCell ⟨g, o, none⟩ v) _ (by simp at hl; omega) h1
  refine ⟨z', h2, fun x q hx hq hlt => ?_⟩
  rw [h3 x q hx hq (by omega)]
  refine if_neg (fun he => ?_)
  have := @mid_eq sz o
  rw [← he.1, ← he.2] at this
  omega
theorem there_row {w : World} {B g n cap : Nat} {z : Nat → Nat → Value} (h : w.ownsRow B 101 5 (.slice (some ⟨g, 0, none⟩) n cap) n (cL 5 z n)) {j : Nat} (hj : j < n) : w.there g (j * 5) 5 := by
 intro q hq
 refine ⟨?_, World.ownsRow.frozenAt h _⟩
 rw [World.ownsRow.cellAt h _ (mid_lt hj hq), cL_get _ _ _ _ _ hj hq]
 rfl
theorem clear_seats {w : World} {B g n j : Nat} {z : Nat → Nat → Value} (h : w.ownsRow B 101 5 (.slice (some ⟨g, 0, none⟩) n n) n (cL 5 z n)) (hj : j < n) :
  ∃ vs : List Value, j * 5 + vs.length = n * 5 ∧ ∀ ty, (Builtin.clear_ #[96] ty #[.slice (some ⟨g, j * 5, none⟩) (n - j) (n - j)]).run Tryz.prog w = .ok (.tuple #[]) (w.setCells g (j * 5) vs) := by
 have hzv : ∀ W : World, (zeroValue 101).run Tryz.prog W = .ok (.agg zcT.toArray) W := fun W => by rfl
 refine ⟨(Builtin.zeroCells zcT.toArray (n - j)).toList, ?_, fun ty => ?_⟩
 ·simp [Builtin.zeroCells, zcT]; omega
 ·have hlen : (Builtin.zeroCells zcT.toArray (n - j)).toList.length = (n - j) * 5 := by simp [Builtin.zeroCells, zcT]
  have hst := run_storeCells_cells (P := Tryz.prog) g (j * 5) (Builtin.zeroCells zcT.toArray (n - j)).toList 0 w (fun i hi => by
    rw [hlen] at hi
    rw [Nat.add_zero, World.ownsRow.cellAt h _ (by omega), List.getElem?_eq_getElem (by rw [cL_len]; omega)]
    rfl) (fun i _ => by rw [Nat.add_zero]; exact World.ownsRow.frozenAt h _) (fun v hv => by
    simp only [Builtin.zeroCells, Array.toList_map, List.mem_map] at hv
    obtain ⟨i, _, rfl⟩ := hv
    have hi : i % zcT.toArray.size < 5 := Nat.mod_lt _ (by simp [zcT])
    generalize i % zcT.toArray.size = q at hi
    match q, hi with
    | 0, _ | 1, _ | 2, _ | 3, _ | 4, _ => rfl)
  obtain ⟨r, hr⟩ : ∃ r, n - j = r + 1 := ⟨n - j - 1, by omega⟩
  rw [hr] at hst ⊢
  simp [Builtin.clear_, run_underlying Tryz.underlying96, hzv, Value.cells, hst, Result.andThen]
def SeY (n : Nat) (y : Nat → Nat → Value) : Prop := ∀ i, i < n → ∃ (i0 f0 b0 b1 : Int) (an : Option Addr) (nn cn : Nat), y i 0 = .int .i64 i0 ∧ y i 1 = .int .i64 f0 ∧ y i 2 = .slice an nn cn ∧ y i 3 = .int .i64 b0 ∧ y i 4 = .int .i64 b1
def DeI (w : World) (B g n : Nat) (y : Nat → Nat → Value) (p : Nat → Bool) (k j : Nat) (wr : World) : Prop := ∃ z, wr.ownsRow B 101 5 (.slice (some ⟨g, 0, none⟩) n n) n (cL 5 z n) ∧ (∀ t, t < j → ∀ q, q < 5 → z t q = y ((kl p k).getD t 0) q) ∧ (∀ t, k ≤ t → t < n → ∀ q, q < 5 → z t q = y t q) ∧ Trn w wr (fun x => x = g)
theorem DeI.skip {w wr w' : World} {B g n : Nat} {y : Nat → Nat → Value} {p : Nat → Bool} {k j : Nat} (h : DeI w B g n y p k j wr) (hp : p k = true) (hb : Below wr.heap.size wr w') : DeI w B g n y p (k + 1) j w' := by
 obtain ⟨z, h1, h2, h3, h4⟩ := h
 refine ⟨z, ownsRow_below h1 hb, fun t ht q hq => ?_, fun t h5 h6 q hq => h3 t (by omega) h6 q hq, h4.trans (Trn.ofBelow _ hb)⟩
 rw [kl_succ, if_pos hp]
 exact h2 t ht q hq
theorem DeI.keep {w wr w' : World} {B g n : Nat} {y : Nat → Nat → Value} {p : Nat → Bool} {k j : Nat} (h : DeI w B g n y p k j wr) (hp : p k = false) (hj : j = (kl p k).length) (hjk : j < k) (hk : k < n) (hb : Below wr.heap.size wr w') : DeI w B g n y p (k + 1) (j + 1) (w'.setCells g (j * 5) [y k 0, y k 1, y k 2, y k 3, y k 4]) := by
 obtain ⟨z, h1, h2, h3, h4⟩ := h
 have h5 := own_setCells (show j < n by omega) [y k 0, y k 1, y k 2, y k 3, y k 4] 0 w' z rfl (ownsRow_below h1 hb)
 rw [Nat.add_zero] at h5
 refine ⟨_, h5, fun t ht q hq => ?_, fun t ha hb' q hq => ?_, (h4.trans (Trn.ofBelow _ hb)).trans (trn_setCells (F := fun x => x = g) _ rfl _ _)⟩
 ·have ek : kl p (k + 1) = kl p k ++ [k] := by rw [kl_succ, if_neg (by rw [hp]; decide)]
  rw [ek]
  by_cases e : t = j
  ·subst e
   have e1 : (kl p k ++ [k]).getD t 0 = k := by rw [hj]; simp
   rw [if_pos ⟨rfl, Nat.zero_le _⟩, e1]
   match q, hq with
   | 0, _ | 1, _ | 2, _ | 3, _ | 4, _ => rfl
  ·rw [if_neg (fun h => e h.1), h2 t (by omega) q hq]
   have e1 : (kl p k ++ [k]).getD t 0 = (kl p k).getD t 0 := by
    rw [List.getD_eq_getElem?_getD, List.getD_eq_getElem?_getD, List.getElem?_append_left (by omega)]
   rw [e1]
 ·rw [if_neg (fun h => by have := h.1; omega)]
  exact h3 t (by omega) hb' q hq
theorem delS_any (B g n L : Nat) (y : Nat → Nat → Value) (p : Nat → Bool) (w : World) (hO : w.ownsRow B 101 5 (.slice (some ⟨g, 0, none⟩) n n) n (cL 5 y n)) (hn : n ≤ 1048576) (hY : SeY n y)
  (hF : ∀ i, i < n → ∀ W, Trn w W (fun x => x = g) → Calls Tryz.prog 77 #[.agg #[y i 0, y i 1, y i 2, y i 3, y i 4], .pointer (some ⟨L, 0, none⟩)] W fun e w' => e = .returned (.bool (p i)) ∧ Below W.heap.size W w') :
  Calls Tryz.prog 75 #[.slice (some ⟨g, 0, none⟩) n n, .func (.func 77) #[] #[.pointer (some ⟨L, 0, none⟩)]] w fun e w' => ∃ z, e = .returned (.slice (some ⟨g, 0, none⟩) (kl p n).length n) ∧ w'.ownsRow B 101 5 (.slice (some ⟨g, 0, none⟩) n n) n (cL 5 z n) ∧ (∀ t, t < (kl p n).length → ∀ q, q < 5 → z t q = y ((kl p n).getD t 0) q) ∧ Trn w w' (fun x => x = g) := by
 have KI : Hid _ := ixS_any B g n n L y p w hO hn (fun i hi W hW => hF i hi W (Trn.ofBelow _ hW))
 have KO : Hid _ := hO
 have KF : Hid _ := hF
 have KY : Hid _ := hY
 clear hO hF hY
 cases hx : ixF p n 0 with
 | none =>
  have e1 : ixX p n = -1 := by unfold ixX; rw [hx]
  rw [e1] at KI
  have hal := ixF_none hx
  have e2 : kl p n = List.range n := kl_all (fun i hi => hal i (Nat.zero_le _) (by omega))
  have HE : Hid ((kl p n).length = n ∧ ∀ t, t < n → (kl p n).getD t 0 = t) := ⟨by rw [e2]; simp, fun t ht => by rw [e2, List.getD_eq_getElem?_getD, List.getElem?_range ht]; rfl⟩
  clear hx e1 hal e2
  go_enter Tryz.func75, Tryz.ntmps75
  go_wp2_with fail
  refine Calls.mono KI.out ?_
  rintro e w1 ⟨rfl, b1⟩
  have HF : Hid (w1.ownsRow B 101 5 (.slice (some ⟨g, 0, none⟩) n n) n (cL 5 y n) ∧ Trn w w1 (fun x => x = g)) := ⟨ownsRow_below KO.out b1, Trn.ofBelow _ b1⟩
  clear b1
  go_wp2
  go_ret
  refine ⟨y, by rw [HE.out.1]; rfl, HF.out.1, fun t ht q _ => ?_, HF.out.2⟩
  rw [HE.out.1] at ht
  rw [HE.out.2 t ht]
 | some x =>
  have e1 : ixX p n = (x : Int) := by unfold ixX; rw [hx]
  rw [e1] at KI
  obtain ⟨_, hxn', hpx, hal⟩ := ixF_some hx
  have hxn : x < n := by omega
  have e2 : kl p x = List.range x := kl_all (fun i hi => hal i (Nat.zero_le _) hi)
  have e3 : kl p (x + 1) = List.range x := by rw [kl_succ, if_pos hpx, e2]
  have hne : ¬ ((x : Int) = -1) := by omega
  have hne2 : ((x : Int) == -1) = false := by simp
  have hxw : IntKind.i64.wrap ((x : Int) + 1) = (x : Int) + 1 := by rw [IntKind.wrap_i64]; omega
  have HE3 : Hid ((kl p (x + 1)).length = x ∧ ∀ t, t < x → (kl p (x + 1)).getD t 0 = t) := ⟨by rw [e3]; simp, fun t ht => by rw [e3, List.getD_eq_getElem?_getD, List.getElem?_range ht]; rfl⟩
  clear hx e1 hal e2 e3 hxn' hpx
  go_enter Tryz.func75, Tryz.ntmps75
  go_wp2_with fail
  refine Calls.mono KI.out ?_
  rintro e w1 ⟨rfl, b1⟩
  have H0 : Hid (DeI w B g n y p (x + 1) x w1) := ⟨y, ownsRow_below KO.out b1, fun t ht q _ => by rw [HE3.out.2 t ht], fun t _ _ q _ => rfl, Trn.ofBelow _ b1⟩
  clear b1 KI
  go_wp2
  go_loopw [5, 6] (fun vi vj wr => ∃ k j : Nat, j < k ∧ k ≤ n ∧ vj = .int .i64 (k : Int) ∧ vi = .int .i64 (j : Int) ∧ Hid (j = (kl p k).length ∧ DeI w B g n y p k j wr)) (fun _ vj _ => n - (intOf vj).toNat)
  case atStart => exact ⟨x + 1, x, by omega, by omega, by simp, rfl, HE3.out.1.symm, H0.out⟩
  case round =>
   obtain ⟨k, j, hjk, hk, rfl, rfl, HR⟩ := hrel
   clear H0 HE3 hne hne2 hxw
   by_cases hlt : k < n
   ·have hki : (k : Int) < (n : Int) := by omega
    obtain ⟨z, ho, hz1, hz2, ht⟩ := HR.out.2
    have hr0 := row_range ho hlt
    rw [hz2 k (Nat.le_refl _) hlt 0 (by omega), hz2 k (Nat.le_refl _) hlt 1 (by omega), hz2 k (Nat.le_refl _) hlt 2 (by omega), hz2 k (Nat.le_refl _) hlt 3 (by omega), hz2 k (Nat.le_refl _) hlt 4 (by omega)] at hr0
    obtain ⟨V, HV⟩ : ∃ v, Hid (v = wr.heap.size) := ⟨_, rfl⟩
    obtain ⟨w2, HW2⟩ : ∃ v, Hid (v = wr.alloc (.cells #[y k 0, y k 1, y k 2, y k 3, y k 4] 101)) := ⟨_, rfl⟩
    have b2 : Below wr.heap.size wr w2 := by rw [HW2.out]; exact (Below.refl _ _).alloc (Nat.le_refl _) _
    have RV2 : Row w2 V 101 #[y k 0, y k 1, y k 2, y k 3, y k 4] := by rw [HW2.out, HV.out]; exact Row.new wr _ _
    have KC0 := KF.out k hlt w2 (ht.trans (Trn.ofBelow _ b2))
    have HDe := HR.out.2
    have HL := HR.out.1
    have HB2 : Hid (Below wr.heap.size wr w2) := b2
    obtain ⟨i0, f0, q0, q1, an, nn, cn, g0, g1, g2, g3, g4⟩ := KY.out k hlt
    have HKe : Hid (∀ w3, Below wr.heap.size wr w3 → p k = false → DeI w B g n y p (k + 1) (j + 1) (w3.setCells g (j * 5) [.int .i64 i0, .int .i64 f0, .slice an nn cn, .int .i64 q0, .int .i64 q1]) ∧ (kl p (k + 1)).length = j + 1 ∧ w3.there g (j * 5) 5) := fun w3 hb hp => by
     have h1 := DeI.keep HDe hp HL hjk hlt hb
     rw [g0, g1, g2, g3, g4] at h1
     exact ⟨h1, by rw [kl_succ, if_neg (by rw [hp]; decide), List.length_append, ← HL]; rfl, there_row (ownsRow_below ho hb) (by omega)⟩
    have HSk : Hid (∀ w3, Below wr.heap.size wr w3 → p k = true → DeI w B g n y p (k + 1) j w3 ∧ (kl p (k + 1)).length = j) := fun w3 hb hp => ⟨DeI.skip HDe hp hb, by rw [kl_succ, if_pos hp]; exact HL.symm⟩
    rw [g0, g1, g2, g3, g4] at hr0 HW2 RV2 KC0
    have R1 : Hid _ := hr0
    have RV : Hid (Row w2 V 101 #[.int .i64 i0, .int .i64 f0, .slice an nn cn, .int .i64 q0, .int .i64 q1]) := RV2
    have KC : Hid _ := KC0
    clear hr0 RV2 KC0 g0 g1 g2 g3 g4 ho hz1 hz2 ht HDe HL b2 HR
    cases hp : p k with
    | true =>
     rw [hp] at KC
     have HS2 : Hid (∀ w3, Below wr.heap.size wr w3 → DeI w B g n y p (k + 1) j w3 ∧ (kl p (k + 1)).length = j) := fun w3 hb => HSk.out w3 hb hp
     clear hp HSk HKe
     go_wp2_with (refine wpList_load_mid (by rfl) 101 _ (by rfl) g (k * 5) (by rfl) [.int .i64 i0, .int .i64 f0, .slice an nn cn, .int .i64 q0, .int .i64 q1] _ ?_ Tryz.underlying101 (by rfl) Tryz.infoSt ?_; exact R1.out)
     rw [← HW2.out]
     refine Calls.mono KC.out ?_
     rintro e w3 ⟨rfl, b3⟩
     obtain ⟨hd, hl⟩ := HS2.out w3 (below2 HB2.out b3)
     have HN2 : Hid (j = (kl p (k + 1)).length ∧ DeI w B g n y p (k + 1) j w3) := ⟨hl.symm, hd⟩
     clear hd hl b3 KC R1 RV
     go_wp2
     go_roundw
     case rel => exact ⟨k + 1, j, by omega, by omega, by go_num, rfl, HN2⟩
     case measure => simp [intOf]; omega
    | false =>
     rw [hp] at KC
     have HS2 : Hid (∀ w3, Below wr.heap.size wr w3 → DeI w B g n y p (k + 1) (j + 1) (w3.setCells g (j * 5) [.int .i64 i0, .int .i64 f0, .slice an nn cn, .int .i64 q0, .int .i64 q1]) ∧ (kl p (k + 1)).length = j + 1 ∧ w3.there g (j * 5) 5) := fun w3 hb => HKe.out w3 hb hp
     clear hp HSk HKe
     go_wp2_with (refine wpList_load_mid (by rfl) 101 _ (by rfl) g (k * 5) (by rfl) [.int .i64 i0, .int .i64 f0, .slice an nn cn, .int .i64 q0, .int .i64 q1] _ ?_ Tryz.underlying101 (by rfl) Tryz.infoSt ?_; exact R1.out)
     rw [← HW2.out, ← HV.out]
     refine Calls.mono KC.out ?_
     rintro e w3 ⟨rfl, b3⟩
     obtain ⟨hd, hl, hth⟩ := HS2.out w3 (below2 HB2.out b3)
     have RV3 : Hid (Row w3 V 101 #[.int .i64 i0, .int .i64 f0, .slice an nn cn, .int .i64 q0, .int .i64 q1]) := RV.out.below b3 RV.out.lt
     obtain ⟨w4, HW4⟩ : ∃ v, Hid (v = w3.setCells g (j * 5) [.int .i64 i0, .int .i64 f0, .slice an nn cn, .int .i64 q0, .int .i64 q1]) := ⟨_, rfl⟩
     have HN2 : Hid (j + 1 = (kl p (k + 1)).length ∧ DeI w B g n y p (k + 1) (j + 1) w4) := ⟨hl.symm, by rw [HW4.out]; exact hd⟩
     have TH : Hid _ := hth
     have hji : (j : Int) < (n : Int) := by omega
     clear hd hl hth b3 KC R1 RV
     go_wp2_with (first | (refine wpList_load_row (by rfl) 101 _ (by rfl) V (by rfl) 101 #[.int .i64 i0, .int .i64 f0, .slice an nn cn, .int .i64 q0, .int .i64 q1] (0, 0) _ ?_ Tryz.underlying101 (by rfl) Tryz.infoSt ?_; exact RV3.out) | (refine wpList_store_mid (by rfl) 101 _ _ (by rfl) g (j * 5) #[.int .i64 i0, .int .i64 f0, .slice an nn cn, .int .i64 q0, .int .i64 q1] (by rfl) (by rfl) ?_ Tryz.infoSt (by simp [Value.oneCell']) ?_; exact TH.out; rw [← HW4.out]))
     go_roundw
     case rel => exact ⟨k + 1, j + 1, by omega, by omega, by go_num, by go_num, HN2⟩
     case measure => simp [intOf]; omega
   ·obtain rfl : k = n := by omega
    obtain ⟨z, ho, hz1, _, ht⟩ := HR.out.2
    obtain ⟨vs, hvl, hclr⟩ := clear_seats ho hjk
    obtain ⟨z', ho', hz'⟩ := own_seg (by omega) vs (j * 5) wr z (by omega) ho
    obtain ⟨w4, HW4⟩ : ∃ v, Hid (v = wr.setCells g (j * 5) vs) := ⟨_, rfl⟩
    rw [← HW4.out] at hclr ho'
    have HF : Hid (j = (kl p k).length ∧ w4.ownsRow B 101 5 (.slice (some ⟨g, 0, none⟩) k k) k (cL 5 z' k) ∧ (∀ t, t < j → ∀ q, q < 5 → z' t q = y ((kl p k).getD t 0) q) ∧ Trn w w4 (fun x => x = g)) := ⟨HR.out.1, ho', fun t ht' q hq => by rw [hz' t q (by omega) hq (mid_lt ht' hq)]; exact hz1 t ht' q hq, by rw [HW4.out]; exact ht.trans (trn_setCells (F := fun x => x = g) _ rfl _ _)⟩
    have hji : (j : Int) < (k : Int) := by omega
    have hnj : ¬ (k = j) := by omega
    clear ho hz1 ht ho' hz' hvl HR
    go_wp2
    go_ret
    exact ⟨z', by rw [← HF.out.1]; rfl, HF.out.2.1, by rw [← HF.out.1]; exact HF.out.2.2.1, HF.out.2.2.2⟩
def lyP (zs : List Int) (i : Nat) : Bool := decide ((i : Int) ∈ zs)
theorem honest_any (f : Int) (a : Option Addr) (n c : Nat) (l : Option Addr) (d : Nat) (zs : List Int) (v3 : Value) (N : Nat → Nd) (wb w : World) (hwb : Below wb.heap.size wb w) (h : Rd wb (ndsD n N) (.slice a n c)) (hl : IntsAt w l zs.length zs) (hn : n ≤ 1048576) (hz : zs.length ≤ 1048576) :
  Calls Tryz.prog 49 #[ntV f (.slice a n c) (.slice l zs.length d) v3] w fun e w' => ∃ g z, e = .returned (.slice (some ⟨g, 0, none⟩) (kl (lyP zs) n).length n) ∧ w'.ownsRow w.heap.size 101 5 (.slice (some ⟨g, 0, none⟩) n n) n (cL 5 z n) ∧ (∀ t, t < (kl (lyP zs) n).length → ∀ q, q < 5 → Rd wb (stD (N ((kl (lyP zs) n).getD t 0)) ((kl (lyP zs) n).getD t 0) f q) (z t q)) ∧ Below w.heap.size w w' := by
 obtain ⟨A, HA⟩ : ∃ x, Hid (x = w.heap.size) := ⟨_, rfl⟩
 obtain ⟨w0, HW0⟩ : ∃ x, Hid (x = w.alloc (.cells #[.int .i64 f, .slice a n c, .slice l zs.length d, v3] 35)) := ⟨_, rfl⟩
 have RA : Hid (Row w0 A 35 #[.int .i64 f, .slice a n c, .slice l zs.length d, v3]) := by show Row _ _ _ _; rw [HW0.out, HA.out]; exact Row.new w _ _
 have b0 : Below w.heap.size w w0 := by rw [HW0.out]; exact (Below.refl _ _).alloc (Nat.le_refl _) _
 have KB0 : Hid (Below w.heap.size w w0) := b0
 have KL : Hid _ := lies_any f (.slice a n c) v3 l d zs w0 (hl.below b0) hz
 have KS : Hid (∀ W, Below w.heap.size w W → Calls Tryz.prog 76 #[ntV f (.slice a n c) (.slice l zs.length d) v3] W fun e w' => ∃ g y, e = .returned (.slice (some ⟨g, 0, none⟩) n n) ∧ w'.ownsRow W.heap.size 101 5 (.slice (some ⟨g, 0, none⟩) n n) n (cL 5 y n) ∧ (∀ i, i < n → ∀ q, q < 5 → Rd wb (stD (N i) i f q) (y i q)) ∧ Below W.heap.size W w') := fun W hW => seatO_any f a n c (.slice l zs.length d) v3 N wb W (below2 hwb hW) h hn
 clear h hl b0 hwb
 go_enter Tryz.func49, Tryz.ntmps49
 go_wp2_with (rw [← HW0.out, ← HA.out]; refine wpList_load_row (by rfl) 35 _ (by rfl) A (by rfl) 35 #[.int .i64 f, .slice a n c, .slice l zs.length d, v3] (0, 0) _ ?_ Tryz.underlying35 (by rfl) Tryz.infoNt ?_; exact RA.out)
 refine Calls.mono KL.out ?_
 rintro e w1 ⟨b, rfl, hm1, hbb, b1⟩
 obtain ⟨L, HL⟩ : ∃ x, Hid (x = w1.heap.size) := ⟨_, rfl⟩
 obtain ⟨w2, HW2⟩ : ∃ x, Hid (x = w1.alloc (.cells #[.map (some b)] 132)) := ⟨_, rfl⟩
 have b2 : Below w1.heap.size w1 w2 := by rw [HW2.out]; exact (Below.refl _ _).alloc (Nat.le_refl _) _
 have RL2 : Row w2 L 132 #[.map (some b)] := by rw [HW2.out, HL.out]; exact Row.new w1 _ _
 have RA2 : Hid (Row w2 A 35 #[.int .i64 f, .slice a n c, .slice l zs.length d, v3]) := (RA.out.below b1 RA.out.lt).below b2 (Nat.lt_of_lt_of_le RA.out.lt b1.size)
 have KB2 : Hid (Below w.heap.size w w2) := below2 (below2 KB0.out b1) b2
 have HM2 : Hid (LM w2 b f zs ∧ Row w2 L 132 #[.map (some b)] ∧ b < w2.heap.size) := ⟨hm1.below b2, RL2, by
  obtain ⟨_, _, e, _⟩ := hm1.below b2
  exact (Array.getElem?_eq_some_iff.1 e).1⟩
 have KC2 : Hid _ := KS.out w2 KB2.out
 clear b1 b2 RL2 hm1 hbb KL KS HW0
 go_wp2_with (rw [← HW2.out, ← HL.out]; refine wpList_load_row (by rfl) 35 _ (by rfl) A (by rfl) 35 #[.int .i64 f, .slice a n c, .slice l zs.length d, v3] (0, 0) _ ?_ Tryz.underlying35 (by rfl) Tryz.infoNt ?_; exact RA2.out)
 refine Calls.mono KC2.out ?_
 rintro e w3 ⟨g, y, rfl, ho, hr, b3⟩
 have hg := (World.ownsRow.lt ho g rfl).1
 have hlL := HM2.out.2.1.lt
 have hlb := HM2.out.2.2
 have HY : Hid (SeY n y) := fun i hi => by
  obtain ⟨an, cn, e0, e1, e2, e3, e4, _⟩ := st_cells (hr i hi)
  exact ⟨_, _, _, _, _, _, _, e0, e1, e2, e3, e4⟩
 have KD : Hid _ := delS_any w2.heap.size g n L y (lyP zs) w3 ho hn HY.out (fun i hi W ht => by
  obtain ⟨an, cn, e0, e1, e2, e3, e4, _⟩ := st_cells (hr i hi)
  rw [e3, e4]
  have hL3 : Row w3 L 132 #[.map (some b)] := HM2.out.2.1.below b3 hlL
  have hLW : Row W L 132 #[.map (some b)] := (ht.block L hL3.lt (by omega)).trans hL3
  have hcL := hLW.cell 0
  have hmW : LM W b f zs := by
   obtain ⟨es, clock, eb, hle⟩ := HM2.out.1.below b3
   exact ⟨es, clock, (ht.block b (Array.getElem?_eq_some_iff.1 eb).1 (by omega)).trans eb, hle⟩
  exact honest1_any L b f zs (y i 0) (y i 1) (y i 2) (i : Int) W (by simpa using hcL) hmW)
 have hin : ∀ t, t < (kl (lyP zs) n).length → (kl (lyP zs) n).getD t 0 < n := fun t ht => by
  rw [List.getD_eq_getElem?_getD, List.getElem?_eq_getElem ht]
  have := List.getElem_mem ht
  exact List.mem_range.1 (List.mem_filter.1 this).1
 have hs2 := KB2.out.size
 have HFin : Hid (∀ w' z, w'.ownsRow w2.heap.size 101 5 (.slice (some ⟨g, 0, none⟩) n n) n (cL 5 z n) → (∀ t, t < (kl (lyP zs) n).length → ∀ q, q < 5 → z t q = y ((kl (lyP zs) n).getD t 0) q) → Trn w3 w' (fun x => x = g) → w'.ownsRow w.heap.size 101 5 (.slice (some ⟨g, 0, none⟩) n n) n (cL 5 z n) ∧ (∀ t, t < (kl (lyP zs) n).length → ∀ q, q < 5 → Rd wb (stD (N ((kl (lyP zs) n).getD t 0)) ((kl (lyP zs) n).getD t 0) f q) (z t q)) ∧ Below w.heap.size w w') := fun w' z h1 h2 h3 =>
  ⟨own_base h1 hs2, fun t ht q hq => by rw [h2 t ht q hq]; exact hr _ (hin t ht) q hq, (below2 KB2.out b3).trans (h3.below (fun x hx => by have hx' : x = g := hx; omega) (below2 KB2.out b3).size)⟩
 clear ho hr b3 hg hlL hlb hin hs2
 go_wp2_with fail
 refine Calls.mono KD.out ?_
 rintro e w4 ⟨z, rfl, h1, h2, h3⟩
 have HR : Hid _ := HFin.out w4 z h1 h2 h3
 clear h1 h2 h3
 go_wp2
 go_ret
 exact ⟨g, z, rfl, HR.out⟩
theorem take_one {l : List Nat} {t : Nat} (h : t < l.length) : l.take (t + 1) = l.take t ++ [l.getD t 0] := by
 rw [List.take_add_one, List.getD_eq_getElem?_getD, List.getElem?_eq_getElem h]
 rfl
structure NdQ (d : Nd) : Prop where
 n : d.n ≤ 1048576
 k : ∀ i, i < d.n → SlK (d.S i)
 s : ∀ i, i < d.n → SlS (d.S i)
theorem sHas_any (l : Option Addr) (d : Nat) (zs : List Int) (x : Int) (w : World) (h : IntsAt w l zs.length zs) (hn : zs.length ≤ 1048576) :
  Calls Tryz.prog 38 #[.slice l zs.length d, .int .i64 x] w fun e w' => e = .returned (.bool (decide (x ∈ zs))) ∧ w' = w := by
 have KH : Hid (IntsAt w l zs.length zs) := h
 clear h
 obtain ⟨bb, HBB⟩ : ∃ v, Hid (decide (x ∈ zs) = v) := ⟨_, rfl⟩
 rw [HBB.out]
 obtain ⟨n, HN⟩ : ∃ v, Hid (zs.length = v) := ⟨_, rfl⟩
 rw [HN.out] at hn ⊢
 go_enter Tryz.func38, Tryz.ntmps38
 go_wp2
 go_loopw [5] (fun vi wr => ∃ k : Nat, k ≤ n ∧ vi = .int .i64 (k : Int) ∧ wr = w ∧ Hid (∀ i, i < k → zs.getD i 0 ≠ x)) (fun vi _ => n - (intOf vi).toNat)
 case atStart => exact ⟨0, Nat.zero_le _, rfl, rfl, fun i hi => absurd hi (Nat.not_lt_zero _)⟩
 case round =>
  obtain ⟨k, hk, rfl, hw, HP⟩ := hrel
  obtain rfl := hw.symm
  clear hw
  by_cases hlt : k < n
  ·have hki : (k : Int) < (n : Int) := by omega
   obtain ⟨bl, off, e1, hc⟩ := KH.out.some (by rw [HN.out]; omega)
   subst e1
   have x1 := hc k (by rw [HN.out]; exact hlt)
   clear hc
   obtain ⟨v, HV⟩ : ∃ y, Hid (zs.getD k 0 = y) := ⟨_, rfl⟩
   rw [HV.out] at x1
   by_cases hv : v = x
   ·have HI : Hid (bb = true) := by
     rw [← HBB.out]
     refine decide_eq_true ?_
     rw [← hv, ← HV.out, List.getD_eq_getElem?_getD, List.getElem?_eq_getElem (by rw [HN.out]; exact hlt)]
     exact List.getElem_mem _
    have hb : (v == x) = true := by simp [hv]
    go_wp2
    go_ret
    exact ⟨by rw [HI.out]; rfl, rfl⟩
   ·have HP2 : Hid (∀ i, i < k + 1 → zs.getD i 0 ≠ x) := fun i hi => by
     by_cases e : i = k
     ·rw [e, HV.out]; exact hv
     ·exact HP.out i (by omega)
    have hb : (v == x) = false := by simp [hv]
    clear HP
    go_wp2
    go_roundw
    case rel => exact ⟨k + 1, by omega, by go_num, trivial, HP2⟩
    case measure => simp [intOf]; omega
  ·obtain rfl : k = n := by omega
   have HI : Hid (bb = false) := by
    rw [← HBB.out]
    refine decide_eq_false fun hx => ?_
    obtain ⟨i, hi, e⟩ := List.getElem_of_mem hx
    refine HP.out i (by rw [← HN.out]; exact hi) ?_
    rw [List.getD_eq_getElem?_getD, List.getElem?_eq_getElem hi]
    exact e
   go_wp2
   go_ret
   exact ⟨by rw [HI.out]; rfl, rfl⟩
section
variable {w wr w' : World} {A : Nat} {f : Int} {a : Option Addr} {n c : Nat} {l : Option Addr} {zl d : Nat} {v3 : Value} {L : List Int} {gg len cc : Nat}
end
end Go.Proofs.YtmhcdkbgjjibeaaGreatDoor
namespace Go.Proofs.YtmhcdkbgjjibeaaGreatDoor
theorem tot_mul {g h : Nat → Nat} {c : Nat} (hg : ∀ i, g i ≤ c + 10 * h i) (n : Nat) : tot g n ≤ c * n + 10 * tot h n := by
 induction n with
 | zero => exact Nat.zero_le _
 | succ n ih =>
  show tot g n + g n ≤ c * (n + 1) + 10 * (tot h n + h n)
  have := hg n
  rw [Nat.mul_succ]
  omega
theorem wkN_le (d : Nd) : wkN d ≤ 2 + 10 * wtN d := by
 have h1 := tot_mul (g := fun i => wkS (d.S i)) (h := fun i => wtS (d.S i)) (c := 10) (fun i => by unfold wkS wtS wtP; omega) d.n
 unfold wkN wtN wtL
 omega
theorem ofy_wt (k : Nat) (Y : Nat → Sy) (m : Nat) : ofy k Y m ≤ k + 9 * m + tot (fun i => wtY (Y i)) m := by
 induction m with
 | zero => simp [ofy, tot]
 | succ m ih =>
  show ofy k Y m + 9 + (Y m).p.m ≤ k + 9 * (m + 1) + (tot (fun i => wtY (Y i)) m + wtY (Y m))
  have : (Y m).p.m ≤ wtY (Y m) := by unfold wtY wtP; omega
  omega
theorem wtT_little {n : Nat} {N : Nat → Nd} {zs : List Int} {m : Nat} {Y : Nat → Sy} (h : wtT n N zs m Y ≤ 1048576) : (∀ i, i < n → NdQ (N i)) ∧ NtW n N zs m Y := by
 unfold wtT wtNs wtYs at h
 have hw : ∀ i, i < n → wtL (N i).n (N i).S ≤ 1048576 := fun i hi => by show wtN (N i) ≤ 1048576; have : wtN (N i) ≤ tot (fun i => wtN (N i)) n := tot_ge2 (g := fun i => wtN (N i)) hi; omega
 have hy : ∀ i, i < m → wtY (Y i) ≤ 1048576 := fun i hi => by have : wtY (Y i) ≤ tot (fun i => wtY (Y i)) m := tot_ge2 (g := fun i => wtY (Y i)) hi; omega
 refine ⟨fun i hi => ?_, by omega, fun i hi => ?_, by omega, by omega, fun i hi => ?_, ?_⟩
 ·obtain ⟨h1, h2, h3, _⟩ := wtL_little (hw i hi)
  exact ⟨h1, h3, h2⟩
 ·obtain ⟨h1, h2, _, _⟩ := wtL_little (hw i hi)
  exact ⟨h1, h2⟩
 ·have := hy i hi
  unfold wtY wtP at this
  omega
 ·have h1 := tot_mul (g := fun i => wkN (N i)) (h := fun i => wtN (N i)) (c := 2) (fun i => wkN_le (N i)) n
  have h2 := ofy_wt (mq2 n N zs) Y m
  unfold mq3
  unfold mq2 mq1 at h2 ⊢
  omega
theorem Tryz.infoNtL2 : (Tryz.prog.info? 26).map (·.size) = some 4 := by kernel_rfl
theorem rd_pcs {w : World} {n : Nat} {P : Nat → Pc} {a : Option Addr} {cap : Nat} (h : Rd w (pcsD n P) (.slice a n cap)) : PiAt w a n P := by
 intro i hi
 obtain ⟨b, off, y, ea, hy, hr⟩ := h.row hi
 have r5 : Rd w (txD (P i).m (P i).S) (y 5) := hr 5 (by omega)
 obtain ⟨ap, cp, e5⟩ := r5.shape
 rw [e5] at r5
 have g0 := hr 0 (by omega)
 have g1 := hr 1 (by omega)
 have g2 := hr 2 (by omega)
 have g3 := hr 3 (by omega)
 have g4 := hr 4 (by omega)
 simp only [Rd, pcD] at g0 g1 g2 g3 g4
 refine ⟨b, off, ap, cp, ea, fun q hq => ?_, rd_txt.1 r5⟩
 have := hy q hq
 rw [this]
 match q, hq with
 | 0, _ => rw [g0]; rfl
 | 1, _ => rw [g1]; rfl
 | 2, _ => rw [g2]; rfl
 | 3, _ => rw [g3]; rfl
 | 4, _ => rw [g4]; rfl
 | 5, _ => rw [e5]; rfl
theorem own_at {w w' : World} {B e s n cap g : Nat} {xs : List Value} (h : w.ownsRow B e s (.slice (some ⟨g, 0, none⟩) n cap) n xs) (hb : w'.heap[g]? = w.heap[g]?) : w'.ownsRow B e s (.slice (some ⟨g, 0, none⟩) n cap) n xs := by
 refine ⟨h.1, ?_⟩
 rcases h.2 with h' | ⟨g', cap', cur, h1, h2, h3, h4⟩
 ·exact .inl h'
 ·refine .inr ⟨g', cap', cur, h1, h2, ?_, h4⟩
  cases h1
  rw [hb]
  exact h3
theorem ow_piece {w : World} {B : Nat} {p : Pc} {v : Value} {F : Nat → Prop} (h : Ow w B (txD p.m p.S) v F) (q : Nat) (hq : q < 6) : Ow w B (pcD p q) ([Value.string p.r, .int .i64 p.k, .int .i64 p.n, .int .i64 p.i, .string p.b, v].getD q undef) (fun x => q = 5 ∧ F x) := by
 match q, hq with
 | 0, _ | 1, _ | 2, _ | 3, _ | 4, _ => rfl
 | 5, _ => exact Ow.mono h fun g hg => ⟨rfl, hg⟩
def hsB (N : Nat → Nd) (root : ByteArray) (i : Nat) : Bool := soB (N i).S root (N i).n && (soS (N i).S root (N i).n).h
def hsL (N : Nat → Nd) (root : ByteArray) (l : List Nat) : List Nat := l.filter (hsB N root)
def hsP (N : Nat → Nd) (root : ByteArray) (l : List Nat) (i : Nat) : Pc := (soS (N ((hsL N root l).getD i 0)).S root (N ((hsL N root l).getD i 0)).n).p
theorem hsL_snoc (N : Nat → Nd) (root : ByteArray) (l : List Nat) (x : Nat) : hsL N root (l ++ [x]) = if hsB N root x = true then hsL N root l ++ [x] else hsL N root l := by
 unfold hsL
 rw [List.filter_append]
 by_cases h : hsB N root x = true <;> simp [h]
theorem hsL_le (N : Nat → Nd) (root : ByteArray) (l : List Nat) : (hsL N root l).length ≤ l.length := List.length_filter_le _ _
structure PcI (w : World) (g : Nat) (K : World → Prop) (N : Nat → Nd) (root : ByteArray) (l : List Nat) (v : Value) (len : Nat) (wr : World) : Prop where
 op : Ow wr w.heap.size (pcsD len (hsP N root l)) v (fun x => rng w.heap.size wr.heap.size x ∧ x ≠ g)
 rs : K wr
 gl : g < wr.heap.size
 ln : (hsL N root l).length = len
 bw : Below w.heap.size w wr
section
variable {w wr w5 w6 w' : World} {g : Nat} {K : World → Prop} {N : Nat → Nd} {root : ByteArray} {l : List Nat} {v : Value} {len : Nat}
theorem PcI.below (h : PcI w g K N root l v len wr) (hK : ∀ W W', W'.heap[g]? = W.heap[g]? → K W → K W') (hb : Below wr.heap.size wr w') : PcI w g K N root l v len w' :=
 ⟨(h.op.below hb).mono (fun _ hx => ⟨⟨hx.1.1, Nat.lt_of_lt_of_le hx.1.2 hb.size⟩, hx.2⟩), hK _ _ (hb.block g h.gl) h.rs, Nat.lt_of_lt_of_le h.gl hb.size, h.ln, below2 h.bw hb⟩
theorem PcI.skip {x : Nat} (h : PcI w g K N root l v len wr) (hx : hsB N root x = false) : PcI w g K N root (l ++ [x]) v len wr := by
 have e : hsL N root (l ++ [x]) = hsL N root l := by rw [hsL_snoc, if_neg (by rw [hx]; decide)]
 exact ⟨h.op.congr (fun i q _ _ => by unfold hsP; rw [e]), h.rs, h.gl, by rw [e]; exact h.ln, h.bw⟩
theorem PcI.grow {x g3 cap : Nat} {tp : Pc} {H : Nat → Nat → Prop} (h : PcI w g K N root l v len wr) (hK : ∀ W W', W'.heap[g]? = W.heap[g]? → K W → K W') (b5 : Below wr.heap.size wr w5) (hx : hsB N root x = true) (hT : (soS (N x).S root (N x).n).p = tp)
  (O6 : Ow w6 w.heap.size (.lst 49 6 (len + 1) (fun i => if i = len then pcD tp else pcD (hsP N root l i))) (.slice (some ⟨g3, 0, none⟩) (len + 1) cap) (fun y => y < w6.heap.size ∧ (((rng w.heap.size wr.heap.size y ∧ y ≠ g) ∨ ∃ q, q < 6 ∧ H q y) ∨ w5.heap.size ≤ y)))
  (b6 : Below w.heap.size w5 w6) (hs : ∀ y, y < w5.heap.size → ¬ (rng w.heap.size wr.heap.size y ∧ y ≠ g) → w6.heap[y]? = w5.heap[y]?) (hH : ∀ q y, q < 6 → H q y → wr.heap.size ≤ y) : PcI w g K N root (l ++ [x]) (.slice (some ⟨g3, 0, none⟩) (len + 1) cap) (len + 1) w6 := by
 have e : hsL N root (l ++ [x]) = hsL N root l ++ [x] := by rw [hsL_snoc, if_pos hx]
 have h5 := h.below hK b5
 have hw := h.bw.size
 have hg := h.gl
 have s5 := b5.size
 refine ⟨(O6.mono (fun y hy => ?_)).congr (fun i q hi _ => ?_), hK _ _ (hs g h5.gl (fun k => k.2 rfl)) h5.rs, Nat.lt_of_lt_of_le h5.gl b6.size, by rw [e, List.length_append, h.ln]; rfl, h5.bw.trans b6⟩
 ·rcases hy.2 with (h1 | ⟨q, hq, h1⟩) | h1
  ·exact ⟨⟨h1.1.1, hy.1⟩, h1.2⟩
  ·have := hH q y hq h1
   exact ⟨⟨by omega, hy.1⟩, by omega⟩
  ·exact ⟨⟨by omega, hy.1⟩, by omega⟩
 ·by_cases ei : i = len
  ·rw [if_pos ei, ← hT]
   unfold hsP
   rw [e, ei, ← h.ln]
   simp
  ·rw [if_neg ei]
   have e1 : (hsL N root l ++ [x]).getD i 0 = (hsL N root l).getD i 0 := by
    rw [List.getD_eq_getElem?_getD, List.getD_eq_getElem?_getD, List.getElem?_append_left (by have := h.ln; omega)]
   unfold hsP
   rw [e, e1]
end
theorem ow_pnil (w : World) (B : Nat) (P : Nat → Pc) (hB : B ≤ w.heap.size) {F : Nat → Prop} (hF : F w.heap.size) : Ow (w.alloc (.cells #[] 49)) B (pcsD 0 P) (.slice (some ⟨w.heap.size, 0, none⟩) 0 0) F := by
 have hown := World.ownsRow_lit (e := 49) (size := 6) (base := B) w #[] 0 hB (by unfold maxLen; omega) rfl
 refine ⟨_, _, fun _ _ => undef, fun _ _ _ => False, rfl, by simpa [cL] using hown, ⟨fun x e => ?_, fun _ _ _ hi => absurd hi (Nat.not_lt_zero _), fun _ _ _ hi => absurd hi (Nat.not_lt_zero _), fun _ _ _ _ _ hi => absurd hi (Nat.not_lt_zero _)⟩, fun _ _ hi => absurd hi (Nat.not_lt_zero _)⟩
 cases e
 exact hF
theorem Tryz.infoPcZ : (Tryz.prog.info? 49).map (fun i => (i.zero, i.size, i.bytes)) = some (some (.agg #[.string ByteArray.empty, .int .i64 0, .int .i64 0, .int .i64 0, .string ByteArray.empty, .slice none 0 0]), 6, 80) := by kernel_rfl
theorem netPieces_any (f : Int) (a : Option Addr) (n c : Nat) (l : Option Addr) (d : Nat) (zs : List Int) (v3 : Value) (N : Nat → Nd) (root : ByteArray) (w : World) (h : Rd w (ndsD n N) (.slice a n c)) (hl : IntsAt w l zs.length zs) (hn : n ≤ 1048576) (hz : zs.length ≤ 1048576) (hQ : ∀ i, i < n → NdQ (N i)) :
  Calls Tryz.prog 26 #[ntV f (.slice a n c) (.slice l zs.length d) v3, .string root] w fun e w' => ∃ gg cc F, e = .returned (.slice (some ⟨gg, 0, none⟩) (hsL N root (kl (lyP zs) n)).length cc) ∧ Ow w' w.heap.size (pcsD (hsL N root (kl (lyP zs) n)).length (hsP N root (kl (lyP zs) n))) (.slice (some ⟨gg, 0, none⟩) (hsL N root (kl (lyP zs) n)).length cc) F ∧ Below w.heap.size w w' := by
 obtain ⟨i0, hi, hz0, hz1, hz2⟩ := info_parts Tryz.infoPcZ
 obtain ⟨A, HA⟩ : ∃ x, Hid (x = w.heap.size) := ⟨_, rfl⟩
 obtain ⟨g0, HG0⟩ : ∃ x, Hid (x = w.heap.size + 1) := ⟨_, rfl⟩
 obtain ⟨w0, HW0⟩ : ∃ x, Hid (x = (w.alloc (.cells #[.int .i64 f, .slice a n c, .slice l zs.length d, v3] 35)).alloc (.cells #[] 49)) := ⟨_, rfl⟩
 have RA : Hid (Row w0 A 35 #[.int .i64 f, .slice a n c, .slice l zs.length d, v3]) := by show Row _ _ _ _; rw [HW0.out, HA.out]; exact Row.alloc (Row.new w _ _) _
 have b0 : Below w.heap.size w w0 := by rw [HW0.out]; exact ((Below.refl _ _).alloc (Nat.le_refl _) _).alloc (by simp) _
 have hs0 : w0.heap.size = w.heap.size + 2 := by rw [HW0.out]; simp
 have HO0 : Hid (∀ F : Nat → Prop, F g0 → Ow w0 w.heap.size (pcsD 0 (hsP N root [])) (.slice (some ⟨g0, 0, none⟩) 0 0) F) := fun F hF => by
  have e : (w.alloc (.cells #[.int .i64 f, .slice a n c, .slice l zs.length d, v3] 35)).heap.size = g0 := by rw [HG0.out]; simp
  have := ow_pnil (w.alloc (.cells #[.int .i64 f, .slice a n c, .slice l zs.length d, v3] 35)) w.heap.size (hsP N root []) (by simp) (F := F) (e ▸ hF)
  rw [e] at this
  rw [HW0.out]
  exact this
 have KH : Hid _ := honest_any f a n c l d zs v3 N w w0 b0 h (hl.below b0) hn hz
 obtain ⟨m, HM⟩ : ∃ x, Hid ((kl (lyP zs) n).length = x) := ⟨_, rfl⟩
 have hmn : m ≤ n := by rw [← HM.out]; exact kl_le _ _
 rw [HM.out] at KH
 have KB0 : Hid (Below w.heap.size w w0) := b0
 have hin : ∀ t, t < m → (kl (lyP zs) n).getD t 0 < n := fun t ht => by
  rw [← HM.out] at ht
  rw [List.getD_eq_getElem?_getD, List.getElem?_eq_getElem ht]
  exact List.mem_range.1 (List.mem_filter.1 (List.getElem_mem ht)).1
 have KQ : Hid (∀ t, t < m → (kl (lyP zs) n).getD t 0 < n ∧ NdQ (N ((kl (lyP zs) n).getD t 0))) := fun t ht => ⟨hin t ht, hQ _ (hin t ht)⟩
 clear h hl b0 hQ hin
 go_enter Tryz.func26, Tryz.ntmps26
 go_wp2_with (rw [← HW0.out, ← HG0.out, ← HA.out]; refine wpList_load_row (by rfl) 35 _ (by rfl) A (by rfl) 35 #[.int .i64 f, .slice a n c, .slice l zs.length d, v3] (0, 0) _ ?_ Tryz.underlying35 (by rfl) Tryz.infoNt ?_; exact RA.out)
 refine Calls.mono KH.out ?_
 rintro e w1 ⟨g, z, rfl, ho, hr, b1⟩
 have hgl := World.ownsRow.lt ho g rfl
 have HK : Hid (∀ W W' : World, W'.heap[g]? = W.heap[g]? → W.ownsRow w.heap.size 101 5 (.slice (some ⟨g, 0, none⟩) n n) n (cL 5 z n) → W'.ownsRow w.heap.size 101 5 (.slice (some ⟨g, 0, none⟩) n n) n (cL 5 z n)) := fun W W' e h => own_at h e
 have H1 : Hid (PcI w g (fun W => W.ownsRow w.heap.size 101 5 (.slice (some ⟨g, 0, none⟩) n n) n (cL 5 z n)) N root [] (.slice (some ⟨g0, 0, none⟩) 0 0) 0 w1) := ⟨(HO0.out (fun x => rng w.heap.size w1.heap.size x ∧ x ≠ g) ⟨⟨by have := HG0.out; omega, by have := HG0.out; have := b1.size; omega⟩, by have := HG0.out; have := hgl.1; omega⟩).below b1, own_base ho KB0.out.size, hgl.2, rfl, below2 KB0.out b1⟩
 have KR : Hid (∀ t, t < m → ∀ q, q < 5 → Rd w (stD (N ((kl (lyP zs) n).getD t 0)) ((kl (lyP zs) n).getD t 0) f q) (z t q)) := hr
 clear ho hr b1 KH hgl hs0 HO0
 go_wp2
 go_loopw [5, 14] (fun v vi wr => ∃ (t gg len cc : Nat), t ≤ m ∧ len ≤ t ∧ Hid (PcI w g (fun W => W.ownsRow w.heap.size 101 5 (.slice (some ⟨g, 0, none⟩) n n) n (cL 5 z n)) N root ((kl (lyP zs) n).take t) (.slice (some ⟨gg, 0, none⟩) len cc) len wr) ∧ v = .slice (some ⟨gg, 0, none⟩) len cc ∧ vi = .int .i64 (t : Int)) (fun _ vi _ => m - (intOf vi).toNat)
 case atStart => exact ⟨0, g0, 0, 0, Nat.zero_le _, Nat.le_refl _, H1, rfl, rfl⟩
 case round =>
  obtain ⟨t, gg, len, cc, ht, hlt', HD, rfl, rfl⟩ := hrel
  clear H1
  by_cases hlt : t < m
  ·have hti : (t : Int) < (m : Int) := by omega
   obtain ⟨an, cn, e0, e1, e2, e3, e4, hrd⟩ := st_cells (KR.out t hlt)
   obtain ⟨hxn, hq⟩ := KQ.out t hlt
   have HTK : Hid ((kl (lyP zs) n).take (t + 1) = (kl (lyP zs) n).take t ++ [(kl (lyP zs) n).getD t 0]) := take_one (by rw [HM.out]; exact hlt)
   have R1' := row_range HD.out.rs (show t < n by omega)
   obtain ⟨x, HX⟩ : ∃ v, Hid ((kl (lyP zs) n).getD t 0 = v) := ⟨_, rfl⟩
   rw [HX.out] at e0 e1 e2 e3 hrd hq hxn HTK
   obtain ⟨nd, HND⟩ : ∃ v, Hid (N x = v) := ⟨_, rfl⟩
   obtain ⟨T, HT⟩ : ∃ v, Hid (soS nd.S root nd.n = v) := ⟨_, rfl⟩
   obtain ⟨okv, HOK⟩ : ∃ v, Hid (soB nd.S root nd.n = v) := ⟨_, rfl⟩
   rw [HND.out] at e0 e1 e2 hrd hq
   rw [e0, e1, e2, e3, e4] at R1'
   have R1 : Hid (wr.rangeAt g (t * 5) [.int .i64 nd.i, .int .i64 nd.f, .slice an nd.n cn, .int .i64 (x : Int), .int .i64 f]) := R1'
   obtain ⟨V, HV⟩ : ∃ v, Hid (v = wr.heap.size) := ⟨_, rfl⟩
   obtain ⟨w2, HW2⟩ : ∃ v, Hid (v = wr.alloc (.cells #[.int .i64 nd.i, .int .i64 nd.f, .slice an nd.n cn, .int .i64 (x : Int), .int .i64 f] 101)) := ⟨_, rfl⟩
   have b2 : Below wr.heap.size wr w2 := by rw [HW2.out]; exact (Below.refl _ _).alloc (Nat.le_refl _) _
   have RV : Hid (Row w2 V 101 #[.int .i64 nd.i, .int .i64 nd.f, .slice an nd.n cn, .int .i64 (x : Int), .int .i64 f]) := by show Row _ _ _ _; rw [HW2.out, HV.out]; exact Row.new wr _ _
   have hsz2 : w2.heap.size = wr.heap.size + 1 := by rw [HW2.out]; simp
   have KB2 : Hid (Below wr.heap.size wr w2 ∧ Below w.heap.size w w2 ∧ w2.heap.size = wr.heap.size + 1) := ⟨b2, below2 HD.out.bw b2, hsz2⟩
   have KC : Hid (Calls Tryz.prog 50 #[ndV nd.i nd.f (.slice an nd.n cn), .string root] w2 fun e w' => ∃ (a6 a11 a12 : Option Addr) (c6 c11 c12 : Nat) (F6 F11 F12 : Nat → Prop), e = .returned (.tuple #[slV T (.slice a6 T.p.m c6) (.slice a11 T.ze.length c11) (.slice a12 T.zr.length c12), .bool okv]) ∧ SlO w' w2.heap.size T (.slice a6 T.p.m c6) (.slice a11 T.ze.length c11) (.slice a12 T.zr.length c12) F6 F11 F12 ∧ Below w2.heap.size w2 w') := by
    have := slotOf_any nd.i nd.f an nd.n cn nd.S root w2 (hrd.below KB2.out.2.1) hq.n hq.k
    rw [HT.out, HOK.out] at this
    exact this
   have HSk : Hid (∀ W, Below wr.heap.size wr W → (okv && T.h) = false → PcI w g (fun W => W.ownsRow w.heap.size 101 5 (.slice (some ⟨g, 0, none⟩) n n) n (cL 5 z n)) N root ((kl (lyP zs) n).take (t + 1)) (.slice (some ⟨gg, 0, none⟩) len cc) len W) := fun W hb hf => by
    rw [HTK.out]
    refine (HD.out.below HK.out hb).skip ?_
    unfold hsB
    rw [HND.out, HT.out, HOK.out]
    exact hf
   have HGr : Hid (∀ W5 W6 g3 cap (H : Nat → Nat → Prop), Below wr.heap.size wr W5 → (okv && T.h) = true → Ow W6 w.heap.size (.lst 49 6 (len + 1) (fun i => if i = len then pcD T.p else pcD (hsP N root ((kl (lyP zs) n).take t) i))) (.slice (some ⟨g3, 0, none⟩) (len + 1) cap) (fun y => y < W6.heap.size ∧ (((rng w.heap.size wr.heap.size y ∧ y ≠ g) ∨ ∃ q, q < 6 ∧ H q y) ∨ W5.heap.size ≤ y)) → Below w.heap.size W5 W6 → (∀ y, y < W5.heap.size → ¬ (rng w.heap.size wr.heap.size y ∧ y ≠ g) → W6.heap[y]? = W5.heap[y]?) → (∀ q y, q < 6 → H q y → wr.heap.size ≤ y) → PcI w g (fun W => W.ownsRow w.heap.size 101 5 (.slice (some ⟨g, 0, none⟩) n n) n (cL 5 z n)) N root ((kl (lyP zs) n).take (t + 1)) (.slice (some ⟨g3, 0, none⟩) (len + 1) cap) (len + 1) W6) := fun W5 W6 g3 cap H h1 h2 h3 h4 h5 h6 => by
    rw [HTK.out]
    refine PcI.grow HD.out HK.out h1 ?_ ?_ h3 h4 h5 h6
    ·unfold hsB
     rw [HND.out, HT.out, HOK.out]
     exact h2
    ·rw [HND.out, HT.out]
   have HOp : Hid (Ow wr w.heap.size (pcsD len (hsP N root ((kl (lyP zs) n).take t))) (.slice (some ⟨gg, 0, none⟩) len cc) (fun x => rng w.heap.size wr.heap.size x ∧ x ≠ g)) := HD.out.op
   have HBw : Hid (Below w.heap.size w wr) := HD.out.bw
   clear e0 e1 e2 e3 e4 hrd hxn hq R1' b2 hsz2 HTK HX HND HT HOK HD
   cases hok : okv with
   | false =>
    rw [hok] at KC HSk
    clear hok HGr HOp
    go_wp2_with (refine wpList_load_mid (by rfl) 101 _ (by rfl) g (t * 5) (by rfl) [.int .i64 nd.i, .int .i64 nd.f, .slice an nd.n cn, .int .i64 (x : Int), .int .i64 f] _ ?_ Tryz.underlying101 (by rfl) Tryz.infoSt ?_; exact R1.out)
    rw [← HW2.out, ← HV.out]
    refine Calls.mono KC.out ?_
    rintro e w3 ⟨a6, a11, a12, c6, c11, c12, F6, F11, F12, rfl, SO3, b3⟩
    obtain ⟨G, HG⟩ : ∃ v, Hid (v = w3.heap.size) := ⟨_, rfl⟩
    obtain ⟨w4, HW4⟩ : ∃ v, Hid (v = w3.alloc (.cells (slC T (.slice a6 T.p.m c6) (.slice a11 T.ze.length c11) (.slice a12 T.zr.length c12)) 76)) := ⟨_, rfl⟩
    have b4 : Below w3.heap.size w3 w4 := by rw [HW4.out]; exact (Below.refl _ _).alloc (Nat.le_refl _) _
    have RG : Hid (Row w4 G 76 (slC T (.slice a6 T.p.m c6) (.slice a11 T.ze.length c11) (.slice a12 T.zr.length c12))) := by show Row _ _ _ _; rw [HW4.out, HG.out]; exact Row.new w3 _ _
    have B4 : Hid (Below wr.heap.size wr w4) := below2 KB2.out.1 (below2 b3 b4)
    have HSO : Hid (Ow w4 w2.heap.size (txD T.p.m T.p.S) (.slice a6 T.p.m c6) (fun y => F6 y ∧ w2.heap.size ≤ y ∧ y < w3.heap.size)) := SO3.t.cut.below b4
    have y7 := RG.out.cell 7
    simp at y7
    clear b3 b4 KC R1 RV SO3
    have HS2 : Hid _ := HSk.out w4 B4.out rfl
    go_wp2
    rw [← HW4.out]
    go_roundw
    case rel => exact ⟨t + 1, gg, len, cc, by omega, by omega, HS2, rfl, by go_num⟩
    case measure => simp [intOf]; omega
   | true =>
    rw [hok] at KC HSk HGr
    clear hok
    cases hto : T.h with
    | false =>
     have HTO : Hid (T.h = false) := hto
     clear hto HGr HOp
     go_wp2_with (refine wpList_load_mid (by rfl) 101 _ (by rfl) g (t * 5) (by rfl) [.int .i64 nd.i, .int .i64 nd.f, .slice an nd.n cn, .int .i64 (x : Int), .int .i64 f] _ ?_ Tryz.underlying101 (by rfl) Tryz.infoSt ?_; exact R1.out)
     rw [← HW2.out, ← HV.out]
     refine Calls.mono KC.out ?_
     rintro e w3 ⟨a6, a11, a12, c6, c11, c12, F6, F11, F12, rfl, SO3, b3⟩
     obtain ⟨G, HG⟩ : ∃ v, Hid (v = w3.heap.size) := ⟨_, rfl⟩
     obtain ⟨w4, HW4⟩ : ∃ v, Hid (v = w3.alloc (.cells (slC T (.slice a6 T.p.m c6) (.slice a11 T.ze.length c11) (.slice a12 T.zr.length c12)) 76)) := ⟨_, rfl⟩
     have b4 : Below w3.heap.size w3 w4 := by rw [HW4.out]; exact (Below.refl _ _).alloc (Nat.le_refl _) _
     have RG : Hid (Row w4 G 76 (slC T (.slice a6 T.p.m c6) (.slice a11 T.ze.length c11) (.slice a12 T.zr.length c12))) := by show Row _ _ _ _; rw [HW4.out, HG.out]; exact Row.new w3 _ _
     have B4 : Hid (Below wr.heap.size wr w4) := below2 KB2.out.1 (below2 b3 b4)
     have HSO : Hid (Ow w4 w2.heap.size (txD T.p.m T.p.S) (.slice a6 T.p.m c6) (fun y => F6 y ∧ w2.heap.size ≤ y ∧ y < w3.heap.size)) := SO3.t.cut.below b4
     have y7 := RG.out.cell 7
     simp at y7
     clear b3 b4 KC R1 RV SO3
     have HS2 : Hid _ := HSk.out w4 B4.out (by rw [HTO.out]; rfl)
     rw [HTO.out] at y7
     go_upto_region 6 with fail
     rw [← HW4.out, ← HG.out]
     go_wp2
     go_roundw
     case rel => exact ⟨t + 1, gg, len, cc, by omega, by omega, HS2, rfl, by go_num⟩
     case measure => simp [intOf]; omega
    | true =>
     have HTO : Hid (T.h = true) := hto
     clear hto HSk
     go_wp2_with (refine wpList_load_mid (by rfl) 101 _ (by rfl) g (t * 5) (by rfl) [.int .i64 nd.i, .int .i64 nd.f, .slice an nd.n cn, .int .i64 (x : Int), .int .i64 f] _ ?_ Tryz.underlying101 (by rfl) Tryz.infoSt ?_; exact R1.out)
     rw [← HW2.out, ← HV.out]
     refine Calls.mono KC.out ?_
     rintro e w3 ⟨a6, a11, a12, c6, c11, c12, F6, F11, F12, rfl, SO3, b3⟩
     obtain ⟨G, HG⟩ : ∃ v, Hid (v = w3.heap.size) := ⟨_, rfl⟩
     obtain ⟨w4, HW4⟩ : ∃ v, Hid (v = w3.alloc (.cells (slC T (.slice a6 T.p.m c6) (.slice a11 T.ze.length c11) (.slice a12 T.zr.length c12)) 76)) := ⟨_, rfl⟩
     have b4 : Below w3.heap.size w3 w4 := by rw [HW4.out]; exact (Below.refl _ _).alloc (Nat.le_refl _) _
     have RG : Hid (Row w4 G 76 (slC T (.slice a6 T.p.m c6) (.slice a11 T.ze.length c11) (.slice a12 T.zr.length c12))) := by show Row _ _ _ _; rw [HW4.out, HG.out]; exact Row.new w3 _ _
     have B4 : Hid (Below wr.heap.size wr w4) := below2 KB2.out.1 (below2 b3 b4)
     have HSO : Hid (Ow w4 w2.heap.size (txD T.p.m T.p.S) (.slice a6 T.p.m c6) (fun y => F6 y ∧ w2.heap.size ≤ y ∧ y < w3.heap.size)) := SO3.t.cut.below b4
     have y7 := RG.out.cell 7
     simp at y7
     clear b3 b4 KC R1 RV SO3
     rw [HTO.out] at y7
     have y1 := RG.out.cell 1
     have y2 := RG.out.cell 2
     have y3 := RG.out.cell 3
     have y4 := RG.out.cell 4
     have y5 := RG.out.cell 5
     have y6 := RG.out.cell 6
     simp at y1 y2 y3 y4 y5 y6
     obtain ⟨w5, HW5⟩ : ∃ v, Hid (v = w4.alloc (.cells #[.string T.p.r, .int .i64 T.p.k, .int .i64 T.p.n, .int .i64 T.p.i, .string T.p.b, .slice a6 T.p.m c6] 49)) := ⟨_, rfl⟩
     have b5 : Below w4.heap.size w4 w5 := by rw [HW5.out]; exact (Below.refl _ _).alloc (Nat.le_refl _) _
     have HNE : Hid (∀ j u, ([.string T.p.r, .int .i64 T.p.k, .int .i64 T.p.n, .int .i64 T.p.i, .string T.p.b, .slice a6 T.p.m c6] : List Value)[j]? = some u → w5.cell? ((⟨w4.heap.size, 0, none⟩ : Addr).add j) = some u) := by rw [HW5.out]; exact World.news_of_block (cs := #[.string T.p.r, .int .i64 T.p.k, .int .i64 T.p.n, .int .i64 T.p.i, .string T.p.b, .slice a6 T.p.m c6]) (t := 49) (fr := (0, 0)) (heap_alloc_new w4 _)
     have B5 : Hid (Below wr.heap.size wr w5) := below2 B4.out b5
     have HO5 : Hid (Ow w5 w.heap.size (pcsD len (hsP N root ((kl (lyP zs) n).take t))) (.slice (some ⟨gg, 0, none⟩) len cc) (fun x => rng w.heap.size wr.heap.size x ∧ x ≠ g)) := HOp.out.below B5.out
     have HP5 : Hid (∀ q, q < 6 → Ow w5 w.heap.size (pcD T.p q) (([.string T.p.r, .int .i64 T.p.k, .int .i64 T.p.n, .int .i64 T.p.i, .string T.p.b, .slice a6 T.p.m c6] : List Value).getD q undef) (fun y => q = 5 ∧ (F6 y ∧ w2.heap.size ≤ y ∧ y < w3.heap.size))) := fun q hq => ow_piece ((HSO.out.below b5).base (KB2.out.2.1.size)) q hq
     have HHH : Hid (∀ q y, q < 6 → (q = 5 ∧ (F6 y ∧ w2.heap.size ≤ y ∧ y < w3.heap.size)) → wr.heap.size + 1 ≤ y) := fun q y _ hy => by have := hy.2.2.1; have := KB2.out.2.2; show _ ≤ _; omega
     have sB : w.heap.size ≤ w5.heap.size := (below2 HBw.out B5.out).size
     have HSB : Hid (w.heap.size ≤ w5.heap.size) := sB
     clear b5 sB
     go_upto_region 6 with fail
     rw [← HW4.out, ← HG.out]
     go_wp2_with (at_builtin; rw [← HW5.out]; refine (show True → _ from ?_) trivial)
     intro _
     refine wpList_snoc w5 (by rfl) _ _ 37 (by rfl) w.heap.size 49 i0 (.agg #[.string ByteArray.empty, .int .i64 0, .int .i64 0, .int .i64 0, .string ByteArray.empty, .slice none 0 0]) 6 80 Tryz.underlying37 hi hz0 hz1 hz2 rfl (by decide) (.slice (some ⟨gg, 0, none⟩) len cc) len _ _ (by rfl) HO5.out ⟨w4.heap.size, 0, none⟩ 1 [.string T.p.r, .int .i64 T.p.k, .int .i64 T.p.n, .int .i64 T.p.i, .string T.p.b, .slice a6 T.p.m c6] (by rfl) rfl HNE.out (by simp [Value.oneCell']) (pcD T.p) _ HP5.out ?_ ?_ (by unfold maxLen; omega) (by omega) HSB.out ?_
     ·intro q y hq hy hf
      have := HHH.out q y hq hy
      have := hf.1.2
      omega
     ·intro q q' y _ _ hy hy'
      exact hy.1.trans hy'.1.symm
     intro g3 cap3 w6 O6 b6 hs6
     have HS2 : Hid _ := HGr.out w5 w6 g3 cap3 _ B5.out (by rw [HTO.out]; rfl) O6 b6 hs6 (fun q y hq hy => by have := HHH.out q y hq hy; omega)
     clear O6 b6 hs6
     go_wp2
     go_roundw
     case rel => exact ⟨t + 1, g3, len + 1, cap3, by omega, by omega, HS2, rfl, by go_num⟩
     case measure => simp [intOf]; omega
  ·obtain rfl : t = m := by omega
   have HF : Hid ((hsL N root (kl (lyP zs) n)).length = len ∧ Ow wr w.heap.size (pcsD len (hsP N root (kl (lyP zs) n))) (.slice (some ⟨gg, 0, none⟩) len cc) (fun x => rng w.heap.size wr.heap.size x ∧ x ≠ g) ∧ Below w.heap.size w wr) := by
    have e : (kl (lyP zs) n).take t = kl (lyP zs) n := by rw [← HM.out, List.take_length]
    have h1 := HD.out
    rw [e] at h1
    exact ⟨h1.ln, h1.op, h1.bw⟩
   clear HD
   go_wp2
   go_ret
   refine ⟨gg, cc, (fun x => rng w.heap.size wr.heap.size x ∧ x ≠ g), ?_, ?_, HF.out.2.2⟩
   ·rw [HF.out.1]; rfl
   ·rw [HF.out.1]; exact HF.out.2.1
end Go.Proofs.YtmhcdkbgjjibeaaGreatDoor
