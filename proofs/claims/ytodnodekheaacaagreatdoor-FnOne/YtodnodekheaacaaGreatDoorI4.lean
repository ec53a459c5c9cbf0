import Derived.WalkKit
import Derived.ProofKit
import Derived.Laws.Tables
import Derived.Laws.Rows
import Derived.Great.BuildSlice
set_option maxHeartbeats 8000000
set_option maxRecDepth 2000
namespace Go.Proofs.YtodnodekheaacaaGreatDoor
theorem setRow_alloc (w : World) (zs cells : Array Value) (t : TypeId) : (w.alloc (.cells zs t)).setRow w.heap.size cells = w.alloc (.cells cells t) := by
 unfold World.setRow World.alloc
 congr 1
 apply Array.ext
 ·simp
 ·intro i h1 h2
  simp only [Array.getElem_modify, Array.getElem_push]
  split
  ·rename_i h
   subst h
   simp
  ·rename_i h
   have : i < w.heap.size := by simp at h2; omega
   simp [this]
theorem wpList_table {P : Program} {ops : Array Oper} {rest : List Oper} {o1 o2 o3 : Oper} {a : Act} {w : World} {Q : Exit → Act → World → Prop}
  (g1 : o1.guard = none) (g2 : o2.guard = none) (g3 : o3.guard = none) (t e : TypeId) (n : Nat) (parts : Array (Nat × Operand)) (x y : Operand) (k : IntKind) (zs : List Int)
  (h1 : o1.op = .build t parts) (h2 : o2.op = .alloc t) (h3 : o3.op = .store t x y)
  (hu : P.underlying t = some (.array n e)) (hsz : (P.info? e).map (·.size) = some 1) (hz : ((P.info? t).bind (·.zero)).map (·.cells.size) = some zs.length)
  (hparts : parts.toList = (zs.zipIdx 0).map fun x => (x.2, Operand.const (Value.int k x.1)))
  (hi : (P.info? t).map (·.size) = some zs.length)
  (d1 d2 : Tmp) (e1 : o1.dst = some d1) (e2 : o2.dst = some d2) (e3 : o3.dst = none) (hx : x = .tmp d2) (hy : y = .tmp d1) (hd : d1 ≠ d2) (b1 : d1 < a.tmps.size) (b2 : d2 < a.tmps.size)
  (h : wpList P ops Q rest ((a.put (some d1) (.agg (zs.map (Value.int k)).toArray)).put (some d2) (.pointer (some ⟨w.heap.size, 0, none⟩))) (w.alloc (.cells (zs.map (Value.int k)).toArray t))) :
  wpList P ops Q (o1 :: o2 :: o3 :: rest) a w := by
 refine wpList_buildFlatArrTo g1 t e n parts h1 k zs (some d1) e1 hu hsz hz hparts ?_
 refine wpList_plain g2 fun K hK => ?_
 cases hit : P.info? t with
 | none => simp [hit] at hz
 | some it =>
  cases hzz : it.zero with
  | none => simp [hit, hzz] at hz
  | some z =>
   simp only [hit, hzz, Option.map_some, Option.some.injEq, Option.bind_some] at hz hi
   have hal : (Instr.alloc t true (.tuple #[])).run P w = .ok (.pointer (some ⟨w.heap.size, 0, none⟩)) (w.alloc (.cells z.cells t)) := by
    have ha : (zeroValue t).run P w = .ok z w := by simp [zeroValue, typeInfo, hit, hzz]
    unfold Instr.alloc
    simp only [Sem.run_bind, ha, Result.andThen_ok]
    rfl
   unfold Oper.wp execOp
   simp only [h2, Sem.run_bind, hal, Result.andThen_ok]
   refine hK _ _ ?_
   rw [e2]
   subst hx hy
   refine wpList_store_rowTo g3 t _ _ h3 e3 w.heap.size (zs.map (Value.int k)).toArray ?_ ?_ t z.cells (heap_alloc_new w _) (by simp [hit, hi]) (by simp [hz]) ?_ ?_
   ·simp [Act.put, Act.eval, b2]
   ·simp [Act.put, Act.eval, b1, Ne.symm hd]
   ·simp [Value.oneCell']
   ·rw [setRow_alloc]
    exact h
end Go.Proofs.YtodnodekheaacaaGreatDoor
