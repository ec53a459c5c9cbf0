/- Rows of 64 texts and a number, as the program has them: what is built, laid, loaded and stored of one, as laws of the walk. No condition but what each says. -/
import Derived.Test.YtahgdbmilflcmaaStrs
import Derived.Test.YtahgdbmilflcmaaTRange
import Derived.Test.YtahgdbmilflcmaaLaws
import Derived.Test.YtahgdbmilflcmaaTSums
namespace Go.Proofs.Ytahgdbmilflcmaa
set_option maxRecDepth 2000
open Go.RowKit

/-- The cells of a row: 64 texts, and how many count. -/
def rowC (T : Nat → ByteArray) (m : Nat) : Array Value := (sL T 64 ++ [Value.int .i64 (m : Int)]).toArray
theorem rowC_size (T : Nat → ByteArray) (m : Nat) : (rowC T m).size = 65 := by simp [rowC, sL]
theorem rowC_get (T : Nat → ByteArray) (m i : Nat) (h : i < 64) : (rowC T m)[i]? = some (.string (T i)) := by
  unfold rowC
  rw [List.getElem?_toArray, List.getElem?_append_left (by rw [sL_len]; exact h), sL_get _ _ _ h]
theorem rowC_last (T : Nat → ByteArray) (m : Nat) : (rowC T m)[64]? = some (.int .i64 (m : Int)) := by
  unfold rowC
  rw [List.getElem?_toArray, List.getElem?_append_right (by rw [sL_len]; exact Nat.le_refl _), sL_len]
  rfl
theorem rowC_set (T : Nat → ByteArray) (m i : Nat) (s : ByteArray) (h : i < 64) : (rowC T m).setIfInBounds i (.string s) = rowC (fun j => if j = i then s else T j) m := by
  apply Array.ext'
  unfold rowC
  rw [Array.toList_setIfInBounds, List.toList_toArray, List.toList_toArray, List.set_append_left _ _ (by rw [sL_len]; exact h), sL_set _ _ _ _ h]
theorem rowC_congr {T T' : Nat → ByteArray} (m : Nat) (h : ∀ i, i < 64 → T i = T' i) : rowC T m = rowC T' m := by unfold rowC; rw [sL_congr h]
theorem rowC_one (T : Nat → ByteArray) (m : Nat) : (rowC T m).all (·.oneCell') = true := by
  unfold rowC
  simp [sL, Value.oneCell']
/-- A row, as the value that it is. -/
def RwV (T : Nat → ByteArray) (m : Nat) : Value := .agg (rowC T m)
def noT : Nat → ByteArray := fun _ => ByteArray.empty
theorem Try.infoRw : (Try.prog.info? 61).map (·.size) = some 65 := by kernel_rfl
theorem Try.zeroRw : (Try.prog.info? 61).bind (·.zero) = some (RwV noT 0) := by kernel_rfl
theorem Try.builtRw0 : Try.prog.built 61 [] = some (rowC noT 0) := by kernel_rfl
theorem Try.builtRw (m : Nat) : Try.prog.built 61 [(1, .int .i64 (m : Int))] = some (rowC noT m) := by kernel_rfl

theorem run_allocRw (w : World) : (Instr.alloc 61 true (.tuple #[])).run Try.prog w = .ok (.pointer (some ⟨w.heap.size, 0, none⟩)) (w.alloc (.cells (rowC noT 0) 61)) := by
  have hz := Try.zeroRw
  cases hit : Try.prog.info? 61 with
  | none => simp [hit] at hz
  | some it =>
    simp [hit] at hz
    have ha : (zeroValue 61).run Try.prog w = .ok (RwV noT 0) w := by simp [zeroValue, typeInfo, hit, hz]
    unfold Instr.alloc
    simp only [Sem.run_bind, ha, Result.andThen_ok]
    rfl

/-! ### Laws of the walk -/
section
variable {P : Program} {F : Fence} {n : Nat} {ops : Array Oper} {rest : List Oper} {o : Oper} {a : Act} {w : World} {Q : Exit → Act → World → Prop}
theorem in_value (hg : o.guard = none) (hnd : ∀ c, o.op ≠ .defer c) (hab : o.about P w a.eval = none) (v : Value) (w' : World) (hrun : (execOp a.eval o).run P w = .ok (.value v) w')
    (h : wpListIn F n P ops Q rest (a.put o.dst v) w') : wpListIn F n P ops Q (o :: rest) a w := by
  refine wpListIn_plain hg fun K hK => ?_
  unfold Oper.wpIn
  rw [Oper.semAt_plain F _ _ hnd, hrun, Oper.uponIn_value]
  exact ⟨fun f hf => (by rw [hab] at hf; cases hf), hK _ _ h⟩
theorem in_skip (hg : o.guard = none) (hnd : ∀ c, o.op ≠ .defer c) (hab : o.about P w a.eval = none) (w' : World) (hrun : (execOp a.eval o).run P w = .ok .skip w')
    (h : wpListIn F n P ops Q rest (a.put o.dst undef) w') : wpListIn F n P ops Q (o :: rest) a w := by
  refine wpListIn_plain hg fun K hK => ?_
  unfold Oper.wpIn
  rw [Oper.semAt_plain F _ _ hnd, hrun, Oper.uponIn_skip]
  exact ⟨fun f hf => (by rw [hab] at hf; cases hf), hK _ _ h⟩
theorem p_value (hg : o.guard = none) (v : Value) (w' : World) (hrun : (execOp a.eval o).run P w = .ok (.value v) w')
    (h : wpList P ops Q rest (a.put o.dst v) w') : wpList P ops Q (o :: rest) a w := by
  refine wpList_plain hg fun K hK => ?_
  unfold Oper.wp
  rw [hrun, Oper.upon_value]
  exact hK _ _ h
theorem p_skip (hg : o.guard = none) (w' : World) (hrun : (execOp a.eval o).run P w = .ok .skip w')
    (h : wpList P ops Q rest (a.put o.dst undef) w') : wpList P ops Q (o :: rest) a w := by
  refine wpList_plain hg fun K hK => ?_
  unfold Oper.wp
  rw [hrun, Oper.upon_skip]
  exact hK _ _ h
end
section
variable {F : Fence} {n : Nat} {ops : Array Oper} {rest : List Oper} {o : Oper} {a : Act} {w : World} {Q : Exit → Act → World → Prop}
theorem x_alloc (ho : o.op = .alloc 61) : (execOp a.eval o).run Try.prog w = .ok (.value (.pointer (some ⟨w.heap.size, 0, none⟩))) (w.alloc (.cells (rowC noT 0) 61)) := by
  unfold execOp
  simp only [ho, Sem.run_bind, run_allocRw, Result.andThen_ok]
  rfl
theorem x_box (x : Operand) (ho : o.op = .box 61 x) (T : Nat → ByteArray) (m : Nat) (hx : a.eval x = RwV T m) : (execOp a.eval o).run Try.prog w = .ok (.value (.pointer (some ⟨w.heap.size, 0, none⟩))) (w.alloc (.cells (rowC T m) 61)) := by
  unfold execOp
  simp only [ho, hx, Sem.run_bind, Instr.box, newVar, newRow, run_newObj_alloc, Sem.run_pure, Result.andThen_ok]
  rfl
theorem x_load (x : Operand) (ho : o.op = .load 61 x) (g : Nat) (hx : a.eval x = .pointer (some ⟨g, 0, none⟩)) (T : Nat → ByteArray) (m : Nat) (hr : Row w g 61 (rowC T m)) : (execOp a.eval o).run Try.prog w = .ok (.value (RwV T m)) w := by
  unfold execOp
  simp only [ho, hx, Instr.loadAt, Instr.sureAddr, Sem.run_bind, Sem.run_pure, Result.andThen_ok, run_loadVar_row w g 61 61 (rowC T m) (0, 0) _ hr Try.underlying61 rfl (by rw [Try.infoRw, rowC_size])]
  rfl
theorem x_store (x y : Operand) (ho : o.op = .store 61 x y) (g : Nat) (hx : a.eval x = .pointer (some ⟨g, 0, none⟩)) (T : Nat → ByteArray) (m : Nat) (hy : a.eval y = RwV T m) (T' : Nat → ByteArray) (m' : Nat) (hr : Row w g 61 (rowC T' m')) :
    (execOp a.eval o).run Try.prog w = .ok .skip (w.setRow g (rowC T m)) := by
  unfold execOp
  have hy' : a.eval y = .agg (rowC T m) := hy
  simp only [ho, hx, hy', Instr.storeAt, Instr.sureAddr, Sem.run_bind, Sem.run_pure, Result.andThen_ok, run_storeVar_row w g 61 61 (rowC T' m') (rowC T m) hr (by rw [Try.infoRw, rowC_size]) (by rw [rowC_size, rowC_size]) (rowC_one T m)]
theorem x_build (x : Operand) (ho : o.op = .build 61 #[(1, x)]) (m : Nat) (hx : a.eval x = .int .i64 (m : Int)) : (execOp a.eval o).run Try.prog w = .ok (.value (RwV noT m)) w := by
  have hb := run_build (P := Try.prog) w 61 #[(1, .int .i64 (m : Int))] (rowC noT m) (Try.builtRw m)
  unfold execOp
  simp [ho, hx, hb]
  rfl
theorem x_build0 (ho : o.op = .build 61 #[]) : (execOp a.eval o).run Try.prog w = .ok (.value (RwV noT 0)) w := by
  have hb := run_build (P := Try.prog) w 61 #[] (rowC noT 0) Try.builtRw0
  unfold execOp
  simp [ho, hb]
  rfl
theorem p_alloc (hg : o.guard = none) (ho : o.op = .alloc 61) (h : wpList Try.prog ops Q rest (a.put o.dst (.pointer (some ⟨w.heap.size, 0, none⟩))) (w.alloc (.cells (rowC noT 0) 61))) : wpList Try.prog ops Q (o :: rest) a w := p_value hg _ _ (x_alloc ho) h
theorem p_box (hg : o.guard = none) (x : Operand) (ho : o.op = .box 61 x) (T : Nat → ByteArray) (m : Nat) (hx : a.eval x = RwV T m) (h : wpList Try.prog ops Q rest (a.put o.dst (.pointer (some ⟨w.heap.size, 0, none⟩))) (w.alloc (.cells (rowC T m) 61))) : wpList Try.prog ops Q (o :: rest) a w := p_value hg _ _ (x_box x ho T m hx) h
theorem p_load (hg : o.guard = none) (x : Operand) (ho : o.op = .load 61 x) (g : Nat) (hx : a.eval x = .pointer (some ⟨g, 0, none⟩)) (T : Nat → ByteArray) (m : Nat) (hr : Row w g 61 (rowC T m)) (h : wpList Try.prog ops Q rest (a.put o.dst (RwV T m)) w) : wpList Try.prog ops Q (o :: rest) a w := p_value hg _ _ (x_load x ho g hx T m hr) h
theorem p_store (hg : o.guard = none) (x y : Operand) (ho : o.op = .store 61 x y) (g : Nat) (hx : a.eval x = .pointer (some ⟨g, 0, none⟩)) (T : Nat → ByteArray) (m : Nat) (hy : a.eval y = RwV T m) (T' : Nat → ByteArray) (m' : Nat) (hr : Row w g 61 (rowC T' m'))
    (h : wpList Try.prog ops Q rest (a.put o.dst undef) (w.setRow g (rowC T m))) : wpList Try.prog ops Q (o :: rest) a w := p_skip hg _ (x_store x y ho g hx T m hy T' m' hr) h
theorem p_build (hg : o.guard = none) (x : Operand) (ho : o.op = .build 61 #[(1, x)]) (m : Nat) (hx : a.eval x = .int .i64 (m : Int)) (h : wpList Try.prog ops Q rest (a.put o.dst (RwV noT m)) w) : wpList Try.prog ops Q (o :: rest) a w := p_value hg _ _ (x_build x ho m hx) h
theorem p_build0 (hg : o.guard = none) (ho : o.op = .build 61 #[]) (h : wpList Try.prog ops Q rest (a.put o.dst (RwV noT 0)) w) : wpList Try.prog ops Q (o :: rest) a w := p_value hg _ _ (x_build0 ho) h
theorem i_alloc (hg : o.guard = none) (ho : o.op = .alloc 61) (h : wpListIn F n Try.prog ops Q rest (a.put o.dst (.pointer (some ⟨w.heap.size, 0, none⟩))) (w.alloc (.cells (rowC noT 0) 61))) : wpListIn F n Try.prog ops Q (o :: rest) a w := in_value hg (by rw [ho]; intro c hc; cases hc) (by simp [Oper.about, ho]) _ _ (x_alloc ho) h
theorem i_box (hg : o.guard = none) (x : Operand) (ho : o.op = .box 61 x) (T : Nat → ByteArray) (m : Nat) (hx : a.eval x = RwV T m) (h : wpListIn F n Try.prog ops Q rest (a.put o.dst (.pointer (some ⟨w.heap.size, 0, none⟩))) (w.alloc (.cells (rowC T m) 61))) : wpListIn F n Try.prog ops Q (o :: rest) a w := in_value hg (by rw [ho]; intro c hc; cases hc) (by simp [Oper.about, ho]) _ _ (x_box x ho T m hx) h
theorem i_load (hg : o.guard = none) (x : Operand) (ho : o.op = .load 61 x) (g : Nat) (hx : a.eval x = .pointer (some ⟨g, 0, none⟩)) (T : Nat → ByteArray) (m : Nat) (hr : Row w g 61 (rowC T m)) (h : wpListIn F n Try.prog ops Q rest (a.put o.dst (RwV T m)) w) : wpListIn F n Try.prog ops Q (o :: rest) a w := in_value hg (by rw [ho]; intro c hc; cases hc) (by simp [Oper.about, ho]) _ _ (x_load x ho g hx T m hr) h
theorem i_store (hg : o.guard = none) (x y : Operand) (ho : o.op = .store 61 x y) (g : Nat) (hx : a.eval x = .pointer (some ⟨g, 0, none⟩)) (T : Nat → ByteArray) (m : Nat) (hy : a.eval y = RwV T m) (T' : Nat → ByteArray) (m' : Nat) (hr : Row w g 61 (rowC T' m'))
    (h : wpListIn F n Try.prog ops Q rest (a.put o.dst undef) (w.setRow g (rowC T m))) : wpListIn F n Try.prog ops Q (o :: rest) a w := in_skip hg (by rw [ho]; intro c hc; cases hc) (by simp [Oper.about, ho]) _ (x_store x y ho g hx T m hy T' m' hr) h
end
end Go.Proofs.Ytahgdbmilflcmaa
