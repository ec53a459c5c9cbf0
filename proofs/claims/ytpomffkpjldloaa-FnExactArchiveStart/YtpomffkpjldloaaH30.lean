/- A piece, copied, in the program and in the model. Conditions: texts and lists of at most 2^20. Written by a program. -/
import Derived.Test.YtpomffkpjldloaaH28
import Derived.Test.YtpomffkpjldloaaH26
import Derived.Test.YtpomffkpjldloaaH14
import Derived.Deep.CutRange
namespace Go.Proofs.Ytpomffkpjldloaa
set_option maxRecDepth 2000
open Go.ChangeShapes Go.WideShapes Go.ChangeAt Go.RowKit

end Go.Proofs.Ytpomffkpjldloaa
/- A slot, copied, in the program. Conditions: texts and lists of at most 2^20. Written by a program. -/
namespace Go.Proofs.Ytpomffkpjldloaa
set_option maxRecDepth 2000
open Go.ChangeShapes Go.WideShapes Go.ChangeAt Go.RowKit

theorem Ow.far {w : World} {B : Nat} {d : Dt} {v : Value} {F : Nat → Prop} (h : Ow w B d v F) {g : Nat} (o : Nat) (x : Value) (hn : ¬ F g) : Ow (w.setCell ⟨g, o, none⟩ x) B d v F :=
  h.turned (Trn.set w o x (F := fun y => y = g) rfl) (fun _ hy e => hn (e ▸ hy))
end Go.Proofs.Ytpomffkpjldloaa
/- A piece, copied, in the model. Condition: at most 2^20 texts. Written by a program. -/
namespace Go.Proofs.Ytpomffkpjldloaa
set_option maxRecDepth 2000
open Go.ChangeShapes Go.WideShapes Go.ChangeAt Go.RowKit

theorem wpList_app_none {ops : Array Oper} {rest : List Oper} {o : Oper} {a : Act} {Q : Exit → Act → World → Prop} (w : World) (hgd : o.guard = none) (s x : Nat) (ho : o.op = .call { callee := .builtin .append, args := #[.tmp s, .tmp x], argTypes := #[22, 22] }) (G c : Nat) (hs : a.eval (.tmp s) = .slice (some ⟨G, 0, none⟩) 0 0) (hx : a.eval (.tmp x) = .slice none 0 c) (h : wpList Try.prog ops Q rest (a.put o.dst (.slice (some ⟨G, 0, none⟩) 0 0)) w) : wpList Try.prog ops Q (o :: rest) a w := by
  refine wpList_plain hgd fun K hK => ?_
  obtain ⟨dst, op, ty, pos, aft, gd⟩ := o
  simp only at ho hgd
  subst ho hgd
  have hk := hK _ _ h
  have hs' : a.tmps[s]?.getD undef = .slice (some ⟨G, 0, none⟩) 0 0 := by simpa [Act.eval] using hs
  have hx' : a.tmps[x]?.getD undef = .slice none 0 c := by simpa [Act.eval] using hx
  clear hs hx h hK
  go_simp
  exact hk
theorem wpList_app_ints {ops : Array Oper} {rest : List Oper} {o : Oper} {a : Act} {Q : Exit → Act → World → Prop} (w : World) (hgd : o.guard = none) (s x : Nat) (ho : o.op = .call { callee := .builtin .append, args := #[.tmp s, .tmp x], argTypes := #[22, 22] }) (base G : Nat) (hs : a.eval (.tmp s) = .slice (some ⟨G, 0, none⟩) 0 0) (hown : w.ownsRow base 3 1 (.slice (some ⟨G, 0, none⟩) 0 0) 0 []) (ad : Option Addr) (zs : List Int) (c : Nat) (hx : a.eval (.tmp x) = .slice ad zs.length c) (hI : IntsAt w ad zs.length zs) (hn : zs.length ≤ 1048576) (hbase : base ≤ w.heap.size)
    (h : ∀ g cap w', w'.ownsRow base 3 1 (.slice (some ⟨g, 0, none⟩) zs.length cap) zs.length (zs.map (Value.int .i64)) → w.grownBy w' (some G) → wpList Try.prog ops Q rest (a.put o.dst (.slice (some ⟨g, 0, none⟩) zs.length cap)) w') : wpList Try.prog ops Q (o :: rest) a w := by
  obtain ⟨i0, hi, hz0, hz1, hz2⟩ : ∃ i0, Try.prog.info? 3 = some i0 ∧ i0.zero = some (.int .i64 0) ∧ i0.size = 1 ∧ i0.bytes = 8 := ⟨_, rfl, rfl, rfl, rfl⟩
  match ad, hx, hI with
  | none, hx, hI =>
    have e0 : zs.length = 0 := by
      by_cases h0 : zs.length = 0
      · exact h0
      · obtain ⟨b, off, e, _⟩ := hI.2 0 (by omega)
        cases e
    have ez : zs = [] := List.length_eq_zero_iff.1 e0
    subst ez
    exact wpList_app_none w hgd s x ho G c hs hx (h G 0 w hown ⟨rfl, rfl, rfl, Nat.le_refl _, fun _ _ _ => rfl⟩)
  | some ⟨b, off, sp⟩, hx, hI =>
    refine wpList_append_all w hgd (.tmp s) (.tmp x) 22 ho base 3 i0 (.int .i64 0) 1 8 Try.underlying22 hi hz0 hz1 hz2 rfl (by decide) G 0 0 [] hs hown ⟨b, off, sp⟩ zs.length c (zs.map (Value.int .i64)) hx (by simp) (fun j u hu => ?_) (by simp [Value.oneCell']) (by unfold maxLen; omega) (by omega) hbase fun g cap w' h1 h2 => ?_
    · have hj : 0 < zs.length := by
        have := (List.getElem?_eq_some_iff.1 hu).1
        simp at this
        omega
      have e := ints_spot hI hj
      simp at e
      subst e
      exact ints_news hI j u hu
    · have := h g cap w' (by simpa using h1) h2
      simpa using this
end Go.Proofs.Ytpomffkpjldloaa
