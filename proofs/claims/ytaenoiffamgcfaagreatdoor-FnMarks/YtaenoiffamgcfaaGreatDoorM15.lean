import Derived.Test.YtaenoiffamgcfaaGreatDoorM8
import Derived.Test.YtaenoiffamgcfaaGreatDoorM5
import Derived.Deep.AppendLies
import Derived.Test.YtaenoiffamgcfaaGreatDoorM4
import Derived.Deep.AppendSrc
import Derived.Laws.IdiomCopy
set_option maxHeartbeats 8000000
set_option maxRecDepth 2000
open Go.ChangeShapes Go.WideShapes Go.ChangeAt Go.RowKit
namespace Go.Proofs.YtaenoiffamgcfaaGreatDoor
theorem wp_snoc {P : Program} (w : World) {o : Oper} {a : Act} {K : Act → World → Prop} {Q : Exit → Act → World → Prop} (s x : Operand) (t : TypeId)
  (ho : o.op = .call { callee := .builtin .append, args := #[s, x], argTypes := #[t, t] })
  (B : Nat) (e : TypeId) (i : TypeInfo) (z : Value) (size bytes : Nat) (ht : P.underlying t = some (.slice e)) (hi : P.info? e = some i) (hz : i.zero = some z)
  (hsize : i.size = size) (hby : i.bytes = bytes) (hzs : z.cells.size = size) (hsz : 0 < size)
  (v : Value) (n : Nat) (f : Nat → Nat → Dt) (F : Nat → Prop) (hs : a.eval s = v) (hO : Ow w B (.lst e size n f) v F)
  (ad : Addr) (c : Nat) (vs : List Value) (hx : a.eval x = .slice (some ad) 1 c) (hl : vs.length = size) (hvs : ∀ j u, vs[j]? = some u → w.cell? (ad.add j) = some u) (h1 : ∀ u ∈ vs, u.oneCell' = true)
  (d : Nat → Dt) (H : Nat → Nat → Prop) (hv : ∀ q, q < size → Ow w B (d q) (vs.getD q undef) (H q)) (hH : ∀ q x, q < size → H q x → ¬ F x) (hE : ∀ q q' x, q < size → q' < size → H q x → H q' x → q = q')
  (h63 : n + 1 ≤ maxLen) (hbytes : (n + 1) * bytes ≤ 140737488355328) (hB : B ≤ w.heap.size)
  (h : ∀ g cap w', Ow w' B (.lst e size (n + 1) (fun i => if i = n then d else f i)) (.slice (some ⟨g, 0, none⟩) (n + 1) cap) (fun x => x < w'.heap.size ∧ ((F x ∨ ∃ q, q < size ∧ H q x) ∨ w.heap.size ≤ x)) → Below B w w' → Trn w w' F → K (a.put o.dst (.slice (some ⟨g, 0, none⟩) (n + 1) cap)) w') :
  o.wp P a w K Q := by
 obtain ⟨a0, cp, cc, G, rfl, hown, hsep, hr⟩ := hO
 refine wp_append_lies w s x t ho B e i z size bytes ht hi hz hsize hby hzs hsz _ n _ hs hown ad 1 c vs hx (by omega) hvs h1 (by omega) h63 hbytes hB w.heap.size rfl fun g cap w' h2 h3 h4 h5 => ?_
 have hsz' := h3.size
 have hk : ∀ k, (Value.slice a0 n cp).ownBlock = some k → F k ∧ B ≤ k ∧ k < w.heap.size := fun k ek => by
  cases a0 with
  | none => cases ek
  | some y =>
   have e1 : y.block = k := by injection ek
   subst e1
   exact ⟨hsep.head y rfl, World.ownsRow.lt hown y.block rfl⟩
 refine h g cap w' (ow_snoc hsz hsep hr hl hv hH hE h2 h3 h4 (fun x hx hlt => ⟨by omega, .inl (.inl hx)⟩) (fun q x hq hx hlt => ⟨by omega, .inl (.inr ⟨q, hq, hx⟩)⟩) ⟨h5, ?_⟩) ((Below.refl _ _).grown h3 hB fun k ek => (hk k ek).2.1) ⟨h3.os, h3.tape, h3.output, h3.size, fun x hx hn => h3.block x hx fun ek => hn (hk x ek.symm).1⟩
 rcases h4 with h4 | h4
 ·exact .inl (.inl (hk g h4).1)
 ·exact .inr (by omega)
theorem run_copy_sz {P : Program} (w : World) (dT sT ty elem : TypeId) (b o dLen dCap : Nat) (a : Addr) (sLen sCap size : Nat) (cs : List Value)
  (hu : P.underlying dT = some (.slice elem)) (hs : (P.info? elem).map (·.size) = some size) (hn : cs.length = Nat.min sLen dLen * size)
  (hsrc : ∀ j v, cs[j]? = some v → w.cell? (a.add j) = some v) (hc : ∀ j, j < cs.length → (w.cell? ⟨b, o + j, none⟩).isSome = true) (hf : ∀ j, j < cs.length → w.frozen? ⟨b, o + j, none⟩ = false) (h1 : ∀ v ∈ cs, v.oneCell' = true) :
  (Builtin.copy_ #[dT, sT] ty #[.slice (some ⟨b, o, none⟩) dLen dCap, .slice (some a) sLen sCap]).run P w = .ok (goInt (Nat.min sLen dLen : Nat)) (w.setCells b o cs) := by
 have hl := run_loadCells_list (P := P) w a cs hsrc
 have hst := run_storeCells_cells (P := P) b o cs 0 w (by simpa using hc) (by simpa using hf) h1
 cases hq : P.info? elem with
 | none => simp [hq] at hs
 | some i =>
  have hi : i.size = size := by simpa [hq] using hs
  simp [Builtin.copy_, run_underlying hu, Builtin.lenOf, Builtin.firstCells, sizeOf, typeInfo, hq, hi, ← hn, hl, hst]
end Go.Proofs.YtaenoiffamgcfaaGreatDoor
