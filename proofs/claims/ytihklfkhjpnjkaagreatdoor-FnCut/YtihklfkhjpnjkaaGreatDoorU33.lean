import Derived.Test.YtihklfkhjpnjkaaGreatDoorU31
import Derived.Test.YtihklfkhjpnjkaaGreatDoorU10
import Derived.Test.YtihklfkhjpnjkaaGreatDoorShelf
import Derived.Test.YtihklfkhjpnjkaaGreatDoorRows
import Derived.Test.YtihklfkhjpnjkaaGreatDoorTie
import Derived.Test.YtihklfkhjpnjkaaGreatDoorCards
import Derived.ProofKit
import Derived.LaidMore
import Derived.LaidLaws
import Derived.LaidHandle
import Derived.Stop.LaidErr
import Derived.Shelf.Vars
import Derived.OpenShut
import Derived.ShutString
import Derived.ChangeOld
import Derived.Below
import Derived.Stop.Joined
import Derived.SevenTiedAt
set_option maxHeartbeats 8000000
set_option maxRecDepth 2000
open Go.ChangeShapes Go.WideShapes Go.ChangeAt Go.RowKit
namespace Go.Proofs.YtihklfkhjpnjkaaGreatDoor
structure NumW (w : World) : Prop where
 s : ∃ t p, w.cell? ⟨3, 0, none⟩ = some (.iface t p)
 r : ∃ t p, w.cell? ⟨4, 0, none⟩ = some (.iface t p)
 m : ∃ z, w.cell? ⟨2, 0, none⟩ = some (.int .i64 z)
theorem NumW.below {w w' : World} (h : NumW w) (hb : Below w.heap.size w w') : NumW w' := by
 obtain ⟨⟨t, p, h1⟩, ⟨t', p', h2⟩, ⟨z, h3⟩⟩ := h
 exact ⟨⟨t, p, (hb.cell (p := ⟨3, 0, none⟩) (block_lt_of_cell h1)).trans h1⟩, ⟨t', p', (hb.cell (p := ⟨4, 0, none⟩) (block_lt_of_cell h2)).trans h2⟩, ⟨z, (hb.cell (p := ⟨2, 0, none⟩) (block_lt_of_cell h3)).trans h3⟩⟩
theorem readHex_any (u : ByteArray) (w : World) (hs : u.size ≤ 1048576) :
  Calls Tryz.prog 83 #[.string u] w fun e w' => ((e = .returned (.string (hbS u)) ∧ hbF u = true) ∨ (e = .panicked (failC 2) ∧ hbF u = false)) ∧ Below w.heap.size w w' := by
 have K : Hid _ := hexBytes_any u w hs
 generalize hbS u = v at K
 cases hf : hbF u
 all_goals rw [hf] at K
 all_goals clear hf
 ·go_enter Tryz.func83, Tryz.ntmps83
  go_wp2_with fail
  refine Calls.mono K.out ?_
  rintro e w1 ⟨rfl, hb⟩
  go_wp2_with fail
  refine Calls.mono (need_no 2 w1) ?_
  rintro e w2 ⟨rfl, rfl⟩
  go_wp2
  simp [bodyPost]
  exact hb
 ·go_enter Tryz.func83, Tryz.ntmps83
  go_wp2_with fail
  refine Calls.mono K.out ?_
  rintro e w1 ⟨rfl, hb⟩
  go_wp2_with fail
  refine Calls.mono (need_ok 2 w1) ?_
  rintro e w2 ⟨rfl, rfl⟩
  go_wp2
  simp [bodyPost, results, go_sem]
  exact hb
theorem atoi_any (u : ByteArray) (w : World) (hs : u.size ≤ 1048576) (hN : NumW w) :
  Calls Tryz.prog 126 #[.string u] w fun e w' => ((e = .returned (.tuple #[.int .i64 (atv u), .nilIface]) ∧ atb u = true) ∨ ((∃ t p, e = .returned (.tuple #[.int .i64 (atv u), .iface t p])) ∧ atb u = false)) ∧ Below w.heap.size w w' := by
 obtain ⟨⟨t, p, h1⟩, ⟨t', p', h2⟩, _⟩ := hN
 cases hc : Lib.atoiAll u.data.toList with
 | ok v =>
  refine (Tryz.strconv_Atoi_ok u (by omega) v hc w).mono ?_
  rintro e w' ⟨rfl, hw⟩
  have e1 : atv u = v := by unfold atv; rw [hc]
  have e2 : atb u = true := by unfold atb; rw [hc]
  rw [e1]
  refine ⟨Or.inl ⟨rfl, e2⟩, ?_⟩
  rcases hw with rfl | ⟨t, rfl⟩
  ·exact Below.refl _ _
  ·exact ⟨rfl, rfl, rfl, by rw [Lib.bytesWorld_size]; omega, fun j hj => Lib.bytesWorld_at_old w _ _ j hj⟩
 | «syntax» =>
  refine (Tryz.strconv_Atoi_syntax u (by omega) hc (.iface t p) w h1 (Or.inr ⟨_, _, rfl⟩)).mono ?_
  rintro e w' ⟨N, rfl, _, _, hb⟩
  have e1 : atv u = 0 := by unfold atv; rw [hc]
  have e2 : atb u = false := by unfold atb; rw [hc]
  rw [e1]
  exact ⟨Or.inr ⟨⟨_, _, rfl⟩, e2⟩, hb⟩
 | range =>
  refine (Tryz.strconv_Atoi_range u (by omega) hc (.iface t' p') w h2 (Or.inr ⟨_, _, rfl⟩)).mono ?_
  rintro e w' ⟨N, rfl, _, _, hb⟩
  have e1 : atv u = Lib.atoiSat u.data.toList := by unfold atv; rw [hc]
  have e2 : atb u = false := by unfold atb; rw [hc]
  rw [e1]
  exact ⟨Or.inr ⟨⟨_, _, rfl⟩, e2⟩, hb⟩
theorem readNumber_any (u : ByteArray) (w : World) (hs : u.size ≤ 1048576) (hN : NumW w) :
  Calls Tryz.prog 84 #[.string u] w fun e w' => ((e = .returned (.int .i64 (atv u)) ∧ atb u = true) ∨ (e = .panicked (failC 2) ∧ atb u = false)) ∧ Below w.heap.size w w' := by
 have K : Hid _ := atoi_any u w hs hN
 clear hN
 generalize atv u = v at K
 generalize atb u = c at K
 go_enter Tryz.func84, Tryz.ntmps84
 go_wp2_with fail
 refine Calls.mono K.out ?_
 rintro e w1 ⟨⟨rfl, rfl⟩ | ⟨⟨t, p, rfl⟩, rfl⟩, hb⟩
 ·go_wp2_with fail
  refine Calls.mono (need_ok 2 w1) ?_
  rintro e w2 ⟨rfl, rfl⟩
  go_wp2
  simp [bodyPost, results, go_sem]
  exact hb
 ·go_wp2_with fail
  refine Calls.mono (need_no 2 w1) ?_
  rintro e w2 ⟨rfl, rfl⟩
  go_wp2
  simp [bodyPost]
  exact hb
end Go.Proofs.YtihklfkhjpnjkaaGreatDoor
namespace Go.Proofs.YtihklfkhjpnjkaaGreatDoor
open Go.ChangeShapes Go.WideShapes Go.ChangeAt Go.WideMaps Go.WideElems Go.RowKit
def laid8 : List (String × DataW Unit) := [("math/bits.deBruijn32tab", Rows.laid_math_bits_deBruijn32tab), ("math/bits.deBruijn64tab", Rows.laid_math_bits_deBruijn64tab), ("internal/strconv.uint64pow10", Rows.laid_internal_strconv_uint64pow10), ("unicode/utf8.acceptRanges", Rows.laid_unicode_utf8_acceptRanges), ("errors.errorType", Rows.laid_errors_errorType), ("strconv.ErrRange", Rows.laid_strconv_ErrRange), ("strconv.ErrSyntax", Rows.laid_strconv_ErrSyntax), ("unicode/utf8.first", Rows.laid_unicode_utf8_first)]
def laid7 : List (String × DataW Unit) := [("math/bits.deBruijn32tab", Rows.laid_math_bits_deBruijn32tab), ("math/bits.deBruijn64tab", Rows.laid_math_bits_deBruijn64tab), ("internal/strconv.uint64pow10", Rows.laid_internal_strconv_uint64pow10), ("unicode/utf8.acceptRanges", Rows.laid_unicode_utf8_acceptRanges), ("strconv.ErrRange", Rows.laid_strconv_ErrRange), ("strconv.ErrSyntax", Rows.laid_strconv_ErrSyntax), ("unicode/utf8.first", Rows.laid_unicode_utf8_first)]
def laidH : List (String × DataW Unit) := [("errors.errorType", Rows.laid_errors_errorType)]
theorem laid8_parts {W : World} (h : laidMetH Tryz.prog laid8 W) : laidMet Tryz.prog laid7 W ∧ handlesMet Tryz.prog laidH W := h
theorem tab8_is : (Rows.laid_internal_strconv_uint64pow10 : DataW Unit) = Lib.tabData .u64 Lib.pow10Tab := rfl
theorem Tryz.g8tab : Tryz.prog.globalNamed "internal/strconv.uint64pow10" = some 1 := by kernel_rfl
theorem Tryz.g8tabT : (Tryz.prog.globals[1]?).map (·.type) = some 208 := by kernel_rfl
theorem tab_of_laid8 {W : World} (h : laidMetH Tryz.prog laid8 W) : TabOk W := by
 have h7 : laidMet Tryz.prog (("internal/strconv.uint64pow10", Rows.laid_internal_strconv_uint64pow10) :: [("unicode/utf8.acceptRanges", Rows.laid_unicode_utf8_acceptRanges), ("strconv.ErrRange", Rows.laid_strconv_ErrRange), ("strconv.ErrSyntax", Rows.laid_strconv_ErrSyntax), ("unicode/utf8.first", Rows.laid_unicode_utf8_first)]) W := (laid8_parts h).1.tail.tail
 obtain ⟨ps, ⟨g2, t2, cs2, f2, p2, q2, hg2, ht2, hv2, hd2, _, _⟩, _, _⟩ := h7
 obtain rfl := Option.some.inj (Tryz.g8tab.symm.trans hg2)
 obtain rfl := Option.some.inj (Tryz.g8tabT.symm.trans ht2)
 rw [tab8_is] at hd2
 show World.var? _ _ _ = _
 rw [hv2, ← Lib.cells_of_tab Tryz.underlying208 Tryz.underlying152 (by kernel_rfl) (by kernel_rfl) hd2]
theorem Tryz.et8 : Tryz.prog.globalNamed "errors.errorType" = some 0 := by kernel_rfl
theorem Tryz.rt8 : (Tryz.prog.cutTypes.find? (·.1 == "internal/reflectlite.rtype")).map (·.2) = some 160 := by kernel_rfl
theorem Tryz.oneRow8 : ((List.range 258).filter fun t => Tryz.prog.rowNamed t [101, 114, 114, 111, 114]) = [95] := by kernel_rfl
theorem Tryz.tsize8 : Tryz.prog.types.size = 258 := by kernel_rfl
theorem errT_of_laid8 {W : World} (h : laidMetH Tryz.prog laid8 W) : ErrT W := by
 have h' := (laid8_parts h).2
 obtain ⟨name, u, ty, e1, e2, e3, e4, e5⟩ := h' _ (List.mem_singleton.2 rfl)
 have en : name = [101, 114, 114, 111, 114] := (Option.some.inj e1).symm
 subst en
 obtain rfl := Option.some.inj (Tryz.rt8.symm.trans e2)
 have hm : ty ∈ (List.range 258).filter fun t => Tryz.prog.rowNamed t [101, 114, 114, 111, 114] := List.mem_filter.2 ⟨List.mem_range.2 (by rw [← Tryz.tsize8]; exact e3), e4⟩
 rw [Tryz.oneRow8] at hm
 obtain rfl := List.mem_singleton.1 hm
 have hh : typeHandle Tryz.prog 95 = .pointer (some ⟨9, 95, none⟩) := by kernel_rfl
 rw [hh] at e5
 have := World.var?_cell Tryz.et8 e5 0
 show World.cell? _ _ = _
 simpa using this
theorem star8 : "*errors.errorString" = "*" ++ "errors.errorString" := by decide
theorem row8 (u : TypeId) (h : Tryz.prog.typeName? 3 u = some "*errors.errorString") : u = 226 :=
 typeName_ptr_named (nm := "errors.errorString") (by rw [← star8]; kernel_rfl) (by kernel_rfl) (by decide) u (by rw [← star8]; exact h)
theorem Tryz.g8r : Tryz.prog.globalNamed "strconv.ErrRange" = some 4 := by kernel_rfl
theorem Tryz.g8s : Tryz.prog.globalNamed "strconv.ErrSyntax" = some 3 := by kernel_rfl
theorem Tryz.g8rT : (Tryz.prog.globals[4]?).map (·.type) = some 95 := by kernel_rfl
theorem Tryz.g8sT : (Tryz.prog.globals[3]?).map (·.type) = some 95 := by kernel_rfl
theorem num_of_laid8 {W : World} (h : laidMetH Tryz.prog laid8 W) (hsh : W.ShapedOpen Tryz.prog) : NumW W := by
 have h4 : laidMet Tryz.prog (("strconv.ErrRange", .iface "*errors.errorString" (.ptr (.agg [.lit (.string [118, 97, 108, 117, 101, 32, 111, 117, 116, 32, 111, 102, 32, 114, 97, 110, 103, 101])]))) :: [("strconv.ErrSyntax", Rows.laid_strconv_ErrSyntax), ("unicode/utf8.first", Rows.laid_unicode_utf8_first)]) W := (laid8_parts h).1.tail.tail.tail.tail
 have h5 : laidMet Tryz.prog (("strconv.ErrSyntax", .iface "*errors.errorString" (.ptr (.agg [.lit (.string [105, 110, 118, 97, 108, 105, 100, 32, 115, 121, 110, 116, 97, 120])]))) :: [("unicode/utf8.first", Rows.laid_unicode_utf8_first)]) W := h4.tail
 obtain ⟨a0, s0, hv0, _, _, _⟩ := laid_sentinel h4 Tryz.g8r Tryz.g8rT Tryz.underlying95 row8 Tryz.underlying226 Tryz.underlying228 rfl rfl Tryz.underlying9 (by kernel_rfl) (by kernel_rfl)
 obtain ⟨a1, s1, hv1, _, _, _⟩ := laid_sentinel h5 Tryz.g8s Tryz.g8sT Tryz.underlying95 row8 Tryz.underlying226 Tryz.underlying228 rfl rfl Tryz.underlying9 (by kernel_rfl) (by kernel_rfl)
 have c0 := World.var?_cell Tryz.g8r hv0 0
 have c1 := World.var?_cell Tryz.g8s hv1 0
 refine ⟨⟨_, _, by simpa using c1⟩, ⟨_, _, by simpa using c0⟩, ?_⟩
 exact cell_of_shapedOpen_int (g := 2) (t := 3) (zero := #[.int .i64 0]) hsh (of_decide_eq_true (by kernel_rfl)) (by kernel_rfl) rfl (by kernel_rfl) (by kernel_rfl) Tryz.underlying3
noncomputable def laidW8 (os : Os) : World :=
 { World.doorLaid Tryz.prog 4000 os with heap := (World.doorLaid Tryz.prog 4000 os).heap.modify 5 fun
   | .cells _ t frozen => .cells (List.toArray (Go.Pinned.utf8FirstZ.map fun n : Nat => Value.int .u8 (Int.ofNat n))) t frozen
   | o => o }
theorem laidW8_met (os : Os) (args : Array Value) : laidMetH Tryz.prog laid8 ((laidW8 os).forCall (fun _ _ => 0) ⟨#[], args, []⟩).memory :=
 laidMetH_of_parts3 (fuel := 8) (laidMet_of_run' 8 (by kernel_rfl) (by kernel_rfl)) (by kernel_rfl) (by kernel_rfl)
theorem handed_shaped {H : Type} {enc : TypeId × Value → H} {a : Assume} {C : Checked} {os : Os} {f : FuncId} {fn : Func} {s : ChangeSpec} {conds : List PathCond} {apart fresh handsOn again : Bool} {X : World → Array Value → Prop}
  (hX : ∀ (w w' : World) (args : Array Value), w.heap = w'.heap → X w args → X w' args)
  (own : ownKnob C.prog.godebug = none) (started : os.Started) (noInit : C.prog.inits.idxOf? f = none) (hfn : C.prog.funcs[f]? = some fn)
  (witness : ∃ (w : World) (tape : Tape) (i : Input), w.os = os ∧ (w.forCall tape i).Shaped C.prog ∧ i.vars = [] ∧ Input.okWide C.prog (w.forCall tape i) .any w.heap.size f i ∧
   ((s.pre enc C.prog fn conds apart (w.forCall tape i).memory i.args ∧ X (w.forCall tape i).memory i.args) ∧ sizedMet enc C.prog fn (OpenSpec.ofChange s) apart (w.forCall tape i).memory i.args) ∧ a.holds C.prog (lone (Frame.enter C.prog f i.args .normal) [] (w.forCall tape i)))
  (contract : ∀ (W : World) (base : Nat) (args : Array Value) (ds gs : List (DataW H)) (before : List MemPlace),
   (∀ (j : Nat) t v, fn.params[j]? = some t → args[j]? = some v → Value.okWide C.prog W .any base t v) →
   DataW.Whole enc C.prog fn.params.toList s.vars apart W args.toList ds gs before → X W args → W.ShapedOpen C.prog →
   Calls C.prog f args W fun e W' => ∃ v, e = .returned v ∧ s.post enc C.prog fn apart fresh handsOn again W args v W') :
  ReturnsInHanded a C os f .any (fun w args => (s.pre enc C.prog fn conds apart w args ∧ X w args) ∧ sizedMet enc C.prog fn (OpenSpec.ofChange s) apart w args) (s.post enc C.prog fn apart fresh handsOn again) := by
 refine returnsInHanded_of_calls own started noInit witness ?_
 intro w tape i _ hsh _ hok hpre _
 obtain ⟨_, _, _, fn', hfn', _, _, _, _, hval⟩ := hok
 obtain rfl : fn' = fn := Option.some.inj (hfn'.symm.trans hfn)
 obtain ⟨⟨⟨ds, gs, before, hw, _⟩, hx⟩, _⟩ := hpre
 refine (contract (w.forCall tape i) w.heap.size i.args ds gs before hval (DataW.Whole.of_heap (w' := w.forCall tape i) (by rfl) hw) (hX _ _ _ (by rfl) hx) hsh).mono ?_
 rintro e W' ⟨v, rfl, hp⟩
 exact ChangeSpec.post_blind hp
end Go.Proofs.YtihklfkhjpnjkaaGreatDoor
