import Derived.Deep.AppendLies
import Derived.Deep.MidRow
import Derived.Deep.QuietTactic
import Derived.RangeFuncCalls
import Derived.Test.YtcaejlalnjnifaaGreatProg
import Derived.WalkSmall
namespace Go.Proofs.YtcaejlalnjnifaaGreat
open Go.RowKit
open Go
abbrev OA := Option Addr
inductive Ty0
  | a
def Zs : Ty0 := .a
instance : Coe Ty0 Value := ⟨fun _ => .string ⟨#[]⟩⟩
instance : Coe Unit Value := ⟨fun _ => .int .i64 0⟩
abbrev BA := ByteArray
instance : Coe Int Value := ⟨fun x => .int .i64 x⟩
instance : Coe Nat Value := ⟨fun x => .int .i64 (x : Int)⟩
instance : Coe ByteArray Value := ⟨.string⟩
instance : Coe Bool Value := ⟨.bool⟩
instance : Coe Nat (Option Addr) := ⟨fun g => some ⟨g, 0, none⟩⟩
instance : Coe Nat Addr := ⟨fun g => ⟨g, 0, none⟩⟩
instance : Coe World Nat := ⟨fun w => w.heap.size⟩
abbrev CB (f : FuncId) (a : Array Value) (w : World) (v : Value) : Prop := Calls Tryz.prog f a w fun e w' => e = .returned v ∧ Below w.heap.size w w'
theorem CM {P : Program} {f : FuncId} {a : Array Value} {w : World} {v : Value} {R : World → Prop} {Q : Ending → World → Prop} (h : Calls P f a w fun e w' => e = .returned v ∧ R w') (k : ∀ w', R w' → Q (.returned v) w') : Calls P f a w Q := h.mono fun e w' h => by obtain ⟨rfl, r⟩ := h; exact k w' r
abbrev CS (f : FuncId) (a : Array Value) (w : World) (v : Value) : Prop := Calls Tryz.prog f a w fun e w' => e = .returned v ∧ w' = w
theorem Ax:type_of% @Go.Calls.mono:=@Go.Calls.mono
theorem Ay:type_of% @Nat.le_refl:=@Nat.le_refl
theorem Az:type_of% @Go.RowKit.Below.refl:=@Go.RowKit.Below.refl
theorem A0:type_of% @Go.World.ownsRow.lt:=@Go.World.ownsRow.lt
theorem A5:type_of% @if_neg:=@if_neg
theorem A6:type_of% @if_pos:=@if_pos
theorem A7:type_of% @Go.block_lt_of_cell:=@Go.block_lt_of_cell
theorem A8:type_of% @Go.IntKind.wrap_i64:=@Go.IntKind.wrap_i64
theorem Bb:type_of% @Go.wpList_load_row:=@Go.wpList_load_row
theorem Be:type_of% @List.getElem?_eq_none:=@List.getElem?_eq_none
theorem Bf:type_of% @decide_eq_true:=@decide_eq_true
theorem Bg:type_of% @decide_eq_false:=@decide_eq_false
theorem Bh:type_of% @Bool.false_or:=@Bool.false_or
theorem Bi:type_of% @Nat.zero_le:=@Nat.zero_le
theorem Bj:type_of% @List.getElem?_eq_getElem:=@List.getElem?_eq_getElem
theorem Bk:type_of% @Nat.not_lt_zero:=@Nat.not_lt_zero
theorem Bn:type_of% @Go.RowKit.Below.setCell:=@Go.RowKit.Below.setCell
def Bo:=@absurd
theorem Bp:type_of% @Go.Proofs.Tryz.underlying48:=@Go.Proofs.Tryz.underlying48
theorem Bq:type_of% @Bool.true_or:=@Bool.true_or
theorem Br:type_of% @Go.World.ownsRow.cellAt:=@Go.World.ownsRow.cellAt
theorem Bt:type_of% @Nat.zero_add:=@Nat.zero_add
theorem Bu:type_of% @Nat.lt_of_lt_of_le:=@Nat.lt_of_lt_of_le
theorem Bv:type_of% @Go.wpList_load_mid:=@Go.wpList_load_mid
theorem Bw:type_of% @Go.wpList_store_row:=@Go.wpList_store_row
theorem Bx:type_of% @List.getD_eq_getElem?_getD:=@List.getD_eq_getElem?_getD
theorem By:type_of% @Nat.le_trans:=@Nat.le_trans
theorem Bz:type_of% @Array.getElem?_eq_some_iff:=@Array.getElem?_eq_some_iff
theorem B0:type_of% @Go.World.ownsRow.frozenAt:=@Go.World.ownsRow.frozenAt
theorem B7:type_of% @Go.bodyPost_ret:=@Go.bodyPost_ret
theorem Ca:type_of% @List.getElem?_eq_some_iff:=@List.getElem?_eq_some_iff
theorem Cb:type_of% @Go.World.ownsRow.alloc:=@Go.World.ownsRow.alloc
theorem Cc:type_of% @Go.World.ownsRow_lit:=@Go.World.ownsRow_lit
theorem Cd:type_of% @Go.setRow_other:=@Go.setRow_other
theorem Ce:type_of% @Go.Calls.quiet_of_same:=@Go.Calls.quiet_of_same
theorem Cf:type_of% @Go.World.news_of_block:=@Go.World.news_of_block
theorem Cg:type_of% @Go.info_parts:=@Go.info_parts
theorem Ch:type_of% @Go.Proofs.Tryz.underlying26:=@Go.Proofs.Tryz.underlying26
theorem Ci:type_of% @Go.Proofs.Tryz.underlying31:=@Go.Proofs.Tryz.underlying31
theorem Cj:type_of% @Ne.symm:=@Ne.symm
theorem Ck:type_of% @Go.results_cell_row:=@Go.results_cell_row
theorem Cn:type_of% @Go.heap_setCell_other:=@Go.heap_setCell_other
theorem Co:type_of% @List.ext_getElem?:=@List.ext_getElem?
theorem Cp:type_of% @Nat.add_zero:=@Nat.add_zero
theorem Cq:type_of% @Go.heap_alloc_new:=@Go.heap_alloc_new
theorem Cr:type_of% @Go.Proofs.Tryz.underlying22:=@Go.Proofs.Tryz.underlying22
theorem Cs:type_of% @Bool.and_eq_true:=@Bool.and_eq_true
theorem Ct:type_of% @Go.wpQuiet_nil:=@Go.wpQuiet_nil
theorem Cu:type_of% @List.length_take:=@List.length_take
theorem Cv:type_of% @Go.wpList_make_full:=@Go.wpList_make_full
theorem Cw:type_of% @Array.length_toList:=@Array.length_toList
theorem Cx:type_of% @Go.World.frozen?_of_block:=@Go.World.frozen?_of_block
theorem Cy:type_of% @Int.toNat_natCast:=@Int.toNat_natCast
theorem Cz:type_of% @Go.below_drewN:=@Go.below_drewN
theorem C0:type_of% @if_true:=@if_true
theorem C3:type_of% @Go.Proofs.Tryz.underlying27:=@Go.Proofs.Tryz.underlying27
theorem C5:type_of% @Go.Proofs.Tryz.underlying42:=@Go.Proofs.Tryz.underlying42
theorem C6:type_of% @Go.Proofs.Tryz.underlying9:=@Go.Proofs.Tryz.underlying9
theorem C7:type_of% @Go.wpList_store_mid:=@Go.wpList_store_mid
theorem C8:type_of% @Array.getElem?_eq_getElem:=@Array.getElem?_eq_getElem
theorem C9:type_of% @Go.World.cell?_setCell_other:=@Go.World.cell?_setCell_other
theorem Db:type_of% @Nat.div_lt_iff_lt_mul:=@Nat.div_lt_iff_lt_mul
theorem Dc:type_of% @Array.getD_eq_getD_getElem?:=@Array.getD_eq_getD_getElem?
theorem Dd:type_of% @Go.Proofs.Tryz.underlying3:=@Go.Proofs.Tryz.underlying3
theorem De:type_of% @Go.wpList_append_lies:=@Go.wpList_append_lies
theorem Df:type_of% @List.length_drop:=@List.length_drop
theorem Dg:type_of% @Go.RowKit.Below.heap_setCell:=@Go.RowKit.Below.heap_setCell
theorem Dh:type_of% @Go.World.ownsRow.stored:=@Go.World.ownsRow.stored
theorem Di:type_of% @Go.IntKind.wrap_u8:=@Go.IntKind.wrap_u8
theorem Dj:type_of% @if_false:=@if_false
theorem Dk:type_of% @Int.eq_ofNat_of_zero_le:=@Int.eq_ofNat_of_zero_le
theorem Dl:type_of% @List.take_of_length_le:=@List.take_of_length_le
theorem Dm:type_of% @Go.Proofs.Tryz.underlying34:=@Go.Proofs.Tryz.underlying34
theorem Dn:type_of% @of_decide_eq_true:=@of_decide_eq_true
theorem Do:type_of% @Go.toList_madeCells_one:=@Go.toList_madeCells_one
theorem Dp:type_of% @decide_true:=@decide_true
theorem Dq:type_of% @Go.run_convert_bytes_arg:=@Go.run_convert_bytes_arg
theorem Dr:type_of% @Go.DataW.trod_int:=@Go.DataW.trod_int
theorem Ds:type_of% @List.getElem?_append_right:=@List.getElem?_append_right
theorem Du:type_of% @Nat.mul_le_mul_right:=@Nat.mul_le_mul_right
theorem Dv:type_of% @Go.callsIn_wide:=@Go.callsIn_wide
theorem Dw:type_of% @List.map_append:=@List.map_append
theorem Dx:type_of% @Nat.mod_eq_of_lt:=@Nat.mod_eq_of_lt
theorem Dy:type_of% @ByteArray.size_append:=@ByteArray.size_append
theorem Dz:type_of% @Go.Result.andThen_ok:=@Go.Result.andThen_ok
theorem D0:type_of% @Int.tdiv_eq_ediv_of_nonneg:=@Int.tdiv_eq_ediv_of_nonneg
theorem D7:type_of% @List.mem_iff_getElem:=@List.mem_iff_getElem
theorem D8:type_of% @congrArg:=@congrArg
theorem D9:type_of% @Go.Proofs.Tryz.underlying5:=@Go.Proofs.Tryz.underlying5
theorem Ea:type_of% @List.getElem?_append_left:=@List.getElem?_append_left
theorem Eb:type_of% @List.getElem?_map:=@List.getElem?_map
theorem Ec:type_of% @Go.Proofs.Tryz.underlying40:=@Go.Proofs.Tryz.underlying40
theorem Ed:type_of% @decide_eq_true_eq:=@decide_eq_true_eq
theorem Ee:type_of% @Option.some.inj:=@Option.some.inj
theorem Ef:type_of% @Nat.add_assoc:=@Nat.add_assoc
theorem Eg:type_of% @Int.tmod_eq_emod_of_nonneg:=@Int.tmod_eq_emod_of_nonneg
theorem Eh:type_of% @Go.MapKept.run_getObj_map:=@Go.MapKept.run_getObj_map
theorem Ei:type_of% @Go.Proofs.Tryz.underlying63:=@Go.Proofs.Tryz.underlying63
theorem Ej:type_of% @Go.Proofs.Tryz.underlying66:=@Go.Proofs.Tryz.underlying66
theorem Ek:type_of% @Go.Value.slice.injEq:=@Go.Value.slice.injEq
theorem El:type_of% @List.map_congr_left:=@List.map_congr_left
theorem Em:type_of% @Bool.or_eq_true:=@Bool.or_eq_true
theorem En:type_of% @List.nil_append:=@List.nil_append
theorem Eo:type_of% @Array.getElem?_setIfInBounds_ne:=@Array.getElem?_setIfInBounds_ne
theorem Ep:type_of% @List.pairwise_iff_getElem:=@List.pairwise_iff_getElem
theorem Eq:type_of% @List.mem_singleton:=@List.mem_singleton
theorem Er:type_of% @Option.getD_some:=@Option.getD_some
theorem Es:type_of% @Array.replicate_succ:=@Array.replicate_succ
theorem Et:type_of% @Array.replicate_zero:=@Array.replicate_zero
theorem Eu:type_of% @Nat.add_mul:=@Nat.add_mul
theorem Ev:type_of% @Array.toList_push:=@Array.toList_push
theorem Ew:type_of% @Classical.axiomOfChoice:=@Classical.axiomOfChoice
theorem Ex:type_of% @Go.DataW.trod_struct:=@Go.DataW.trod_struct
theorem Ey:type_of% @List.getElem?_set:=@List.getElem?_set
theorem Ez:type_of% @List.length_eq_zero_iff:=@List.length_eq_zero_iff
theorem E0:type_of% @List.size_toArray:=@List.size_toArray
theorem E4:type_of% @Go.World.putObj_heap_other:=@Go.World.putObj_heap_other
theorem E5:type_of% @Nat.mod_lt:=@Nat.mod_lt
theorem E6:type_of% @List.append_toArray:=@List.append_toArray
theorem E7:type_of% @List.toList_toArray:=@List.toList_toArray
theorem E8:type_of% @Go.World.grownBy_alloc:=@Go.World.grownBy_alloc
theorem E9:type_of% @Go.Sem.run_bind:=@Go.Sem.run_bind
theorem Fa:type_of% @List.cons_append:=@List.cons_append
theorem Fb:type_of% @List.length_append:=@List.length_append
theorem Fc:type_of% @List.mem_range:=@List.mem_range
theorem Fd:type_of% @Go.Proofs.Tryz.underlying124:=@Go.Proofs.Tryz.underlying124
theorem Fe:type_of% @Go.Proofs.Tryz.underlying231:=@Go.Proofs.Tryz.underlying231
theorem Ff:type_of% @Go.run_underlying:=@Go.run_underlying
theorem Fg:type_of% @Go.CallsIn.inRound:=@Go.CallsIn.inRound
theorem Fh:type_of% @List.mem_append:=@List.mem_append
theorem Fi:type_of% @Go.DataW.trod_string:=@Go.DataW.trod_string
theorem Fj:type_of% @List.push_toArray:=@List.push_toArray
theorem Fk:type_of% @Go.Proofs.Tryz.underlying50:=@Go.Proofs.Tryz.underlying50
theorem Fm:type_of% @Go.World.ownsRow_nil:=@Go.World.ownsRow_nil
theorem Fo:type_of% @Nat.lt_irrefl:=@Nat.lt_irrefl
theorem Fp:type_of% @Array.toList_append:=@Array.toList_append
theorem Fq:type_of% @Go.IntKind.wrap_u64:=@Go.IntKind.wrap_u64
theorem Fr:type_of% @List.length_cons:=@List.length_cons
theorem Ft:type_of% @Nat.add_sub_cancel_left:=@Nat.add_sub_cancel_left
theorem Fu:type_of% @Go.strOfNums_size:=@Go.strOfNums_size
theorem Fv:type_of% @Go.wp_load_row:=@Go.wp_load_row
theorem Fx:type_of% @Go.MapKept.run_setObj_map:=@Go.MapKept.run_setObj_map
theorem Fy:type_of% @Nat.eq_zero_or_pos:=@Nat.eq_zero_or_pos
theorem Fz:type_of% @Nat.lt_or_ge:=@Nat.lt_or_ge
theorem F0:type_of% @Nat.succ_mul:=@Nat.succ_mul
theorem F5:type_of% @Go.Proofs.Tryz.ntmps46:=@Go.Proofs.Tryz.ntmps46
theorem F7:type_of% @Go.World.grownBy.refl:=@Go.World.grownBy.refl
theorem Ga:type_of% @of_decide_eq_false:=@of_decide_eq_false
theorem Gb:type_of% @List.length_nil:=@List.length_nil
theorem Gc:type_of% @List.take_left':=@List.take_left'
theorem Gd:type_of% @Array.getElem?_toList:=@Array.getElem?_toList
theorem Ge:type_of% @List.append_assoc:=@List.append_assoc
theorem Gg:type_of% @Go.Proofs.Tryz.func46:=@Go.Proofs.Tryz.func46
theorem Gh:type_of% @List.all_eq_true:=@List.all_eq_true
theorem Gi:type_of% @Nat.lt_succ_self:=@Nat.lt_succ_self
theorem Gj:type_of% @Go.Sem.run_pure:=@Go.Sem.run_pure
theorem Gk:type_of% @Go.Proofs.Tryz.ntmps67:=@Go.Proofs.Tryz.ntmps67
theorem Gl:type_of% @Go.Proofs.Tryz.ntmps70:=@Go.Proofs.Tryz.ntmps70
theorem Gn:type_of% @Option.map_some:=@Option.map_some
theorem Gq:type_of% @decide_eq_true_iff:=@decide_eq_true_iff
theorem Gr:type_of% @Go.wpStill_nil:=@Go.wpStill_nil
theorem Gu:type_of% @Go.wp_load_mid:=@Go.wp_load_mid
theorem Gv:type_of% @Nat.le_of_eq:=@Nat.le_of_eq
theorem Gw:type_of% @Go.wpList_plain:=@Go.wpList_plain
theorem Gx:type_of% @Bool.true_and:=@Bool.true_and
theorem Gy:type_of% @List.map_cons:=@List.map_cons
theorem Gz:type_of% @List.map_take:=@List.map_take
theorem G0:type_of% @List.mem_cons:=@List.mem_cons
theorem G4:type_of% @Nat.mul_one:=@Nat.mul_one
theorem G5:type_of% @Classical.em:=@Classical.em
theorem G7:type_of% @List.map_nil:=@List.map_nil
theorem G9:type_of% @Nat.le_of_lt:=@Nat.le_of_lt
theorem Ha:type_of% @Nat.mul_comm:=@Nat.mul_comm
theorem Hc:type_of% @dif_neg:=@dif_neg
theorem He:type_of% @beq_iff_eq:=@beq_iff_eq
end Go.Proofs.YtcaejlalnjnifaaGreat
