import Derived.Test.YtcaejlalnjnifaaGreatP0
import Derived.ProofKit
import Derived.Great.BuildSlice
set_option maxHeartbeats 8000000
set_option maxRecDepth 2000
open Option renaming none->I,some->M
open Go.RowKit renaming Hid->H
open Go.Addr renaming mk->Q
open Go.Obj renaming cells->J
open Go renaming World->Ad,Value->Aj
open Go.Value renaming pointer->Af,tuple->Ah,agg->Ai,int->Ao,oneCell'->Aq
open Bool renaming true->Aw
namespace Go.Proofs.YtcaejlalnjnifaaGreat
theorem qI (w:Ad) (zs cells:Array Aj) (t:TypeId):(w.alloc (J zs t)).setRow w cells=w.alloc (J cells t):=by
 unfold World.setRow World.alloc;congr 1
 apply Array.ext
 .simp
 .intro i h1 h2;simp only[Array.getElem_modify,Array.getElem_push];split
  .rename_i h
   subst h;simp
  .rename_i h
   have:i<w:=by simp at h2;omega
   simp[this]
theorem JD {P:Program} {d0:Array Oper} {c0:List Oper} {o1 o2 o3:Oper} {a:Act} {w:Ad} {Q:Exit->Act->Ad->Prop} (g1:o1.guard=I) (g2:o2.guard=I) (g3:o3.guard=I) (t e:TypeId) (n:Nat) (a0:Array (Nat×Operand)) (x y:Operand) (k:IntKind) (zs:List Int) (h1:o1.op=.build t a0) (h2:o2.op=.alloc t) (h3:o3.op=.store t x y) (hu:P.underlying t=M (.array n e)) (f0:(P.info? e).map (·.size)=M 1) (hz:((P.info? t).bind (·.zero)).map (·.cells.size)=M zs.length) (b0:a0.toList=(zs.zipIdx 0).map fun x=>(x.2,Operand.const (Ao k x.1))) (hi:(P.info? t).map (·.size)=M zs.length) (d1 d2:Tmp) (e1:o1.dst=M d1) (e2:o2.dst=M d2) (e3:o3.dst=I) (hx:x=.tmp d2) (hy:y=.tmp d1) (hd:d1≠d2) (b1:d1<a.tmps.size) (b2:d2<a.tmps.size) (h:wpList P d0 Q c0 ((a.put (M d1) (Ai (zs.map (Ao k)).toArray)).put (M d2) (Af (Addr.mk w 0 I))) (w.alloc (J (zs.map (Ao k)).toArray t))):wpList P d0 Q (o1::o2::o3::c0) a w:=by
 refine wpList_buildFlatArrTo g1 t e n a0 h1 k zs (M d1) e1 hu f0 hz b0 ?_;refine Gw g2 fun K hK=>?_
 cases hit:P.info? t with
 | none=>simp[hit] at hz
 | some it=>
  cases hzz:it.zero with
  | none=>simp[hit,hzz] at hz
  | some z=>
   simp only[hit,hzz,Gq,Option.some.injEq,Option.bind_some] at hz hi;have e0:(Instr.alloc t Aw (Ah #[])).run P w=.ok (Af (Addr.mk w 0 I)) (w.alloc (J z.cells t)):=by
    have ha:(zeroValue t).run P w=.ok z w:=by simp[zeroValue,typeInfo,hit,hzz]
    unfold Instr.alloc;simp only[Fb,ha,Dy];rfl
   unfold Oper.wp execOp;simp only[h2,Fb,e0,Dy];refine hK _ _ ?_;rw[e2];subst hx hy;refine wpList_store_rowTo g3 t _ _ h3 e3 w (zs.map (Ao k)).toArray ?_ ?_ t z.cells (Co w _) (by simp[hit,hi]) (by simp[hz]) ?_ ?_
   .simp[Act.put,Act.eval,b2]
   .simp[Act.put,Act.eval,b1,Ci hd]
   .simp[Aq]
   .rw[qI];exact h
end Go.Proofs.YtcaejlalnjnifaaGreat
namespace Go.Proofs.YtcaejlalnjnifaaGreat
open Go.RowKit
theorem hd {p:Prop} (h:p):H p:=h
theorem nmH {α:Sort _} (t:α):∃ x,H (x=t):=⟨t,rfl⟩
theorem nnH {α:Sort _} (t:α):∃ x,H (t=x):=⟨t,rfl⟩
end Go.Proofs.YtcaejlalnjnifaaGreat
