import Derived.Test.YtcaejlalnjnifaaGreatR0
import Derived.Test.YtcaejlalnjnifaaGreatRows
import Derived.ProofKit
import Derived.OpenShut
import Derived.ShutString
import Derived.Great.BuildSlice
import Derived.Deep.RegionHeld2
set_option maxHeartbeats 8000000
set_option maxRecDepth 2000
open Option renaming none->I,some->M
open Go.Addr renaming mk->Q
open Go.Obj renaming cells->J
open Go renaming World->Ad,Value->Aj,maxLen->Au
open Go.Value renaming pointer->Af,tuple->Ah,agg->Ai,int->Ao,oneCell'->Aq
open Bool renaming false->Av,true->Aw
namespace Go.Proofs.YtcaejlalnjnifaaGreat
def jPd (k:IntKind) (w:Ad) (a:OA) (len cap:Nat) (zs:List Int):Prop:=
 (a=I/\len=0/\cap=0/\zs=[]) \/
 ∃ x,a=M x/\len<=cap/\cap<=Au/\zs.length=cap/\(∀ i,i<zs.length->w.cell? (x.add i)=M (Ao k (zs.getD i 0)))/\∀ n∈zs,(Lit.int k n).wf=Aw
theorem qK (w:Ad) (zs cells:Array Aj) (t:TypeId):(w.alloc (J zs t)).setRow w cells=w.alloc (J cells t):=by
 unfold World.setRow World.alloc;congr 1
 apply Array.ext
 .simp
 .intro i h1 h2;simp only[Array.getElem_modify,Array.getElem_push];split
  .rename_i h
   subst h;simp
  .rename_i h
   have:i<w:=by simp at h2;omega
   simp[this]
theorem JF {P:Program} {d0:Array Oper} {c0:List Oper} {o1 o2 o3:Oper} {a:Act} {w:Ad} {Q:Exit->Act->Ad->Prop} (g1:o1.guard=I) (g2:o2.guard=I) (g3:o3.guard=I) (t e:TypeId) (n:Nat) (a0:Array (Nat×Operand)) (x y:Operand) (k:IntKind) (zs:List Int) (h1:o1.op=.build t a0) (h2:o2.op=.alloc t) (h3:o3.op=.store t x y) (hu:P.underlying t=M (.array n e)) (f0:(P.info? e).map (·.size)=M 1) (hz:((P.info? t).bind (·.zero)).map (·.cells.size)=M zs.length) (b0:a0.toList=(zs.zipIdx 0).map fun x=>(x.2,Operand.const (Ao k x.1))) (hi:(P.info? t).map (·.size)=M zs.length) (d1 d2:Tmp) (e1:o1.dst=M d1) (e2:o2.dst=M d2) (e3:o3.dst=I) (hx:x=.tmp d2) (hy:y=.tmp d1) (hd:d1≠d2) (b1:d1<a.tmps.size) (b2:d2<a.tmps.size) (h:wpList P d0 Q c0 ((a.put (M d1) (Ai (zs.map (Ao k)).toArray)).put (M d2) (Af (Addr.mk w 0 I))) (w.alloc (J (zs.map (Ao k)).toArray t))):wpList P d0 Q (o1::o2::o3::c0) a w:=by
 refine wpList_buildFlatArrTo g1 t e n a0 h1 k zs (M d1) e1 hu f0 hz b0 ?_;refine Gw g2 fun K hK=>?_
 cases hit:P.info? t with
 | none=>simp[hit] at hz
 | some it=>
  cases hzz:it.zero with
  | none=>simp[hit,hzz] at hz
  | some z=>
   simp only[hit,hzz,Gn,Option.some.injEq,Option.bind_some] at hz hi;have e0:(Instr.alloc t Aw (Ah #[])).run P w=.ok (Af (Addr.mk w 0 I)) (w.alloc (J z.cells t)):=by
    have ha:(zeroValue t).run P w=.ok z w:=by simp[zeroValue,typeInfo,hit,hzz]
    unfold Instr.alloc;simp only[E9,ha,Dz];rfl
   unfold Oper.wp execOp;simp only[h2,E9,e0,Dz];refine hK _ _ ?_;rw[e2];subst hx hy;refine wpList_store_rowTo g3 t _ _ h3 e3 w (zs.map (Ao k)).toArray ?_ ?_ t z.cells (Cq w _) (by simp[hit,hi]) (by simp[hz]) ?_ ?_
   .simp[Act.put,Act.eval,b2]
   .simp[Act.put,Act.eval,b1,Cj hd]
   .simp[Aq]
   .rw[qK];exact h
def jHc (ops:Array Oper) (i:Nat) (L:Nat->Bool):Prop:=∀ o,ops[i]?=M o->∀ e∈o.after,Region.binds .any e=Aw->L e.on=Aw
def jCy (ops:Array Oper) (i k:Nat):Bool:=((ops[i]?).map fun o=>o.after.toList.any fun e=>Region.binds .any e&&e.on==k).getD Av
theorem jHc.dep {a0:Array Oper} {i:Nat} {L:Nat->Bool} (h:jHc a0 i L) (k:Nat) (hb:jCy a0 i k=Aw):L k=Aw:=by
 unfold jCy at hb;cases ho:a0[i]? with
 | none=>rw[ho] at hb;cases hb
 | some o=>
  rw[ho] at hb;simp only[Gn,Er,List.any_eq_true,Cs,He] at hb;obtain⟨e,he,h1,h2⟩:=hb;rw[<-h2];exact h o ho e (Array.mem_toList_iff.1 he) h1
def jHe (ops:Array Oper):Bool:=(List.range ops.size).all fun i=>((ops[i]?).map fun o=>o.after.toList.all fun e=>!Region.binds .any e || decide (e.on<i)).getD Aw
theorem JM {a0:Array Oper} (hb:jHe a0=Aw) {listed:Array Bool} (hz:listed.size=a0.size) (h:Region.ready .any a0 listed=[]):∀ i,i<a0.size->listed.getD i Av=Aw:=by
 intro i;induction i using Nat.strongRecOn with
 | _ i ih=>
  intro hi;cases hl:listed.getD i Av with
  | true=>rfl
  | false=>
   exfalso;have ho:a0[i]?=M a0[i]:=C8 hi;have hm:i∈Region.ready .any a0 listed:=by
    refine mem_ready.2 ⟨?_,a0[i],ho,fun e he b0=>?_⟩
    .rw[Dc,C8 (by omega)] at hl |-;simpa using hl
    .have h1:=Gh.1 hb i (Fc.2 hi);rw[ho] at h1;simp only[Gn,Er,Gh] at h1;have h2:=h1 e (Array.mem_toList_iff.2 he);rw[b0,Bool.not_true,Bh,Ed] at h2;exact ih e.on h2 (by omega)
   rw[h] at hm;cases hm
theorem jOz {listed:Array Bool} {i:Nat} (hi:i<listed.size):(fun k=>(listed.setIfInBounds i Aw).getD k Av)=fun k=>k==i || listed.getD k Av:=by
 funext k
 by_cases h:i=k
 .subst h;simp[Array.getD_eq_getD_getElem?,hi]
 .rw[getD_set_ne Av h];have:(k==i)=Av:=by simp;omega
  rw[this,Bh]
def jHt (listed:Array Bool):Nat:=listed.toList.countP (fun b=>!b)
theorem jCw:∀ (l:List Bool) (i:Nat),l[i]?=M Av->(l.set i Aw).countP (fun b=>!b)+1=l.countP (fun b=>!b)
 | [],i,h=>by simp at h
 | b::l,0,h=>by
  simp at h;subst h;simp
 | b::l,i+1,h=>by
  have ih:=jCw l i (by simpa using h);rw[List.set_cons_succ,List.countP_cons,List.countP_cons];omega
theorem QO {listed:Array Bool} {i:Nat} (hi:i<listed.size) (hf:listed.getD i Av=Av):jHt (listed.setIfInBounds i Aw)+1=jHt listed:=by
 unfold jHt;rw[Array.toList_setIfInBounds];refine jCw _ _ ?_;rw[Dc,C8 hi] at hf;rw[Bj (by simpa using hi)];simpa using hf
theorem jEi {P:Program} {a0:Array Oper} {Q:Exit->Act->Ad->Prop} (hb:jHe a0=Aw) (I:(Nat->Bool)->Act->Ad->Prop)
  (c0:∀ i,i<a0.size->∀ L a w,L i=Av->jHc a0 i L->I L a w->wpOp P a0 Q i (I fun k=>k==i || L k) a w)
  (b0:∀ L a w,(∀ i,i<a0.size->L i=Aw)->I L a w->Q .normal a w) :
  ∀ fuel (listed:Array Bool) a w,listed.size=a0.size->jHt listed<=fuel->I (fun k=>listed.getD k Av) a w->wpAny P .any a0 Q fuel listed a w
 | 0,listed,a,w,hz,hf,hI=>by
  have hr:Region.ready .any a0 listed=[]:=List.eq_nil_iff_forall_not_mem.2 fun i hi=>by
   obtain⟨h1,o,ho,_⟩:=mem_ready.1 hi;have d0:i<listed.size:=by rw[hz];exact(Bz.1 ho).1
   have h2:listed.getD i Av=Av:=by
    rw[Dc,C8 d0] at h1 |-;simpa using h1
   have:=QO d0 h2
   omega
  exact⟨hr,b0 _ a w (JM hb hz hr) hI⟩
 | fuel+1,listed,a,w,hz,hf,hI=>by
  refine⟨fun hr=>b0 _ a w (JM hb hz hr) hI,fun i hi=>?_⟩;obtain⟨h1,o,ho,hd⟩:=mem_ready.1 hi;have d0:i<a0.size:=(Bz.1 ho).1;have h2:listed.getD i Av=Av:=by
   rw[Dc,C8 (by omega)] at h1 |-;simpa using h1
  refine wpOp_mono (fun a' w' h=>?_) (c0 i d0 (fun k=>listed.getD k Av) a w h2 (fun o' e0 e he f0=>?_) hI)
  .refine jEi hb I c0 b0 fuel _ a' w' (by simpa using hz) ?_ ?_
   .have:=QO (listed:=listed) (i:=i) (by omega) h2
    omega
   .rw[jOz (by omega)];exact h
  .rw[ho] at e0;obtain rfl:=Ee e0;exact hd e he f0
theorem jCj {P:Program} {id:Nat} {a0:Array Oper} {Q:Exit->Act->Ad->Prop} {a:Act} {w:Ad} (hm:P.follows .mixedOrders=Aw) (hb:jHe a0=Aw) (I:(Nat->Bool)->Act->Ad->Prop) (h0:I (fun _=>Av) a w.drew) (b0:∀ i,i<a0.size->∀ L a w,L i=Av->jHc a0 i L->I L a w->wpOp P a0 Q i (I fun k=>k==i || L k) a w) (c0:∀ L a w,(∀ i,i<a0.size->L i=Aw)->I L a w->Q .normal a w):(Code.region id a0 Aw).wp P Q a w:=by
 refine wp_region_any hm (jEi hb I b0 c0 a0.size _ a _ (by simp) ?_ ?_)
 .unfold jHt;refine By (List.countP_le_length) (by simp)
 .have:(fun k=>(Array.replicate a0.size Av).getD k Av)=fun _=>Av:=by
   funext k
   rw[Dc,Array.getElem?_replicate];split <;> rfl
  rw[this];exact h0
theorem jB {P:Program} {a0:Array Oper} {Q:Exit->Act->Ad->Prop} {i:Nat} {o:Oper} {K':Act->Ad->Prop} {a:Act} {w:Ad} (hi:a0[i]?=M o) (hg:∀ t,Region.wanted o t=Aw) (h:∀ K:Act->Ad->Prop,(∀ a w,K' a w->K a w)->o.wp P a w K Q):wpOp P a0 Q i K' a w:=by
 unfold wpOp;rw[hi];dsimp only;rw[A6 (hg _)];exact .inl (h K' fun _ _ h=>h)
theorem jHc.mono {a0:Array Oper} {i:Nat} {L L':Nat->Bool} (h:jHc a0 i L) (hm:∀ k,L k=Aw->L' k=Aw):jHc a0 i L':=fun o ho e he hb=>hm _ (h o ho e he hb)
theorem qQ {P:Program} {a0:Array Oper} {Q:Exit->Act->Ad->Prop} {i:Nat} {o:Oper} {K':Act->Ad->Prop} {a:Act} {w:Ad} (hi:a0[i]?=M o) (hg:Region.wanted o (yielded a0 a.tmps)=Aw) (h:∀ K:Act->Ad->Prop,(∀ a w,K' a w->K a w)->o.wp P a w K Q):wpOp P a0 Q i K' a w:=by
 unfold wpOp;rw[hi];dsimp only;rw[A6 hg];exact .inl (h K' fun _ _ h=>h)
def cX (b:Bool) (v o:Aj):Aj:=if b=Aw then v else o
theorem jJ (v o:Aj):cX Aw v o=v:=rfl
theorem jIo (v o:Aj):cX Av v o=o:=rfl
def jSu (ops:Array Oper) (T:List Nat) (i:Nat):Nat:=(List.range i).foldl (fun a j=>if jCy ops i j=Aw then a ||| (2 ^ j ||| T.getD j 0) else a) 0
def jFz (ops:Array Oper):Nat->List Nat
 | 0=>[]
 | i+1=>jFz ops i++[jSu ops (jFz ops i) i]
theorem jF0 (a0:Array Oper):∀ n,(jFz a0 n).length=n
 | 0=>rfl
 | n+1=>by show (jFz a0 n++[_]).length=_;rw[Fb,jF0 a0 n];rfl
theorem jCs (a0:Array Oper) (T:List Nat) (i k:Nat):∀ (l:List Nat) (a:Nat),(l.foldl (fun a j=>if jCy a0 i j=Aw then a ||| (2 ^ j ||| T.getD j 0) else a) a).testBit k=Aw->a.testBit k=Aw\/∃ j,jCy a0 i j=Aw/\(k=j\/(T.getD j 0).testBit k=Aw)
 | [],a,h=>.inl h
 | j::l,a,h=>by
  rcases jCs a0 T i k l _ h with h1|h1
  .replace h1:(if jCy a0 i j=Aw then a ||| (2 ^ j ||| T.getD j 0) else a).testBit k=Aw:=h1
   by_cases e:jCy a0 i j=Aw
   .rw[A6 e,Nat.testBit_or,Nat.testBit_or,Nat.testBit_two_pow,Em,Em,Ed] at h1;rcases h1 with h1|h1|h1
    .exact .inl h1
    .exact .inr ⟨j,e,.inl h1.symm⟩
    .exact .inr ⟨j,e,.inr h1⟩
   .rw[A5 e] at h1;exact .inl h1
  .exact .inr h1
theorem jPi {a0:Array Oper} {T:List Nat} {i k:Nat} (h:(jSu a0 T i).testBit k=Aw):∃ j,jCy a0 i j=Aw/\(k=j\/(T.getD j 0).testBit k=Aw):=by
 rcases jCs a0 T i k _ _ h with h1|h1
 .rw[Nat.zero_testBit] at h1;cases h1
 .exact h1
theorem QJ {a0:Array Oper} {L:Nat->Bool} (hc:∀ q,L q=Aw->jHc a0 q L):∀ n i k,((jFz a0 n).getD i 0).testBit k=Aw->jHc a0 i L->L k=Aw
 | 0,i,k,h,_=>by
  rw[show (jFz a0 0).getD i 0=0 from by unfold jFz;simp,Nat.zero_testBit] at h;cases h
 | n+1,i,k,h,hd=>by
  have e:(jFz a0 (n+1)).getD i 0=if i<n then (jFz a0 n).getD i 0 else if i=n then jSu a0 (jFz a0 n) n else 0:=by
   show (jFz a0 n++[_]).getD i 0=_;rw[Bx,List.getElem?_append,jF0];split
   .rw[Bx]
   .by_cases e1:i=n
    .subst e1;simp
    .rw[A5 e1,Be (by simp;omega)];rfl
  rw[e] at h;by_cases h1:i<n
  .rw[A6 h1] at h;exact QJ hc n i k h hd
  .rw[A5 h1] at h;by_cases h2:i=n
   .rw[A6 h2] at h;subst h2;obtain⟨j,ej,h3⟩:=jPi h;have hj:=hd.dep j ej;rcases h3 with h3|h3
    .rw[h3];exact hj
    .exact QJ hc i j k h3 (hc j hj)
   .rw[A5 h2,Nat.zero_testBit] at h;cases h
def knN (L:Nat->Bool):List Nat->Prop
 | []=>True
 | n::ns=>L n=Av/\knN L ns
def kn (L:Nat->Bool) (ns:List Nat):List Nat->Prop
 | []=>knN L ns
 | y::ys=>L y=Aw/\kn L ns ys
theorem jOc {L:Nat->Bool}:∀ {ns:List Nat},(∀ n,n∈ns->L n=Av)->knN L ns
 | [],_=>trivial
 | n::ns,h2=>⟨h2 n (by simp),jOc (fun x hx=>h2 x (by simp[hx]))⟩
theorem jRr {L:Nat->Bool} {ns:List Nat} (h2:∀ n,n∈ns->L n=Av):∀ {ys:List Nat},(∀ y,y∈ys->L y=Aw)->kn L ns ys
 | [],_=>jOc h2
 | y::ys,h1=>⟨h1 y (by simp),jRr h2 (ys:=ys) (fun x hx=>h1 x (by simp[hx]))⟩
def knT (L:Nat->Bool):List (List Nat×List Nat)->Nat->Prop
 | [],_=>True
 | t::_,0=>kn L t.2 t.1
 | _::ts,i+1=>knT L ts i
theorem jOd {L:Nat->Bool}:∀ {ts:List (List Nat×List Nat)} {i:Nat},(∀ t,ts[i]?=M t->kn L t.2 t.1)->knT L ts i
 | [],_,_=>trivial
 | t::_,0,h=>h t rfl
 | _::ts,i+1,h=>jOd (ts:=ts) (i:=i) (fun t ht=>h t (by simpa using ht))
def jTd (T:List Nat) (ts:List (List Nat×List Nat)):Bool:=(List.range ts.length).all fun i=>((ts[i]?).map fun t=>t.1.all (fun k=>(T.getD i 0).testBit k)&&t.2.all (fun k=>k==i || (T.getD k 0).testBit i)).getD Aw
def Cl (ops:Array Oper) (n:Nat) (L:Nat->Bool):Prop:=(∀ k,L k=Aw->jHc ops k L)/\∀ k,n<=k->L k=Av
theorem Cl.up {a0:Array Oper} {n i:Nat} {L:Nat->Bool} (h:Cl a0 n L) (hi:i<n) (hd:jHc a0 i L):Cl a0 n fun k=>k==i || L k:=by
 have up:∀ q,L q=Aw->(fun k=>k==i || L k) q=Aw:=fun q hq=>by show (q==i || L q)=Aw;rw[hq,Bool.or_true]
 refine⟨fun k hk=>?_,fun k hk=>?_⟩
 .by_cases e:k=i
  .subst e;exact hd.mono up
  .have h1:(k==i || L k)=Aw:=hk;have h2:(k==i)=Av:=by simpa using e
   rw[h2,Bh] at h1;exact(h.1 k h1).mono up
 .show (k==i || L k)=Av;rw[h.2 k hk,Bool.or_false];have:k≠i:=by omega
  simpa using this
theorem Cl.kn {a0:Array Oper} {n i:Nat} {L:Nat->Bool} {ts:List (List Nat×List Nat)} (h:Cl a0 n L) (hb:jTd (jFz a0 n) ts=Aw) (hl:L i=Av) (hd:jHc a0 i L):knT L ts i:=jOd fun t ht=>by
 have h1:=Gh.1 hb i (Fc.2 (Ca.1 ht).1);rw[ht] at h1;simp only[Gn,Er,Cs,Gh] at h1;refine jRr (fun k hk=>?_) (fun y hy=>QJ h.1 n i y (h1.1 y hy) hd);have h2:=h1.2 k hk;rw[Em,He] at h2;rcases h2 with h2|h2
 .rw[h2];exact hl
 .cases h3:L k with
  | false=>rfl
  | true=>rw[QJ h.1 n k i h2 (h.1 k h3)] at hl;cases hl
theorem Cl.all {a0:Array Oper} {n:Nat} {L:Nat->Bool} (h:Cl a0 n L) (ha:∀ i,i<n->L i=Aw):L=fun k=>decide (k<n):=funext fun k=>by
 by_cases hk:k<n
 .rw[ha k hk];exact(Bf hk).symm
 .rw[h.2 k (by omega)];exact(Bg hk).symm
theorem JP {P:Program} {id:Nat} {a0:Array Oper} {Q:Exit->Act->Ad->Prop} {a:Act} {w:Ad} (hm:P.follows .mixedOrders=Aw) (n:Nat) (ts:List (List Nat×List Nat)) (hb:(jHe a0&&jTd (jFz a0 n) ts&&a0.size==n)=Aw) (I:(Nat->Bool)->Act->Ad->Prop) (h0:I (fun _=>Av) a w.drew) (d0:∀ a w,I (fun k=>decide (k<n)) a w->Q .normal a w) (b0:∀ i,i<n->∀ L a w,knT L ts i->I L a w->wpOp P a0 Q i (I fun k=>k==i || L k) a w):(Code.region id a0 Aw).wp P Q a w:=by
 rw[Cs,Cs,He] at hb;obtain⟨⟨e0,f0⟩,hn⟩:=hb;refine jCj hm e0 (fun L a w=>Cl a0 n L/\I L a w) ⟨⟨(fun k h=>by cases h),fun _ _=>rfl⟩,h0⟩ (fun i hi L a w hl hd h=>?_) (fun L a w c0 h=>?_)
 .exact wpOp_mono (fun a' w' h'=>⟨h.1.up (by omega) hd,h'⟩) (b0 i (by omega) L a w (h.1.kn f0 hl hd) h.2)
 .exact d0 a w (h.1.all (fun i hi=>c0 i (by omega))▸h.2)
theorem ab {b:Bool} {R:Prop} (e:b=Av) (h:b=Aw):R:=Bo h (by rw[e];simp)
theorem ba {b:Bool} {R:Prop} (d:b=Aw) (h:b=Av):R:=Bo h (by rw[d];simp)
theorem nf {R:Prop} (h:Aw=Av):R:=Bo h (by simp)
end Go.Proofs.YtcaejlalnjnifaaGreat
