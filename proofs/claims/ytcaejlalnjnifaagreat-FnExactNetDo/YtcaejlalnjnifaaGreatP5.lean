import Derived.Test.YtcaejlalnjnifaaGreatP0
import Derived.Deep.RegionHeld2
set_option maxHeartbeats 8000000
set_option maxRecDepth 2000
open Option renaming none->I,some->M
open Go.Addr renaming mk->Q
open Go renaming World->Ad,Value->Aj
open Bool renaming false->Av,true->Aw
namespace Go.Proofs.YtcaejlalnjnifaaGreat
def jG2 (ops:Array Oper) (i:Nat) (L:Nat->Bool):Prop:=∀ o,ops[i]?=M o->∀ e∈o.after,Region.binds .any e=Aw->L e.on=Aw
def jCu (ops:Array Oper) (i k:Nat):Bool:=((ops[i]?).map fun o=>o.after.toList.any fun e=>Region.binds .any e&&e.on==k).getD Av
theorem jG2.dep {a0:Array Oper} {i:Nat} {L:Nat->Bool} (h:jG2 a0 i L) (k:Nat) (hb:jCu a0 i k=Aw):L k=Aw:=by
 unfold jCu at hb;cases ho:a0[i]? with
 | none=>rw[ho] at hb;cases hb
 | some o=>
  rw[ho] at hb;simp only[Gq,Er,List.any_eq_true,Cr,Hg] at hb;obtain⟨e,he,h1,h2⟩:=hb;rw[<-h2];exact h o ho e (Array.mem_toList_iff.1 he) h1
def jG4 (ops:Array Oper):Bool:=(List.range ops.size).all fun i=>((ops[i]?).map fun o=>o.after.toList.all fun e=>!Region.binds .any e || decide (e.on<i)).getD Aw
theorem JK {a0:Array Oper} (hb:jG4 a0=Aw) {listed:Array Bool} (hz:listed.size=a0.size) (h:Region.ready .any a0 listed=[]):∀ i,i<a0.size->listed.getD i Av=Aw:=by
 intro i;induction i using Nat.strongRecOn with
 | _ i ih=>
  intro hi;cases hl:listed.getD i Av with
  | true=>rfl
  | false=>
   exfalso;have ho:a0[i]?=M a0[i]:=C7 hi;have hm:i∈Region.ready .any a0 listed:=by
    refine mem_ready.2 ⟨?_,a0[i],ho,fun e he b0=>?_⟩
    .rw[C9,C7 (by omega)] at hl |-;simpa using hl
    .have h1:=Gi.1 hb i (Fe.2 hi);rw[ho] at h1;simp only[Gq,Er,Gi] at h1;have h2:=h1 e (Array.mem_toList_iff.2 he);rw[b0,Bool.not_true,Be,Ed] at h2;exact ih e.on h2 (by omega)
   rw[h] at hm;cases hm
theorem jOi {listed:Array Bool} {i:Nat} (hi:i<listed.size):(fun k=>(listed.setIfInBounds i Aw).getD k Av)=fun k=>k==i || listed.getD k Av:=by
 funext k
 by_cases h:i=k
 .subst h;simp[Array.getD_eq_getD_getElem?,hi]
 .rw[getD_set_ne Av h];have:(k==i)=Av:=by simp;omega
  rw[this,Be]
def jHi (listed:Array Bool):Nat:=listed.toList.countP (fun b=>!b)
theorem jCs:∀ (l:List Bool) (i:Nat),l[i]?=M Av->(l.set i Aw).countP (fun b=>!b)+1=l.countP (fun b=>!b)
 | [],i,h=>by simp at h
 | b::l,0,h=>by
  simp at h;subst h;simp
 | b::l,i+1,h=>by
  have ih:=jCs l i (by simpa using h);rw[List.set_cons_succ,List.countP_cons,List.countP_cons];omega
theorem QL {listed:Array Bool} {i:Nat} (hi:i<listed.size) (hf:listed.getD i Av=Av):jHi (listed.setIfInBounds i Aw)+1=jHi listed:=by
 unfold jHi;rw[Array.toList_setIfInBounds];refine jCs _ _ ?_;rw[C9,C7 hi] at hf;rw[Bj (by simpa using hi)];simpa using hf
theorem jEb {P:Program} {a0:Array Oper} {Q:Exit->Act->Ad->Prop} (hb:jG4 a0=Aw) (I:(Nat->Bool)->Act->Ad->Prop)
  (c0:∀ i,i<a0.size->∀ L a w,L i=Av->jG2 a0 i L->I L a w->wpOp P a0 Q i (I fun k=>k==i || L k) a w)
  (b0:∀ L a w,(∀ i,i<a0.size->L i=Aw)->I L a w->Q .normal a w) :
  ∀ fuel (listed:Array Bool) a w,listed.size=a0.size->jHi listed<=fuel->I (fun k=>listed.getD k Av) a w->wpAny P .any a0 Q fuel listed a w
 | 0,listed,a,w,hz,hf,hI=>by
  have hr:Region.ready .any a0 listed=[]:=List.eq_nil_iff_forall_not_mem.2 fun i hi=>by
   obtain⟨h1,o,ho,_⟩:=mem_ready.1 hi;have d0:i<listed.size:=by rw[hz];exact(By.1 ho).1
   have h2:listed.getD i Av=Av:=by
    rw[C9,C7 d0] at h1 |-;simpa using h1
   have:=QL d0 h2
   omega
  exact⟨hr,b0 _ a w (JK hb hz hr) hI⟩
 | fuel+1,listed,a,w,hz,hf,hI=>by
  refine⟨fun hr=>b0 _ a w (JK hb hz hr) hI,fun i hi=>?_⟩;obtain⟨h1,o,ho,hd⟩:=mem_ready.1 hi;have d0:i<a0.size:=(By.1 ho).1;have h2:listed.getD i Av=Av:=by
   rw[C9,C7 (by omega)] at h1 |-;simpa using h1
  refine wpOp_mono (fun a' w' h=>?_) (c0 i d0 (fun k=>listed.getD k Av) a w h2 (fun o' e0 e he f0=>?_) hI)
  .refine jEb hb I c0 b0 fuel _ a' w' (by simpa using hz) ?_ ?_
   .have:=QL (listed:=listed) (i:=i) (by omega) h2
    omega
   .rw[jOi (by omega)];exact h
  .rw[ho] at e0;obtain rfl:=En e0;exact hd e he f0
theorem jCe {P:Program} {id:Nat} {a0:Array Oper} {Q:Exit->Act->Ad->Prop} {a:Act} {w:Ad} (hm:P.follows .mixedOrders=Aw) (hb:jG4 a0=Aw) (I:(Nat->Bool)->Act->Ad->Prop) (h0:I (fun _=>Av) a w.drew) (b0:∀ i,i<a0.size->∀ L a w,L i=Av->jG2 a0 i L->I L a w->wpOp P a0 Q i (I fun k=>k==i || L k) a w) (c0:∀ L a w,(∀ i,i<a0.size->L i=Aw)->I L a w->Q .normal a w):(Code.region id a0 Aw).wp P Q a w:=by
 refine wp_region_any hm (jEb hb I b0 c0 a0.size _ a _ (by simp) ?_ ?_)
 .unfold jHi;refine Bx (List.countP_le_length) (by simp)
 .have:(fun k=>(Array.replicate a0.size Av).getD k Av)=fun _=>Av:=by
   funext k
   rw[C9,Array.getElem?_replicate];split <;> rfl
  rw[this];exact h0
theorem jB {P:Program} {a0:Array Oper} {Q:Exit->Act->Ad->Prop} {i:Nat} {o:Oper} {K':Act->Ad->Prop} {a:Act} {w:Ad} (hi:a0[i]?=M o) (hg:∀ t,Region.wanted o t=Aw) (h:∀ K:Act->Ad->Prop,(∀ a w,K' a w->K a w)->o.wp P a w K Q):wpOp P a0 Q i K' a w:=by
 unfold wpOp;rw[hi];dsimp only;rw[A6 (hg _)];exact .inl (h K' fun _ _ h=>h)
theorem jG2.mono {a0:Array Oper} {i:Nat} {L L':Nat->Bool} (h:jG2 a0 i L) (hm:∀ k,L k=Aw->L' k=Aw):jG2 a0 i L':=fun o ho e he hb=>hm _ (h o ho e he hb)
theorem qP {P:Program} {a0:Array Oper} {Q:Exit->Act->Ad->Prop} {i:Nat} {o:Oper} {K':Act->Ad->Prop} {a:Act} {w:Ad} (hi:a0[i]?=M o) (hg:Region.wanted o (yielded a0 a.tmps)=Aw) (h:∀ K:Act->Ad->Prop,(∀ a w,K' a w->K a w)->o.wp P a w K Q):wpOp P a0 Q i K' a w:=by
 unfold wpOp;rw[hi];dsimp only;rw[A6 hg];exact .inl (h K' fun _ _ h=>h)
def cX (b:Bool) (v o:Aj):Aj:=if b=Aw then v else o
theorem jJ (v o:Aj):cX Aw v o=v:=rfl
theorem jCr (v o:Aj):cX Av v o=o:=rfl
def jR9 (ops:Array Oper) (T:List Nat) (i:Nat):Nat:=(List.range i).foldl (fun a j=>if jCu ops i j=Aw then a ||| (2 ^ j ||| T.getD j 0) else a) 0
def jFq (ops:Array Oper):Nat->List Nat
 | 0=>[]
 | i+1=>jFq ops i++[jR9 ops (jFq ops i) i]
theorem jFr (a0:Array Oper):∀ n,(jFq a0 n).length=n
 | 0=>rfl
 | n+1=>by show (jFq a0 n++[_]).length=_;rw[Fd,jFr a0 n];rfl
theorem jCn (a0:Array Oper) (T:List Nat) (i k:Nat):∀ (l:List Nat) (a:Nat),(l.foldl (fun a j=>if jCu a0 i j=Aw then a ||| (2 ^ j ||| T.getD j 0) else a) a).testBit k=Aw->a.testBit k=Aw\/∃ j,jCu a0 i j=Aw/\(k=j\/(T.getD j 0).testBit k=Aw)
 | [],a,h=>.inl h
 | j::l,a,h=>by
  rcases jCn a0 T i k l _ h with h1|h1
  .replace h1:(if jCu a0 i j=Aw then a ||| (2 ^ j ||| T.getD j 0) else a).testBit k=Aw:=h1
   by_cases e:jCu a0 i j=Aw
   .rw[A6 e,Nat.testBit_or,Nat.testBit_or,Nat.testBit_two_pow,El,El,Ed] at h1;rcases h1 with h1|h1|h1
    .exact .inl h1
    .exact .inr ⟨j,e,.inl h1.symm⟩
    .exact .inr ⟨j,e,.inr h1⟩
   .rw[A5 e] at h1;exact .inl h1
  .exact .inr h1
theorem jO0 {a0:Array Oper} {T:List Nat} {i k:Nat} (h:(jR9 a0 T i).testBit k=Aw):∃ j,jCu a0 i j=Aw/\(k=j\/(T.getD j 0).testBit k=Aw):=by
 rcases jCn a0 T i k _ _ h with h1|h1
 .rw[Nat.zero_testBit] at h1;cases h1
 .exact h1
theorem QG {a0:Array Oper} {L:Nat->Bool} (hc:∀ q,L q=Aw->jG2 a0 q L):∀ n i k,((jFq a0 n).getD i 0).testBit k=Aw->jG2 a0 i L->L k=Aw
 | 0,i,k,h,_=>by
  rw[show (jFq a0 0).getD i 0=0 from by unfold jFq;simp,Nat.zero_testBit] at h;cases h
 | n+1,i,k,h,hd=>by
  have e:(jFq a0 (n+1)).getD i 0=if i<n then (jFq a0 n).getD i 0 else if i=n then jR9 a0 (jFq a0 n) n else 0:=by
   show (jFq a0 n++[_]).getD i 0=_;rw[Bw,List.getElem?_append,jFr];split
   .rw[Bw]
   .by_cases e1:i=n
    .subst e1;simp
    .rw[A5 e1,Bb (by simp;omega)];rfl
  rw[e] at h;by_cases h1:i<n
  .rw[A6 h1] at h;exact QG hc n i k h hd
  .rw[A5 h1] at h;by_cases h2:i=n
   .rw[A6 h2] at h;subst h2;obtain⟨j,ej,h3⟩:=jO0 h;have hj:=hd.dep j ej;rcases h3 with h3|h3
    .rw[h3];exact hj
    .exact QG hc i j k h3 (hc j hj)
   .rw[A5 h2,Nat.zero_testBit] at h;cases h
def knN (L:Nat->Bool):List Nat->Prop
 | []=>True
 | n::ns=>L n=Av/\knN L ns
def kn (L:Nat->Bool) (ns:List Nat):List Nat->Prop
 | []=>knN L ns
 | y::ys=>L y=Aw/\kn L ns ys
theorem jNy {L:Nat->Bool}:∀ {ns:List Nat},(∀ n,n∈ns->L n=Av)->knN L ns
 | [],_=>trivial
 | n::ns,h2=>⟨h2 n (by simp),jNy (fun x hx=>h2 x (by simp[hx]))⟩
theorem jQ8 {L:Nat->Bool} {ns:List Nat} (h2:∀ n,n∈ns->L n=Av):∀ {ys:List Nat},(∀ y,y∈ys->L y=Aw)->kn L ns ys
 | [],_=>jNy h2
 | y::ys,h1=>⟨h1 y (by simp),jQ8 h2 (ys:=ys) (fun x hx=>h1 x (by simp[hx]))⟩
def knT (L:Nat->Bool):List (List Nat×List Nat)->Nat->Prop
 | [],_=>True
 | t::_,0=>kn L t.2 t.1
 | _::ts,i+1=>knT L ts i
theorem jNz {L:Nat->Bool}:∀ {ts:List (List Nat×List Nat)} {i:Nat},(∀ t,ts[i]?=M t->kn L t.2 t.1)->knT L ts i
 | [],_,_=>trivial
 | t::_,0,h=>h t rfl
 | _::ts,i+1,h=>jNz (ts:=ts) (i:=i) (fun t ht=>h t (by simpa using ht))
def jSq (T:List Nat) (ts:List (List Nat×List Nat)):Bool:=(List.range ts.length).all fun i=>((ts[i]?).map fun t=>t.1.all (fun k=>(T.getD i 0).testBit k)&&t.2.all (fun k=>k==i || (T.getD k 0).testBit i)).getD Aw
def Cl (ops:Array Oper) (n:Nat) (L:Nat->Bool):Prop:=(∀ k,L k=Aw->jG2 ops k L)/\∀ k,n<=k->L k=Av
theorem Cl.up {a0:Array Oper} {n i:Nat} {L:Nat->Bool} (h:Cl a0 n L) (hi:i<n) (hd:jG2 a0 i L):Cl a0 n fun k=>k==i || L k:=by
 have up:∀ q,L q=Aw->(fun k=>k==i || L k) q=Aw:=fun q hq=>by show (q==i || L q)=Aw;rw[hq,Bool.or_true]
 refine⟨fun k hk=>?_,fun k hk=>?_⟩
 .by_cases e:k=i
  .subst e;exact hd.mono up
  .have h1:(k==i || L k)=Aw:=hk;have h2:(k==i)=Av:=by simpa using e
   rw[h2,Be] at h1;exact(h.1 k h1).mono up
 .show (k==i || L k)=Av;rw[h.2 k hk,Bool.or_false];have:k≠i:=by omega
  simpa using this
theorem Cl.kn {a0:Array Oper} {n i:Nat} {L:Nat->Bool} {ts:List (List Nat×List Nat)} (h:Cl a0 n L) (hb:jSq (jFq a0 n) ts=Aw) (hl:L i=Av) (hd:jG2 a0 i L):knT L ts i:=jNz fun t ht=>by
 have h1:=Gi.1 hb i (Fe.2 (Bz.1 ht).1);rw[ht] at h1;simp only[Gq,Er,Cr,Gi] at h1;refine jQ8 (fun k hk=>?_) (fun y hy=>QG h.1 n i y (h1.1 y hy) hd);have h2:=h1.2 k hk;rw[El,Hg] at h2;rcases h2 with h2|h2
 .rw[h2];exact hl
 .cases h3:L k with
  | false=>rfl
  | true=>rw[QG h.1 n k i h2 (h.1 k h3)] at hl;cases hl
theorem Cl.all {a0:Array Oper} {n:Nat} {L:Nat->Bool} (h:Cl a0 n L) (ha:∀ i,i<n->L i=Aw):L=fun k=>decide (k<n):=funext fun k=>by
 by_cases hk:k<n
 .rw[ha k hk];exact(Bf hk).symm
 .rw[h.2 k (by omega)];exact(Bh hk).symm
theorem JE {P:Program} {id:Nat} {a0:Array Oper} {Q:Exit->Act->Ad->Prop} {a:Act} {w:Ad} (hm:P.follows .mixedOrders=Aw) (n:Nat) (ts:List (List Nat×List Nat)) (hb:(jG4 a0&&jSq (jFq a0 n) ts&&a0.size==n)=Aw) (I:(Nat->Bool)->Act->Ad->Prop) (h0:I (fun _=>Av) a w.drew) (d0:∀ a w,I (fun k=>decide (k<n)) a w->Q .normal a w) (b0:∀ i,i<n->∀ L a w,knT L ts i->I L a w->wpOp P a0 Q i (I fun k=>k==i || L k) a w):(Code.region id a0 Aw).wp P Q a w:=by
 rw[Cr,Cr,Hg] at hb;obtain⟨⟨e0,f0⟩,hn⟩:=hb;refine jCe hm e0 (fun L a w=>Cl a0 n L/\I L a w) ⟨⟨(fun k h=>by cases h),fun _ _=>rfl⟩,h0⟩ (fun i hi L a w hl hd h=>?_) (fun L a w c0 h=>?_)
 .exact wpOp_mono (fun a' w' h'=>⟨h.1.up (by omega) hd,h'⟩) (b0 i (by omega) L a w (h.1.kn f0 hl hd) h.2)
 .exact d0 a w (h.1.all (fun i hi=>c0 i (by omega))▸h.2)
theorem ab {b:Bool} {R:Prop} (e:b=Av) (h:b=Aw):R:=Bo h (by rw[e];simp)
theorem ba {b:Bool} {R:Prop} (d:b=Aw) (h:b=Av):R:=Bo h (by rw[d];simp)
theorem nf {R:Prop} (h:Aw=Av):R:=Bo h (by simp)
end Go.Proofs.YtcaejlalnjnifaaGreat
