import Derived.Test.YtcaejlalnjnifaaGreatR1
import Derived.OwnWalkIn
import Derived.Test.YtcaejlalnjnifaaGreatR2
set_option maxHeartbeats 8000000
set_option maxRecDepth 2000
open Option renaming none->I,some->M
open Go.Addr renaming mk->Q
open Go renaming World->Ad,Value->Aj
open Bool renaming false->Av,true->Aw
namespace Go.Proofs.YtcaejlalnjnifaaGreat
theorem jAs {F:Fence} {m:Nat} {P:Program} {a0:Array Oper} {Q:Exit->Act->Ad->Prop} (hb:jHe a0=Aw) (I:(Nat->Bool)->Act->Ad->Prop)
  (c0:∀ i,i<a0.size->∀ L a w,L i=Av->jHc a0 i L->I L a w->wpOpIn F m P a0 Q i (I fun k=>k==i || L k) a w)
  (b0:∀ L a w,(∀ i,i<a0.size->L i=Aw)->I L a w->Q .normal a w) :
  ∀ fuel (listed:Array Bool) a w,listed.size=a0.size->jHt listed<=fuel->I (fun k=>listed.getD k Av) a w->wpAnyIn F m P .any a0 Q fuel listed a w
 | 0,listed,a,w,hz,hf,hI=>by
  have hr:Region.ready .any a0 listed=[]:=List.eq_nil_iff_forall_not_mem.2 fun i hi=>by
   obtain⟨h1,o,ho,_⟩:=mem_ready.1 hi;have d0:i<listed.size:=by rw[hz];exact(Bz.1 ho).1
   have h2:listed.getD i Av=Av:=by
    rw[Dc,C8 d0] at h1 |-;simpa using h1
   have:=QO d0 h2
   omega
  exact⟨hr,b0 _ a w (JM hb hz hr) hI⟩
 | fuel+1,listed,a,w,hz,hf,hI=>by
  refine⟨fun hr=>b0 _ a w (JM hb hz hr) hI,fun i hi=>?_⟩;obtain⟨h1,o,ho,hd⟩:=mem_ready.1 hi;have d0:=(Bz.1 ho).1;have h2:listed.getD i Av=Av:=by
   rw[Dc,C8 (by omega)] at h1 |-;simpa using h1
  refine wpOpIn_mono (fun a' w' h=>?_) (c0 i d0 (fun k=>listed.getD k Av) a w h2 (fun o' e0 e he f0=>?_) hI)
  .refine jAs hb I c0 b0 fuel _ a' w' (by simpa using hz) ?_ ?_
   .have:=QO (listed:=listed) (i:=i) (by omega) h2
    omega
   .rw[jOz (by omega)];exact h
  .rw[ho] at e0;obtain rfl:=Ee e0;exact hd e he f0
theorem jQ0 {F:Fence} {m:Nat} {P:Program} {id:Nat} {a0:Array Oper} {Q:Exit->Act->Ad->Prop} {a:Act} {w:Ad} (hm:P.follows .mixedOrders=Aw) (n:Nat) (ts:List (List Nat×List Nat)) (hb:(jHe a0&&jTd (jFz a0 n) ts&&a0.size==n)=Aw) (I:(Nat->Bool)->Act->Ad->Prop) (h0:I (fun _=>Av) a w.drew) (d0:∀ a w,I (fun k=>decide (k<n)) a w->Q .normal a w) (b0:∀ i,i<n->∀ L a w,knT L ts i->I L a w->wpOpIn F m P a0 Q i (I fun k=>k==i || L k) a w):(Code.region id a0 Aw).wpIn F m P Q a w:=by
 rw[Cs,Cs,He] at hb;obtain⟨⟨e0,f0⟩,hn⟩:=hb;refine wpIn_region_any hm (jAs e0 (fun L a w=>Cl a0 n L/\I L a w) (fun i hi L a w hl hd h=>wpOpIn_mono (fun a' w' h'=>⟨h.1.up (by omega) hd,h'⟩) (b0 i (by omega) L a w (h.1.kn f0 hl hd) h.2)) (fun L a w c0 h=>d0 a w (h.1.all (fun i hi=>c0 i (by omega))▸h.2)) a0.size _ a _ (by simp) ?_ ?_)
 .exact By (List.countP_le_length) (by simp)
 .have:(fun k=>(Array.replicate a0.size Av).getD k Av)=fun _=>Av:=by
   funext k
   rw[Dc,Array.getElem?_replicate];split <;> rfl
  rw[this];exact⟨⟨(fun k h=>by cases h),fun _ _=>rfl⟩,h0⟩
theorem qU {F:Fence} {m:Nat} {P:Program} {a0:Array Oper} {Q:Exit->Act->Ad->Prop} {i:Nat} {o:Oper} {K':Act->Ad->Prop} {a:Act} {w:Ad} (hi:a0[i]?=M o) (hg:∀ t,Region.wanted o t=Aw) (h:∀ K:Act->Ad->Prop,(∀ a w,K' a w->K a w)->o.wpIn F m P a w K Q):wpOpIn F m P a0 Q i K' a w:=by
 unfold wpOpIn;rw[hi];dsimp only;rw[A6 (hg _)];exact h K' fun _ _ h=>h
theorem jE1 {P:Program} {F:Fence} {n:Nat} {w:Ad} {o:Oper} {a:Act} {K:Act->Ad->Prop} {Q:Exit->Act->Ad->Prop} (s x:Operand) (t:TypeId)
  (ho:o.op=.call {callee:=.builtin .append,args:=#[s,x],argTypes:=#[t,t]}) (ty:TypeId) (c0:o.type=ty) (v1 v2:Aj) (hs:a.eval s=v1) (hx:a.eval x=v2) (v:Aj) (w':Ad)
  (a0:(Builtin.append_ #[t,t] ty #[v1,v2]).run P w=.ok v w') (h:K (a.put o.dst v) w'):Oper.wpIn F n P o a w K Q:=by
 subst c0;unfold Oper.wpIn;refine⟨?_,?_⟩
 .simp[Oper.about,ho,resolve,Target.leads,Sem.run_pure]
 .rw[Oper.semAt_plain F _ _ (by rw[ho];intro c b0;cases b0)];simp[execOp,ho,resolve,invoke,builtin,hs,hx,a0,Result.andThen];exact h
end Go.Proofs.YtcaejlalnjnifaaGreat
