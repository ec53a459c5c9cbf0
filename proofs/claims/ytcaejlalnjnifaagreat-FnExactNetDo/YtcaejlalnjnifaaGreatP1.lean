import Derived.Test.YtcaejlalnjnifaaGreatP0
import Derived.Test.YtcaejlalnjnifaaGreatRows
import Derived.ProofKit
import Derived.OpenShut
import Derived.ShutString
import Derived.RangeFuncNested
import Derived.RangeFuncBound
import Derived.Shelf.RegionOpen
import Derived.OwnWalkIn
import Derived.LoopNIn
import Derived.LoopIn
set_option maxHeartbeats 8000000
set_option maxRecDepth 2000
open Option renaming none->I,some->M
open Go.Addr renaming mk->Q
open Go.Obj renaming cells->J
open Go.RowKit renaming Below->Ab
open Go renaming World->Ad,Value->Aj,maxLen->Au
open Go.Ending renaming returned->Ae
open Go.Value renaming int->Ao
open Bool renaming false->Av,true->Aw
open Go.ChangeShapes Go.WideShapes Go.ChangeAt Go.RowKit
namespace Go.Proofs.YtcaejlalnjnifaaGreat
def jOw (k:IntKind) (w:Ad) (a:OA) (len cap:Nat) (zs:List Int):Prop:=
 (a=I/\len=0/\cap=0/\zs=[]) \/
 ∃ x,a=M x/\len<=cap/\cap<=Au/\zs.length=cap/\(∀ i,i<zs.length->w.cell? (x.add i)=M (Ao k (zs.getD i 0)))/\∀ n∈zs,(Lit.int k n).wf=Aw
def Row (w:Ad) (g:Nat) (t:TypeId) (cs:Array Aj):Prop:=w.1[g]?=M (J cs t)
theorem Row.cell {w:Ad} {g:Nat} {t:TypeId} {cs:Array Aj} (h:Row w g t cs) (i:Nat):w.cell? (Q g i I)=cs[i]?:=by
 unfold Row at h;simp[World.cell?,h]
theorem Row.free {w:Ad} {g:Nat} {t:TypeId} {cs:Array Aj} (h:Row w g t cs) (i:Nat):w.frozen? (Q g i I)=Av:=by
 unfold Row at h;simp[World.frozen?,h]
theorem Row.lt {w:Ad} {g:Nat} {t:TypeId} {cs:Array Aj} (h:Row w g t cs):g<w:=(By.1 h).1
theorem Row.new (w:Ad) (cs:Array Aj) (t:TypeId):Row (w.alloc (J cs t)) w t cs:=Co w _
theorem Row.alloc {w:Ad} {g:Nat} {t:TypeId} {cs:Array Aj} (h:Row w g t cs) (o:Obj):Row (w.alloc o) g t cs:=by
 unfold Row;rw[Below.heap_alloc _ _ _ h.lt];exact h
theorem Row.drew {w:Ad} {g:Nat} {t:TypeId} {cs:Array Aj} (h:Row w g t cs):Row w.drew g t cs:=h
theorem Row.below {w w':Ad} {g B:Nat} {t:TypeId} {cs:Array Aj} (h:Row w g t cs) (hb:Ab B w w') (hg:g<B):Row w' g t cs:=by
 unfold Row;rw[hb.block g hg];exact h
theorem Row.set {w:Ad} {g:Nat} {t:TypeId} {cs:Array Aj} (h:Row w g t cs) (i:Nat) (x:Aj):Row (w.setCell (Q g i I) x) g t (cs.setIfInBounds i x):=by
 unfold Row at *;simp[World.setCell,Array.getElem?_modify,h]
theorem Row.other {w:Ad} {g k:Nat} {t:TypeId} {cs:Array Aj} (h:Row w g t cs) (i:Nat) (x:Aj) (hk:g≠k):Row (w.setCell (Q k i I) x) g t cs:=by
 unfold Row;rw[Df _ _ _ _ hk];exact h
theorem Row.row {w:Ad} {g:Nat} {t:TypeId} {cs ds:Array Aj} (h:Row w g t cs):Row (w.setRow g ds) g t ds:=setRow_heap w g cs ds t (0,0) h
theorem Row.otherRow {w:Ad} {g k:Nat} {t:TypeId} {cs ds:Array Aj} (h:Row w g t cs) (hk:g≠k):Row (w.setRow k ds) g t cs:=by
 unfold Row;rw[Cj _ _ _ _ hk];exact h
theorem jG {B g:Nat} {w0 w:Ad} (hb:Ab B w0 w) (a0:B<=g) (cs:Array Aj):Ab B w0 (w.setRow g cs):=
 hb.trans ⟨rfl,rfl,rfl,by simp,fun k hk=>Cj _ _ _ _ (by omega)⟩
theorem jD (w:Ad):Ab w w w.drew:=⟨rfl,rfl,rfl,Ay _,fun _ _=>rfl⟩
theorem qO (w:Ad):({heap:=w.1,tape:=w.tape,drawn:=w.drawn+1,os:=w.os,output:=w.output}:Ad)=w.drew:=rfl
end Go.Proofs.YtcaejlalnjnifaaGreat
namespace Go.Proofs.YtcaejlalnjnifaaGreat
open Go.RowKit Go.Shelf
def jOy (P:Program) (gf:Nat) (recv:Aj) {σ:Type} (encs:σ->Array Aj) (ok:σ->Prop) (nx:σ->σ) (fin:σ->Prop) (s0:σ):Prop:=
 ∀ (n m l:Nat) (J:σ->Ad->Prop) (W:Ad),(∀ s A B,J s A->A.grownBy B (M W.1.size)->J s B) ->
  (∀ s W1,ok s->J s W1->W.1.size<W1.1.size->YieldAt Fence.wide m P l (encs s) W1 fun e W'=>e=Ae Aw/\J (nx s) W'/\W.1.size<W'.1.size/\W'.1[W.1.size]?=W1.1[W.1.size]?) ->
  m+1=n->J s0 W->CallsIn Fence.wide n P gf #[recv,.func (.yield l) #[] #[]] W fun e W'=>(∃ v,e=Ae v)/\∃ s,fin s/\J s W'
def jRk (K:Ad->Prop):Exit->Act->Ad->Prop
 | .normal,_,W'=>K W'
 | _,_,_=>False
theorem xE {w w':Ad} (b:Option Nat) (hb:Ab w w w'):w.grownBy w' b:=⟨hb.os,hb.tape,hb.output,hb.size,fun k hk _=>hb.block k hk⟩
theorem qQ (W:Ad) (l:Nat) (o:Obj):W.grownBy (W.putObj l o) (M l):=grownBy_putObj' W l o
theorem zN {P:Program} {σ:Type} {g:Operand} {ps:Array Tmp} {assign body:Code} {Q:Exit->Act->Ad->Prop} {a:Act} {w:Ad}
  {gf:Nat} {recv:Aj} (hg:a.eval g=.func (.func gf) #[recv] #[]) (eg:∀ args w,(callFunc gf args).run P w=.ok (.enter gf args) w)
  {c0:σ->Array Aj} {ok:σ->Prop} {nx:σ->σ} {fin:σ->Prop} {s0:σ} (r0:jOy P gf recv c0 ok nx fin s0) (e1:∀ s,(c0 s).size=ps.size)
  (I:σ->Ad->Prop) (hI:∀ s A B j,w.1.size<=j->j<w.1.size+3->I s A->A.grownBy B (M j)->I s B) (h0:I s0 w)
  (g0:∀ (l:Nat) (s:σ) (W:Ad),ok s->I s W->w.1.size+2<W.1.size ->
   assign.wpIn (Fence.wide.inRound l) 0 P (Exit.then (fun a₁ W1=>W.grownBy W1 none/\∀ W2,W1.grownBy W2 (M (w.1.size+1))->W2.1.size=W1.1.size->body.wpIn (Fence.wide.inRound l) 0 P (jRk fun W3=>W2.1.size<=W3.1.size/\(∀ j,w.1.size<=j->j<w.1.size+3->W3.1[j]?=W2.1[j]?)/\I (nx s) W3) a₁ W2) (fun _ _ _=>False))
    {tmps:=(ps.zip (c0 s)).foldl (fun t (p,v)=>t.setIfInBounds p v) a.tmps,defers:=[]} W)
  (j0:∀ (s:σ) (W:Ad),fin s->I s W->W.1[w.1.size]?=M (.deferred (M []))->Q .normal {a with defers:={target:=.collected w.1.size,args:=#[]}::a.defers} W) :
  (Code.rangeFunc g ps assign body).wpIn Fence.wide 2 P Q a w:=by
 refine wpIn_rangeFunc ?_;intro fn x0;rw[show Fence.wide.round=none from rfl];obtain⟨b0,a0⟩:∃ b0:LoopState->Option Code->Loop,b0=fun st pe=>{state:=st,pending:=pe,fn,tmps:=a.tmps,params:=ps,assign,body,defers:=w.1.size}:=⟨_,rfl⟩
 obtain⟨W1,d0⟩:∃ W1,(w.alloc (.deferred (M []))).alloc (.loop (b0 .ready none))=W1:=⟨_,rfl⟩;have w0:W1.1[w.1.size+1]?=M (.loop (b0 .ready none)):=by
  rw[<-d0];have:=World.alloc_heap_new (w.alloc (.deferred (M []))) (.loop (b0 .ready none));rwa [World.size_alloc] at this
 have v0:W1.1[w.1.size]?=M (.deferred (M [])):=by
  rw[<-d0];exact(Below.heap_alloc _ _ _ (by simp)).trans (World.alloc_heap_new w _)
 have t0:W1.1.size=w.1.size+2:=by rw[<-d0];simp
 have u0:I s0 W1:=by
  rw[<-d0];exact hI _ _ _ w.1.size (Ay _) (by omega) (hI _ _ _ w.1.size (Ay _) (by omega) h0 (Fa _ _ _)) (Fa _ _ _)
 refine⟨w.1.size+1,[{target:=.collected w.1.size,args:=#[]}],W1,{target:=.fn (.func gf) #[],args:=#[recv,.func (.yield (w.1.size+1)) #[] #[]]},W1,gf,
  #[recv, .func (.yield (w.1.size + 1)) #[] #[]], W1, ?_, ?_, fun _ _ => trivial, ?_, fun _ => by omega, ?_⟩
 .rw[<-d0,a0];exact run_enterLoop_outer _ _ _ _ _
 .simp only[resolve,hg];simp[go_sem]
 .simp[invoke,go_sem,eg]
 .refine(r0 1 0 (w.1.size+1)
   (fun s W=>I s W/\W.1[w.1.size+1]?=M (.loop (b0 .ready none))/\W.1[w.1.size]?=M (.deferred (M []))) W1
   (fun s A B hs e0=>?_) ?_ rfl ⟨u0,w0,v0⟩).mono ?_
  .rw[t0] at e0;obtain⟨h1,h2,h3⟩:=hs;exact⟨hI _ _ _ _ (by omega) (by omega) h1 e0,(e0.block _ (By.1 h2).1 (by simp)).trans h2,(e0.block _ (By.1 h3).1 (by simp)).trans h3⟩
  .rintro s W c1 ⟨hi,hl,hk⟩ m0;rw[t0] at m0 |-;have hy:=run_yield (P:=P) (args:=c0 s) hl (by rw[a0];exact e1 s);rw[a0] at hy;refine⟨fn,_,assign,body,hy,roundIn_of_wpIn x0 (Code.wpIn_mono ?_ (g0 _ s W c1 hi m0))⟩;intro e a1 Wa hq;cases e with
   | normal=>
    obtain⟨f0,i0⟩:=hq;have p0:Wa.1[w.1.size+1]?=M (.loop (b0 .ready none)):=(f0.block _ (by omega) (by simp)).trans hl;have z0:Wa.1[w.1.size]?=M (.deferred (M [])):=(f0.block _ (by omega) (by simp)).trans hk;have q0:w.1.size+1<Wa.1.size:=(By.1 p0).1;refine⟨_,run_beginRound p0 (by rw[a0]),?_⟩;have b1:(Wa.putObj (w.1.size+1) (.loop {b0 .ready none with state:=.busy})).1[w.1.size+1]?=M (.loop {b0 .ready none with state:=.busy}):=World.putObj_heap_same q0;refine Code.wpIn_mono ?_ (i0 _ (qQ _ _ _) (by simp));intro e a3 W3 hp;cases e with
    | normal=>
     obtain⟨f1,k0,y0⟩:=hp;have n0:W3.1[w.1.size+1]?=M (.loop {b0 .ready none with state:=.busy}):=(k0 _ (by omega) (by omega)).trans b1;have hr:=run_endRound (P:=P) none n0;have o0:=(By.1 n0).1;refine⟨_,_,hr,rfl,⟨hI _ _ _ _ (by omega) (by omega) y0 (qQ _ _ _),?_,?_⟩,?_,?_⟩
     .rw[World.putObj_heap_same o0,a0];rfl
     .rw[E6 (by omega),k0 _ (by omega) (by omega),E6 (by omega)];exact z0
     .simp at f1 |-;have:=f0.size
      omega
     .rw[E6 (by omega),k0 _ (by omega) (by omega),E6 (by omega)];exact f0.block _ m0 (by simp)
    | ret=>exact hp.elim
    | exit id=>exact hp.elim
    | goto t=>exact hp.elim
    | panic ch=>exact hp.elim
    | outgrown=>exact hp.elim
   | ret=>exact hq.elim
   | exit id=>exact hq.elim
   | goto t=>exact hq.elim
   | panic ch=>exact hq.elim
   | outgrown=>exact hq.elim
  .rintro e W2 ⟨⟨v,rfl⟩,s,hf,hi,hl,hk⟩;exact⟨none,_,by have:=run_endLoop (P:=P) hl (by rw[a0];simp);rw[a0] at this;exact this,j0 s _ hf (hI _ _ _ _ (by omega) (by omega) hi (qQ _ _ _)) ((E6 (by omega)).trans hk)⟩
end Go.Proofs.YtcaejlalnjnifaaGreat
