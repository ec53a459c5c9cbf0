import Derived.Test.YtcaejlalnjnifaaGreatR0
import Derived.ProofKit
import Derived.RangeFuncNested
import Derived.RangeFuncBound
import Derived.Shelf.RegionOpen
import Derived.OwnWalkIn
import Derived.LoopNIn
import Derived.LoopIn
set_option maxHeartbeats 8000000
set_option maxRecDepth 2000
open Option renaming none->I,some->M
open Go.Addr renaming mk->Q
open Go.Obj renaming cells->J
open Go.RowKit renaming Below->Ab
open Go renaming World->Ad,Value->Aj
open Go.Ending renaming returned->Ae
open Bool renaming false->Av,true->Aw
open Go.ChangeShapes Go.WideShapes Go.ChangeAt Go.RowKit
namespace Go.Proofs.YtcaejlalnjnifaaGreat
namespace Gs
def U (x:BitVec 64):Int:=(x.toNat:Int)
theorem U_nat {n:Nat} (h:n<18446744073709551616):((n:Nat):Int)=U (BitVec.ofNat 64 n):=by
 unfold U;rw[BitVec.toNat_ofNat,Dx (by omega)]
theorem wrap_nat (n:Nat):IntKind.u64.wrap (n:Int)=((n % 18446744073709551616:Nat):Int):=by
 rw[Fq];omega
theorem U_add (x y:BitVec 64):IntKind.u64.wrap (U x+U y)=U (x+y):=by
 unfold U;rw[BitVec.toNat_add,<-Int.natCast_add,wrap_nat]
theorem U_xor (x y:BitVec 64):bits .xor .u64 (U x) (U y)=U (x ^^^ y):=by
 unfold U;rw[bits_xor_u64_nat _ _ x.isLt y.isLt,BitVec.toNat_xor]
theorem U_or (x y:BitVec 64):bits .or .u64 (U x) (U y)=U (x ||| y):=by
 unfold U;rw[bits_or_u64_nat _ _ x.isLt y.isLt,BitVec.toNat_or]
theorem U_shl (x:BitVec 64) (k:Nat):IntKind.u64.wrap (U x*2 ^ k)=U (x <<< k):=by
 unfold U;rw[BitVec.toNat_shiftLeft,Nat.shiftLeft_eq,<-wrap_nat];simp
theorem U_shr (x:BitVec 64) (k:Nat):U x / 2 ^ k=U (x >>> k):=by
 unfold U;rw[BitVec.toNat_ushiftRight,Nat.shiftRight_eq_div_pow];simp
def rol (x:BitVec 64) (r:Nat):BitVec 64:=x.rotateLeft r
theorem rol_bit (x:BitVec 64) (r i:Nat) (hi:i<64):(rol x r).getLsbD i=x.getLsbD ((i+(64-r % 64)) % 64):=by
 unfold rol;rw[BitVec.getLsbD_rotateLeft];by_cases h:i<r % 64
 .simp only[h,Dp,cond_true];congr 1
  omega
 .simp only[h,decide_false,cond_false,hi,Dp,Gx];congr 1
  omega
theorem rol_rol (x:BitVec 64) (r q:Nat):rol (rol x r) q=rol x (r+q):=by
 apply BitVec.eq_of_getLsbD_eq
 intro i hi;rw[rol_bit _ _ _ hi,rol_bit _ _ _ (E5 _ (by omega)),rol_bit _ _ _ hi];congr 1
 omega
theorem rol_zero (x:BitVec 64):rol x 0=x:=by
 apply BitVec.eq_of_getLsbD_eq
 intro i hi;rw[rol_bit _ _ _ hi];congr 1
 omega
def rolI (x:BitVec 64) (n:Int):BitVec 64:=rol x (n % 64).toNat
theorem rol_shifts (x:BitVec 64) (s:Nat) (hs:s<64):x <<< s ||| x >>> (64-s)=rol x s:=by
 unfold rol;rw[BitVec.rotateLeft_def,Dx hs]
theorem rol_one (x:BitVec 64) (r:Nat):rol x r <<< 1 ||| rol x r >>> 63=rol x (r+1):=by
 rw[<-rol_rol];exact rol_shifts _ 1 (by omega)
structure V4 where
 a:BitVec 64
 b:BitVec 64
 c:BitVec 64
 d:BitVec 64
def mx (v:V4):V4:=
 let a0:=v.a+v.b
 let c0:=v.c+v.d
 let b0:=rolI v.b 13 ^^^ a0
 let d0:=rolI v.d 16 ^^^ c0
 let a1:=rolI a0 32+d0
 let c1:=c0+b0
 ⟨a1,rolI b0 17 ^^^ c1,rolI c1 32,rolI d0 21 ^^^ a1⟩
def inn (v:V4) (x:BitVec 64):V4:=
 let u:=mx (mx ⟨v.a,v.b,v.c,v.d ^^^ x⟩)
 ⟨u.a ^^^ x,u.b,u.c,u.d⟩
def all4 (v:V4):BitVec 64:=v.a ^^^ v.b ^^^ v.c ^^^ v.d
def fin (v:V4):V4:=mx (mx (mx (mx ⟨v.a,v.b,v.c ^^^ 255#64,v.d⟩)))
def key (a b:BitVec 64):V4:=⟨a ^^^ 8317987319222330741#64,b ^^^ 7237128888997146477#64,a ^^^ 7816392313619706465#64,b ^^^ 8387220255154660723#64⟩
def le (T:Nat->Nat) (o:Nat):Nat->Nat
 | 0=>0
 | k+1=>le T o k+T (o+k)*256 ^ k
theorem le_lt {T:Nat->Nat} (hT:∀ i,T i<256) (o k:Nat):le T o k<256 ^ k:=by
 induction k with
 | zero=>simp[le]
 | succ k ih=>
  have:=hT (o+k)
  have h2:T (o+k)*256 ^ k<=255*256 ^ k:=Du _ (by omega);rw[Nat.pow_succ];simp only[le];omega
theorem le_lt64 {T:Nat->Nat} (hT:∀ i,T i<256) (o k:Nat) (hk:k<=8):le T o k<18446744073709551616:=by
 have h1:=le_lt hT o k;have h2:256 ^ k<=256 ^ 8:=Nat.pow_le_pow_right (by omega) hk;have h3:(256:Nat) ^ 8=18446744073709551616:=by decide
 omega
theorem le_congr {T S:Nat->Nat} {o q:Nat} (k:Nat) (h:∀ j,j<k->T (o+j)=S (q+j)):le T o k=le S q k:=by
 induction k with
 | zero=>rfl
 | succ k ih=>simp only[le];rw[ih (fun j hj=>h j (by omega)),h k (by omega)]
theorem le_first (T:Nat->Nat) (o k:Nat):le T o (k+1)=le T (o+1) k*256+T o:=by
 induction k with
 | zero=>simp[le]
 | succ k ih=>
  rw[le,ih,le];have e:o+(k+1)=o+1+k:=by omega
  rw[e,Nat.pow_succ,Eu,<-Nat.mul_assoc];omega
theorem le_or {T:Nat->Nat} (hT:∀ i,T i<256) (o k:Nat):le T o k ||| T (o+k)*2 ^ (8*k)=le T o (k+1):=by
 have e:(2:Nat) ^ (8*k)=256 ^ k:=by rw[Nat.pow_mul]
 have h:=Nat.two_pow_add_eq_or_of_lt (i:=8*k) (b:=le T o k) (by rw[e];exact le_lt hT o k) (T (o+k));simp only[le];rw[Nat.or_comm,Ha (T (o+k)),<-h,e,Ha (256 ^ k)];omega
def blk (T:Nat->Nat) (v:V4):Nat->V4
 | 0=>v
 | q+1=>inn (blk T v q) (BitVec.ofNat 64 (le T (8*q) 8))
def lst (T:Nat->Nat) (n:Nat):BitVec 64:=BitVec.ofNat 64 (le T (8*(n / 8)) (n % 8)) ||| (BitVec.ofNat 64 (n % 256) <<< 56)
def sip (T:Nat->Nat) (a b:BitVec 64) (n:Nat):BitVec 64:=all4 (fin (inn (blk T (key a b) (n / 8)) (lst T n)))
theorem shl56 (n:Nat):BitVec.ofNat 64 n <<< 56=BitVec.ofNat 64 (n % 256) <<< 56:=by
 apply BitVec.eq_of_toNat_eq
 simp only[BitVec.toNat_shiftLeft,BitVec.toNat_ofNat,Nat.shiftLeft_eq];omega
end Gs
def Row (w:Ad) (g:Nat) (t:TypeId) (cs:Array Aj):Prop:=w.1[g]?=M (J cs t)
theorem Row.cell {w:Ad} {g:Nat} {t:TypeId} {cs:Array Aj} (h:Row w g t cs) (i:Nat):w.cell? (Q g i I)=cs[i]?:=by
 unfold Row at h;simp[World.cell?,h]
theorem Row.c2 {w:Ad} {g:Nat} {t:TypeId} {cs:Array Aj} (h:Row w g t cs) (i j:Nat):w.cell? (Q g i I)=cs[i]?/\w.cell? (Q g j I)=cs[j]?:=⟨h.cell i,h.cell j⟩
theorem Row.c3 {w:Ad} {g:Nat} {t:TypeId} {cs:Array Aj} (h:Row w g t cs) (i j k:Nat):w.cell? (Q g i I)=cs[i]?/\w.cell? (Q g j I)=cs[j]?/\w.cell? (Q g k I)=cs[k]?:=⟨h.cell i,h.c2 j k⟩
theorem Row.c4 {w:Ad} {g:Nat} {t:TypeId} {cs:Array Aj} (h:Row w g t cs) (i j k l:Nat):w.cell? (Q g i I)=cs[i]?/\w.cell? (Q g j I)=cs[j]?/\w.cell? (Q g k I)=cs[k]?/\w.cell? (Q g l I)=cs[l]?:=⟨h.cell i,h.c3 j k l⟩
theorem Row.c5 {w:Ad} {g:Nat} {t:TypeId} {cs:Array Aj} (h:Row w g t cs) (i j k l m:Nat):w.cell? (Q g i I)=cs[i]?/\w.cell? (Q g j I)=cs[j]?/\w.cell? (Q g k I)=cs[k]?/\w.cell? (Q g l I)=cs[l]?/\w.cell? (Q g m I)=cs[m]?:=⟨h.cell i,h.c4 j k l m⟩
theorem Row.c6 {w:Ad} {g:Nat} {t:TypeId} {cs:Array Aj} (h:Row w g t cs) (i j k l m o:Nat):w.cell? (Q g i I)=cs[i]?/\w.cell? (Q g j I)=cs[j]?/\w.cell? (Q g k I)=cs[k]?/\w.cell? (Q g l I)=cs[l]?/\w.cell? (Q g m I)=cs[m]?/\w.cell? (Q g o I)=cs[o]?:=⟨h.cell i,h.c5 j k l m o⟩
theorem Row.free {w:Ad} {g:Nat} {t:TypeId} {cs:Array Aj} (h:Row w g t cs) (i:Nat):w.frozen? (Q g i I)=Av:=by
 unfold Row at h;simp[World.frozen?,h]
theorem Row.lt {w:Ad} {g:Nat} {t:TypeId} {cs:Array Aj} (h:Row w g t cs):g<w:=(Bz.1 h).1
theorem Row.new (w:Ad) (cs:Array Aj) (t:TypeId):Row (w.alloc (J cs t)) w t cs:=Cq w _
theorem Row.alloc {w:Ad} {g:Nat} {t:TypeId} {cs:Array Aj} (h:Row w g t cs) (o:Obj):Row (w.alloc o) g t cs:=by
 unfold Row;rw[Below.heap_alloc _ _ _ h.lt];exact h
theorem Row.drew {w:Ad} {g:Nat} {t:TypeId} {cs:Array Aj} (h:Row w g t cs):Row w.drew g t cs:=h
theorem Row.below {w w':Ad} {g B:Nat} {t:TypeId} {cs:Array Aj} (h:Row w g t cs) (hb:Ab B w w') (hg:g<B):Row w' g t cs:=by
 unfold Row;rw[hb.block g hg];exact h
theorem Row.set {w:Ad} {g:Nat} {t:TypeId} {cs:Array Aj} (h:Row w g t cs) (i:Nat) (x:Aj):Row (w.setCell (Q g i I) x) g t (cs.setIfInBounds i x):=by
 unfold Row at *;simp[World.setCell,Array.getElem?_modify,h]
theorem Row.other {w:Ad} {g k:Nat} {t:TypeId} {cs:Array Aj} (h:Row w g t cs) (i:Nat) (x:Aj) (hk:g≠k):Row (w.setCell (Q k i I) x) g t cs:=by
 unfold Row;rw[Dg _ _ _ _ hk];exact h
theorem Row.row {w:Ad} {g:Nat} {t:TypeId} {cs ds:Array Aj} (h:Row w g t cs):Row (w.setRow g ds) g t ds:=setRow_heap w g cs ds t (0,0) h
theorem Row.otherRow {w:Ad} {g k:Nat} {t:TypeId} {cs ds:Array Aj} (h:Row w g t cs) (hk:g≠k):Row (w.setRow k ds) g t cs:=by
 unfold Row;rw[Cd _ _ _ _ hk];exact h
theorem jF {B g:Nat} {w0 w:Ad} (hb:Ab B w0 w) (a0:B<=g) (cs:Array Aj):Ab B w0 (w.setRow g cs):=
 hb.trans ⟨rfl,rfl,rfl,by simp,fun k hk=>Cd _ _ _ _ (by omega)⟩
theorem jD (w:Ad):Ab w w w.drew:=⟨rfl,rfl,rfl,Ay _,fun _ _=>rfl⟩
theorem qP (w:Ad):({heap:=w.1,tape:=w.tape,drawn:=w.drawn+1,os:=w.os,output:=w.output}:Ad)=w.drew:=rfl
section
open Go.Shelf
def jPf (P:Program) (gf:Nat) (recv:Aj) {σ:Type} (encs:σ->Array Aj) (ok:σ->Prop) (nx:σ->σ) (fin:σ->Prop) (s0:σ):Prop:=
 ∀ (n m l:Nat) (J:σ->Ad->Prop) (W:Ad),(∀ s A B,J s A->A.grownBy B (M W.1.size)->J s B) ->
  (∀ s W1,ok s->J s W1->W.1.size<W1.1.size->YieldAt Fence.wide m P l (encs s) W1 fun e W'=>e=Ae Aw/\J (nx s) W'/\W.1.size<W'.1.size/\W'.1[W.1.size]?=W1.1[W.1.size]?) ->
  m+1=n->J s0 W->CallsIn Fence.wide n P gf #[recv,.func (.yield l) #[] #[]] W fun e W'=>(∃ v,e=Ae v)/\∃ s,fin s/\J s W'
def jR3 (K:Ad->Prop):Exit->Act->Ad->Prop
 | .normal,_,W'=>K W'
 | _,_,_=>False
theorem xF {w w':Ad} (b:Option Nat) (hb:Ab w w w'):w.grownBy w' b:=⟨hb.os,hb.tape,hb.output,hb.size,fun k hk _=>hb.block k hk⟩
theorem qS (W:Ad) (l:Nat) (o:Obj):W.grownBy (W.putObj l o) (M l):=grownBy_putObj' W l o
theorem zP {P:Program} {σ:Type} {g:Operand} {ps:Array Tmp} {assign body:Code} {Q:Exit->Act->Ad->Prop} {a:Act} {w:Ad}
  {gf:Nat} {recv:Aj} (hg:a.eval g=.func (.func gf) #[recv] #[]) (eg:∀ args w,(callFunc gf args).run P w=.ok (.enter gf args) w)
  {c0:σ->Array Aj} {ok:σ->Prop} {nx:σ->σ} {fin:σ->Prop} {s0:σ} (r0:jPf P gf recv c0 ok nx fin s0) (e1:∀ s,(c0 s).size=ps.size)
  (I:σ->Ad->Prop) (hI:∀ s A B j,w.1.size<=j->j<w.1.size+3->I s A->A.grownBy B (M j)->I s B) (h0:I s0 w)
  (g0:∀ (l:Nat) (s:σ) (W:Ad),ok s->I s W->w.1.size+2<W.1.size ->
   assign.wpIn (Fence.wide.inRound l) 0 P (Exit.then (fun a₁ W1=>W.grownBy W1 none/\∀ W2,W1.grownBy W2 (M (w.1.size+1))->W2.1.size=W1.1.size->body.wpIn (Fence.wide.inRound l) 0 P (jR3 fun W3=>W2.1.size<=W3.1.size/\(∀ j,w.1.size<=j->j<w.1.size+3->W3.1[j]?=W2.1[j]?)/\I (nx s) W3) a₁ W2) (fun _ _ _=>False))
    {tmps:=(ps.zip (c0 s)).foldl (fun t (p,v)=>t.setIfInBounds p v) a.tmps,defers:=[]} W)
  (j0:∀ (s:σ) (W:Ad),fin s->I s W->W.1[w.1.size]?=M (.deferred (M []))->Q .normal {a with defers:={target:=.collected w.1.size,args:=#[]}::a.defers} W) :
  (Code.rangeFunc g ps assign body).wpIn Fence.wide 2 P Q a w:=by
 refine wpIn_rangeFunc ?_;intro fn x0;rw[show Fence.wide.round=none from rfl];obtain⟨b0,a0⟩:∃ b0:LoopState->Option Code->Loop,b0=fun st pe=>{state:=st,pending:=pe,fn,tmps:=a.tmps,params:=ps,assign,body,defers:=w.1.size}:=⟨_,rfl⟩
 obtain⟨W1,d0⟩:∃ W1,(w.alloc (.deferred (M []))).alloc (.loop (b0 .ready none))=W1:=⟨_,rfl⟩;have w0:W1.1[w.1.size+1]?=M (.loop (b0 .ready none)):=by
  rw[<-d0];have:=World.alloc_heap_new (w.alloc (.deferred (M []))) (.loop (b0 .ready none));rwa [World.size_alloc] at this
 have v0:W1.1[w.1.size]?=M (.deferred (M [])):=by
  rw[<-d0];exact(Below.heap_alloc _ _ _ (by simp)).trans (World.alloc_heap_new w _)
 have t0:W1.1.size=w.1.size+2:=by rw[<-d0];simp
 have u0:I s0 W1:=by
  rw[<-d0];exact hI _ _ _ w.1.size (Ay _) (by omega) (hI _ _ _ w.1.size (Ay _) (by omega) h0 (E8 _ _ _)) (E8 _ _ _)
 refine⟨w.1.size+1,[{target:=.collected w.1.size,args:=#[]}],W1,{target:=.fn (.func gf) #[],args:=#[recv,.func (.yield (w.1.size+1)) #[] #[]]},W1,gf,
  #[recv, .func (.yield (w.1.size + 1)) #[] #[]], W1, ?_, ?_, fun _ _ => trivial, ?_, fun _ => by omega, ?_⟩
 .rw[<-d0,a0];exact run_enterLoop_outer _ _ _ _ _
 .simp only[resolve,hg];simp[go_sem]
 .simp[invoke,go_sem,eg]
 .refine(r0 1 0 (w.1.size+1)
   (fun s W=>I s W/\W.1[w.1.size+1]?=M (.loop (b0 .ready none))/\W.1[w.1.size]?=M (.deferred (M []))) W1
   (fun s A B hs e0=>?_) ?_ rfl ⟨u0,w0,v0⟩).mono ?_
  .rw[t0] at e0;obtain⟨h1,h2,h3⟩:=hs;exact⟨hI _ _ _ _ (by omega) (by omega) h1 e0,(e0.block _ (Bz.1 h2).1 (by simp)).trans h2,(e0.block _ (Bz.1 h3).1 (by simp)).trans h3⟩
  .rintro s W c1 ⟨hi,hl,hk⟩ m0;rw[t0] at m0 |-;have hy:=run_yield (P:=P) (args:=c0 s) hl (by rw[a0];exact e1 s);rw[a0] at hy;refine⟨fn,_,assign,body,hy,roundIn_of_wpIn x0 (Code.wpIn_mono ?_ (g0 _ s W c1 hi m0))⟩;intro e a1 Wa hq;cases e with
   | normal=>
    obtain⟨f0,i0⟩:=hq;have p0:Wa.1[w.1.size+1]?=M (.loop (b0 .ready none)):=(f0.block _ (by omega) (by simp)).trans hl;have z0:Wa.1[w.1.size]?=M (.deferred (M [])):=(f0.block _ (by omega) (by simp)).trans hk;have q0:w.1.size+1<Wa.1.size:=(Bz.1 p0).1;refine⟨_,run_beginRound p0 (by rw[a0]),?_⟩;have b1:(Wa.putObj (w.1.size+1) (.loop {b0 .ready none with state:=.busy})).1[w.1.size+1]?=M (.loop {b0 .ready none with state:=.busy}):=World.putObj_heap_same q0;refine Code.wpIn_mono ?_ (i0 _ (qS _ _ _) (by simp));intro e a3 W3 hp;cases e with
    | normal=>
     obtain⟨f1,k0,y0⟩:=hp;have n0:W3.1[w.1.size+1]?=M (.loop {b0 .ready none with state:=.busy}):=(k0 _ (by omega) (by omega)).trans b1;have hr:=run_endRound (P:=P) none n0;have o0:=(Bz.1 n0).1;refine⟨_,_,hr,rfl,⟨hI _ _ _ _ (by omega) (by omega) y0 (qS _ _ _),?_,?_⟩,?_,?_⟩
     .rw[World.putObj_heap_same o0,a0];rfl
     .rw[E4 (by omega),k0 _ (by omega) (by omega),E4 (by omega)];exact z0
     .simp at f1 |-;have:=f0.size
      omega
     .rw[E4 (by omega),k0 _ (by omega) (by omega),E4 (by omega)];exact f0.block _ m0 (by simp)
    | ret=>exact hp.elim
    | exit id=>exact hp.elim
    | goto t=>exact hp.elim
    | panic ch=>exact hp.elim
    | outgrown=>exact hp.elim
   | ret=>exact hq.elim
   | exit id=>exact hq.elim
   | goto t=>exact hq.elim
   | panic ch=>exact hq.elim
   | outgrown=>exact hq.elim
  .rintro e W2 ⟨⟨v,rfl⟩,s,hf,hi,hl,hk⟩;exact⟨none,_,by have:=run_endLoop (P:=P) hl (by rw[a0];simp);rw[a0] at this;exact this,j0 s _ hf (hI _ _ _ _ (by omega) (by omega) hi (qS _ _ _)) ((E4 (by omega)).trans hk)⟩
end
end Go.Proofs.YtcaejlalnjnifaaGreat
