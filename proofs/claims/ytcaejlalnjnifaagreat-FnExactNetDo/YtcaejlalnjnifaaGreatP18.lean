import Derived.Test.YtcaejlalnjnifaaGreatP10
import Derived.Test.YtcaejlalnjnifaaGreatP11
import Derived.Lib.BufferWrite
import Derived.Laws.CopyOwn
set_option maxHeartbeats 8000000
set_option maxRecDepth 2000
open Go.Value renaming slice->V,string->Ag,tuple->Ah,int->Ao,oneCell'->Aq
open Option renaming none->I,some->M
open Go.RowKit renaming Hid->H,Below->Ab
open Go.Addr renaming mk->Q
open Go.Obj renaming cells->J
open Go renaming World->Ad,Calls->Ak,maxLen->Au
open Go.Ending renaming returned->Ae
open ByteArray renaming empty->Ap
open Go.IntKind renaming i64->Ar
open Bool renaming false->Av,true->Aw
open Go.Proofs.Tryz
open Go.ChangeShapes Go.WideShapes Go.ChangeAt Go.RowKit
namespace Go.Proofs.YtcaejlalnjnifaaGreat
def vW (w:Ad) (B g n cap:Nat) (f:Nat->Nat):Prop:=w.ownsRow B 5 1 (V g n cap) n ((eI f n).map (Ao .u8))
theorem vW.lt {w:Ad} {B g n cap:Nat} {f:Nat->Nat} (h:vW w B g n cap f):B<=g/\g<w:=A0 h g rfl
theorem vW.cell {w:Ad} {B g n cap i:Nat} {f:Nat->Nat} (h:vW w B g n cap f) (hi:i<n):w.cell? (Q g i I)=M (Ao .u8 ((f i:Nat):Int)):=by
 rw[Bt h i (by omega)];simp[eI,hi]
theorem vW.below {w w':Ad} {B g n cap:Nat} {f:Nat->Nat} (h:vW w B g n cap f) (hb:Ab w w w'):vW w' B g n cap f:=jF h hb
theorem vW.congr {w:Ad} {B g n cap:Nat} {f h:Nat->Nat} (ho:vW w B g n cap f) (e:∀ i,i<n->f i=h i):vW w B g n cap h:=by
 unfold vW at *;rw[<-jFv e];exact ho
theorem vW.set {w:Ad} {B g n cap k v:Nat} {f:Nat->Nat} (h:vW w B g n cap f) (hk:k<n):vW (w.setCell (Q g k I) (Ao .u8 (v:Int))) B g n cap (fun i=>if i=k then v else f i)/\w.grownBy (w.setCell (Q g k I) (Ao .u8 (v:Int))) (M g):=by
 have h1:=(Dh h k (Ao .u8 (v:Int))).1;rw[jQ3 f n k v .u8 hk] at h1;exact⟨h1,jN w g k _⟩
def rs (R:Nat->Nat) (T:Nat->Nat->Nat) (i p:Nat):Nat:=Gm.sm (fun t=>Gp.m (R t) (T t p)) i
theorem jRt (R:Nat->Nat) (T:Nat->Nat->Nat) (i p:Nat):rs R T i p<256:=Gm.sm_lt (fun _=>Gp.m_lt _ _) _
theorem jP2 {R:Nat->Nat} {T:Nat->Nat->Nat} {i q:Nat} (hR:R i<256) (hT:T i q<256) (p:Nat):(if p=q then rs R T i q ^^^ Gf.mul (T i q) (R i) else if p<q then rs R T (i+1) p else rs R T i p)=if p<q+1 then rs R T (i+1) p else rs R T i p:=by
 by_cases e:p=q
 .subst e;rw[A6 rfl,A6 (by omega),Gp.m_nat hT hR,Gp.m_comm];rfl
 .rw[A5 e];by_cases e2:p<q
  .rw[A6 e2,A6 (by omega)]
  .rw[A5 e2,A5 (by omega)]
def jBf (w:Ad) (a:OA) (n l:Nat) (T:Nat->Nat->Nat):Prop:=
 ∀ i,i<n->∃ b off g o c,a=M (Q b off I)/\w.cell? (Q b (off+i) I)=M (V (Q g o I) l c)/\∀ p,p<l->w.cell? (Q g (o+p) I)=M (Ao .u8 ((T i p:Nat):Int))
theorem jBf.below {w w':Ad} {a:OA} {n l:Nat} {T:Nat->Nat->Nat} (h:jBf w a n l T) (hb:Ab w w w'):jBf w' a n l T:=fun i hi=>by
 obtain⟨b,off,g,o,c,e,hc,hp⟩:=h i hi;exact⟨b,off,g,o,c,e,(hb.cell (p:=Q b (off+i) I) (A7 hc)).trans hc,fun p a0=>(hb.cell (p:=Q g (o+p) I) (A7 (hp p a0))).trans (hp p a0)⟩
set_option maxRecDepth 100000 in
theorem jE3 (ra:OA) (rc:Nat) (R:Nat->Nat) (a:OA) (cp n l:Nat) (T:Nat->Nat->Nat) (w:Ad) (hr:jH w ra n (eI R n)) (h:jBf w a n l T) (hT:Gm.Byt T) (hn:1<=n/\n<=16) (hl:1<=l/\l<=1048576) (hR:∀ i,R i<256):Ak prog 239 #[.slice ra n rc,.slice a n cp] w fun e w'=>e=Ae (.slice (Q w 0 I) l l)/\vW w' w w.1.size l l (rs R T n)/\Ab w w w':=by
 obtain⟨i0,hi,x0,y0,z0⟩:=Ch Tryz.infoByte;obtain⟨x1,k1⟩:=hn;obtain⟨v1,j1⟩:=hl;have KH:H (jBf w a n l T):=h;have KR:H (jH w ra n (eI R n)):=hr;have t0:0<n:=by omega
 obtain⟨b0,a1,s1,a2,r1,rfl,n0,_⟩:=h 0 t0;rw[Cp] at n0;clear h hr;go_enter func239,ntmps239
 go_wp2_with (at_make;refine Cx _ rfl _ _ 22 rfl w 5 i0 (Ao .u8 0) 1 Cq hi x0 y0 Ar Ar _ _ l rfl rfl rfl rfl (by rw[z0];omega) (by unfold Au;omega) (Ay _) ?_;intro w1 a0 e0)
 have m0:Ab w w w1:=(Az _ _).grown e0 (Ay _) (by simp);have u0:vW w1 w w.1.size l l (rs R T 0):=by
  unfold vW;rw[jFw (f:=rs R T 0) l 0 (fun _ _=>rfl)];simpa [Value.cells,Dp] using a0
 have K1:H (vW w1 w w.1.size l l (rs R T 0)):=u0;have KB1:H (Ab w w w1):=m0;clear a0 e0 u0 m0 hi x0 y0 z0 n0;go_loopw [17] (fun i wr=>∃ k:Nat,k<=n/\i=Ao Ar k/\vW wr w w.1.size l l (rs R T k)/\Ab w w wr) (fun i _=>n-(intOf i).toNat)
 case atStart=>exact⟨0,Bi _,rfl,K1,KB1⟩
 case round=>
  obtain⟨k,hk,rfl,a0,hbel⟩:=hrel;clear K1 KB1;by_cases hlt:k<n
  .have u1:(k:Int)<(n:Int):=by omega
   obtain⟨b1,p1,g1,o1,c1,eb,d0,v0⟩:=KH k hlt;cases eb;have t1:=(hbel.cell (p:=Q b0 (a1+k) I) (A7 d0)).trans d0;have KP:H (∀ p,p<l->w.cell? (Q g1 (o1+p) I)=M (Ao .u8 ((T k p:Nat):Int))):=v0;clear v0 d0;obtain⟨br,q1,rfl,o0⟩:=(KR.below hbel).2 k hlt;rw[JR _ _ _ hlt] at o0;have h0:=hR k;obtain⟨X,hX⟩:∃ X,R k=X:=⟨_,rfl⟩;have KX:H (R k=X):=hX;rw[hX] at o0 h0;clear hX;have z1:IntKind.u8.wrap (X:Int)=(X:Int):=by rw[Di];omega
   have m1:=hbel.size;by_cases hx0:X=0
   .subst hx0;have HO:H (vW wr w w.1.size l l (rs R T (k+1))):=a0.congr (fun p _=>by unfold rs;rw[Gm.sm_s,KX.out,Gp.zero_m,Nat.xor_zero]);clear a0;go_wp2
    go_roundw
    case rel=>exact⟨k+1,by omega,by go_num,HO.out,hbel⟩
    case measure=>simp[intOf] <;> omega
   .have n1:((X:Int)==0)=Av:=by simp;omega
    have K2:H (vW wr w w.1.size l l (fun p=>if p<0 then rs R T (k+1) p else rs R T k p)):=a0.congr (fun p _=>by simp);have KB2:H (Ab w w wr):=hbel;have e1:=hbel;clear a0 hbel;go_wp2
    go_loopw [31] (fun i wr=>∃ q:Nat,q<=l/\i=Ao Ar q/\vW wr w w.1.size l l (fun p=>if p<q then rs R T (k+1) p else rs R T k p)/\Ab w w wr) (fun i _=>l-(intOf i).toNat)
    case atStart=>exact⟨0,Bi _,rfl,K2,KB2⟩
    case round=>
     obtain⟨q,hq,rfl,a0,hbel⟩:=hrel;clear K2 KB2;by_cases hql:q<l
     .have y1:(q:Int)<(l:Int):=by omega
      have k0:=(hbel.cell (p:=Q g1 (o1+q) I) (A7 (KP q hql))).trans (KP q hql);have f0:=a0.cell hql;simp only[Fq,Dj] at f0;have q0:=B0 a0 q;have w0:=jRt R T k q;have KS:H (∀ p,(if p=q then rs R T k q ^^^ Gf.mul (T k q) (R k) else if p<q then rs R T (k+1) p else rs R T k p)=if p<q+1 then rs R T (k+1) p else rs R T k p):=fun p=>jP2 (hR k) (hT k q) p
      rw[KX.out] at KS;have KO:H (vW wr w w.1.size l l (fun p=>if p<q then rs R T (k+1) p else rs R T k p)):=a0;obtain⟨Y,hY⟩:∃ Y,rs R T k q=Y:=⟨_,rfl⟩;rw[hY] at f0 w0 KS;have j0:=hT k q;generalize T k q=V at k0 j0 KS;have f1:=Gf.mul_lt j0 h0;have s0:=a0.lt.2;have KB:H (Ab w w wr):=hbel;clear a0 hY hbel;go_wp2_with fail
      go_region_with ((first|(go_at_call 250;refine(jLg V X _ j0 h0).mono ?_;rintro e w5 ⟨rfl,g0⟩;have c0:=jC g0;clear g0;have p0:=(c0.cell (p:=Q w q I) s0).trans f0;have r0:=(Cw (a:=(Q w q I)) (c0.block _ s0)).trans q0;have i1:=(c0.cell (p:=Q g1 (o1+q) I) (A7 k0)).trans k0)|(go_at_call 237;refine(jGb Y (Gf.mul V X) _ w0 f1).mono ?_;rintro e w6 ⟨rfl,hw6⟩;obtain rfl:=hw6.symm)))
      all_goals
       have hS:=vW.set (k:=q) (v:=Y ^^^ Gf.mul V X) (KO.below c0) hql;have HO:H (vW (w5.setCell (Q w q I) (Ao .u8 ((Y ^^^ Gf.mul V X:Nat):Int))) w w.1.size l l (fun p=>if p<q+1 then rs R T (k+1) p else rs R T k p)):=hS.1.congr (fun p _=>KS p);have HB:H (Ab w w (w5.setCell (Q w q I) (Ao .u8 ((Y ^^^ Gf.mul V X:Nat):Int)))):=(jA KB c0).setCell (Ay _) _;clear hS f0 q0 p0 r0 KO KS KB;go_wp2
       go_roundw
       case rel=>exact⟨q+1,by omega,by go_num,HO.out,HB.out⟩
       case measure=>simp[intOf] <;> omega
     .obtain rfl:q=l:=by omega
      have HO:H (vW wr w w.1.size q q (rs R T (k+1))):=a0.congr (fun p hp=>A6 hp);clear a0;go_wp2
      go_roundw
      case rel=>exact⟨k+1,by omega,by go_num,HO.out,hbel⟩
      case measure=>simp[intOf] <;> omega
  .obtain rfl:k=n:=by omega
   have HO:H _:=a0;clear a0;go_wp2
   go_ret
   exact⟨rfl,HO,hbel⟩
def ovl (f:Nat->Nat) (off m:Nat) (h:Nat->Nat) (i:Nat):Nat:=if off<=i/\i<off+m then h (i-off) else f i
theorem jMl (f h:Nat->Nat) (n off m:Nat) (hm:off+m<=n):((eI f n).map (Ao .u8)).take off++((eI h m).map (Ao .u8)++((eI f n).map (Ao .u8)).drop (off+m))=(eI (ovl f off m h) n).map (Ao .u8):=by
 apply Cn
 intro i;simp only[List.getElem?_append,Cu,List.length_map,qZ,List.getElem?_take,List.getElem?_drop];by_cases h1:i<off
 .have h2:i<min off n:=by omega
  simp[h1,h2,eI,ovl,show i<n by omega,show ¬ (off<=i/\i<off+m) by omega]
 .by_cases h3:i<off+m
  .have h2:¬ i<min off n:=by omega
   simp[h2,eI,ovl,show i<n by omega,show off<=i by omega,h3,show i-off<m by omega,show i-min off n=i-off by omega]
  .have h2:¬ i<min off n:=by omega
   have h4:¬ i-min off n<m:=by omega
   simp only[h2,h4,Dj];rw[show off+m+(i-min off n-m)=i by omega];by_cases h5:i<n
   .simp[eI,ovl,h5,show ¬ (off<=i/\i<off+m) by omega]
   .rw[Bb (by simp[qZ];omega),Bb (by simp[qZ];omega)]
theorem vW.heap {w:Ad} {B g n:Nat} {f:Nat->Nat} (h:vW w B g n n f):w.heap[g]?=M (J ((eI f n).map (Ao .u8)).toArray 5 (0,0))/\B<=g/\n<=Au:=by
 rcases h.2 with ⟨e,_⟩|⟨g',cap,a0,e,hB,hg,hn,hm,hs,ht⟩
 .cases e
 .cases e;have e2:=Dl (by rw[Cv,hs];exact Ay _);rw[e2] at ht;refine⟨?_,hB,hm⟩;rw[hg,<-ht]
theorem vW.of {w:Ad} {B g n:Nat} {f:Nat->Nat} (h:w.1[g]?=M (J ((eI f n).map (Ao .u8)).toArray 5 (0,0))) (hB:B<=g) (hm:n<=Au):vW w B g n n f:=
 ⟨by simp[qZ],.inr ⟨g,n,_,rfl,hB,h,Ay _,hm,by simp[qZ],by rw[Dl (by simp[qZ])]⟩⟩
theorem jBi (s:BA):Go.Lib.byteCells s.data.toList=(eI (tat s) s.size).map (Ao .u8):=by
 apply Cn
 intro i;unfold Go.Lib.byteCells;by_cases h:i<s.size
 .have h':i<s.data.toList.length:=by simpa using h
  rw[Eb,Eb,jCt _ _ _ h,Bj h'];simp[tat,List.getD,Bj h']
 .rw[Bb (by simp at h |-;exact h),Bb (by simp[qZ];omega)]
theorem XW {w:Ad} {g0:Array Oper} {f0:List Oper} {o:Oper} {a:Act} {Q:Exit->Act->Ad->Prop} (k0:o.guard=I) (d s:Operand) (sT:TypeId)
  (ho:o.op=.call {callee:=.builtin .copy,args:=#[d,s],argTypes:=#[22,sT]})
  (dp:OA) (a0 b0:Nat) (S:BA) (hd:a.eval d=V dp a0 b0) (hs:a.eval s=Ag S) (B g n:Nat) (f:Nat->Nat) (e0:vW w B g n n f) (off:Nat) (j0:0<S.size->dp=M (Addr.mk g off I)) (m0:S.size<=a0) (d0:off+S.size<=n)
  (h:∀ w',vW w' B g n n (ovl f off S.size (tat S))->w.grownBy w' (M g)->wpList prog g0 Q f0 (a.put o.dst (goInt S.size)) w'):wpList prog g0 Q (o::f0) a w:=by
 obtain⟨hg,hB,hm⟩:=e0.heap;have hu:=Cq;have hz:(Tryz.prog.info? 5).map (·.size)=M 1:=by
  obtain⟨i0,hi,_,n0,_⟩:=Ch Tryz.infoByte;rw[hi];simp[n0]
 refine Gw k0 fun K hK=>?_
 by_cases h0:S.size=0
 .have c0:=Go.Lib.run_copy_empty_string (P:=prog) w 22 sT o.type 5 dp a0 b0 S hu (by rw[hz];rfl) h0;unfold Oper.wp;simp[execOp,ho,resolve,invoke,builtin,hd,hs,c0,Result.andThen];refine hK _ _ ?_;have h1:=h w (e0.congr (fun i _=>by unfold ovl;rw[A5 (by omega)])) (Ga _ _);rw[h0] at h1;exact h1
 .obtain rfl:=j0 (by omega);have c0:=Go.Lib.run_copy_row_string (P:=prog) w 22 sT o.type 5 g off a0 b0 S _ 5 hu hz hg m0 (by simp[qZ];exact d0);unfold Oper.wp;simp[execOp,ho,resolve,invoke,builtin,hd,hs,c0,Result.andThen];refine hK _ _ (h _ ?_ ⟨rfl,rfl,rfl,by simp[World.setRow],fun j _ hj=>Cj w g j _ (fun e=>hj (by rw[e]))⟩);refine vW.of ?_ hB hm;rw[setRow_heap w g _ _ 5 _ hg,jBi,<-jMl f (tat S) n off S.size d0]
theorem shr8 {n:Nat} (hn:n<=2000):IntKind.u8.wrap ((n:Int) / 256)=((n / 256:Nat):Int):=by rw[Di];omega
theorem low8 (n:Nat):IntKind.u8.wrap (n:Int)=((n % 256:Nat):Int):=by rw[Di];omega
theorem jRg {w1:Ad} {B g N:Nat} (a0:w1.ownsRow B 5 1 (V g N N) N (madeCells (Ao .u8 0).cells (N*1)).toList):vW w1 B g N N (fun _=>0):=by
 unfold vW;rw[jFw (f:=fun _=>0) N 0 (fun _ _=>rfl)];simpa [Value.cells,Dp] using a0
theorem twoB {w w1:Ad} {g N x y:Nat} {f:Nat->Nat} (h:vW w1 w g N N f) (hN:1<N) (hb:Ab w w w1):(w1.cell? g=M (Ao .u8 ((f 0:Nat):Int))/\w1.frozen? g=Av)/\((w1.setCell g (Ao .u8 (x:Int))).cell? (Q g 1 I)=M (Ao .u8 ((f 1:Nat):Int))/\(w1.setCell g (Ao .u8 (x:Int))).frozen? (Q g 1 I)=Av)/\vW ((w1.setCell g (Ao .u8 (x:Int))).setCell (Q g 1 I) (Ao .u8 (y:Int))) w g N N (fun i=>if i=1 then y else if i=0 then x else f i)/\Ab w w ((w1.setCell g (Ao .u8 (x:Int))).setCell (Q g 1 I) (Ao .u8 (y:Int))):=by
 have h1:=vW.set (k:=0) (v:=x) h (by omega);have h2:=vW.set (k:=1) (v:=y) h1.1 hN;refine⟨⟨h.cell (by omega),B0 h 0⟩,⟨?_,B0 h1.1 1⟩,h2.1,(hb.setCell h.lt.1 _).setCell h.lt.1 _⟩;have:=h1.1.cell (i:=1) hN
 simpa using this
set_option maxRecDepth 100000 in
theorem jHa (s:BA) (N:Nat) (w:Ad) (hs:s.size<=2000) (hN:s.size+2<=N) (p0:N<=100000):Ak prog 224 #[s,(N:Int)] w fun e w'=>e=Ae (V (Q w 0 I) N N)/\vW w' w w.1.size N N (frm s)/\Ab w w w':=by
 obtain⟨i0,hi,j0,k0,m0⟩:=Ch Tryz.infoByte;obtain⟨n,hn⟩:∃ n,s.size=n:=⟨_,rfl⟩;have e1:=shr8 (n:=n) (by omega);have e2:=low8 n;have KF:H (∀ i,i<N->frm s i=ovl (fun i=>if i=1 then n % 256 else if i=0 then n / 256 else 0) 2 n (tat s) i):=fun i hi=>by
  unfold frm ovl;rw[hn];by_cases h0:i=0
  .subst h0;simp
  .by_cases h1:i=1
   .subst h1;simp
   .rw[A5 h0,A5 h1];by_cases h2:i<2+n
    .rw[A6 (by omega)]
    .rw[A5 (by omega)];simp only[h1,h0,Dj];exact zL s _ (by omega)
 obtain⟨x,hx⟩:∃ x,n / 256=x:=⟨_,rfl⟩;obtain⟨y,hy⟩:∃ y,n % 256=y:=⟨_,rfl⟩;rw[hx] at e1 KF;rw[hy] at e2 KF;have o0:(1:Int)<(N:Int):=by omega
 have n0:(0:Int)<(N:Int):=by omega
 have q0:(2:Int)<=(N:Int):=by omega
 have g0:1<N:=by omega
 have r0:0<N:=by omega
 have s0:2<=N:=by omega
 by_cases hN7:N=2
 case pos=>
  subst hN7;go_enter func224,ntmps224
  go_wp2_with (first|(at_make;refine Cx _ rfl _ _ 22 rfl w 5 i0 (Ao .u8 0) 1 Cq hi j0 k0 Ar Ar _ _ 2 rfl rfl rfl rfl (by rw[m0];omega) (by unfold Au;omega) (Ay _) ?_;intro w1 b0 a0;have d0:Ab w w w1:=(Az _ _).grown a0 (Ay _) (by simp);obtain⟨⟨hc0,hf0⟩,⟨hc1,hf1⟩,hO2,hB2⟩:=twoB (x:=x) (y:=y) (jRg b0) g0 d0;have K2:H _:=hO2;have c0:H _:=hB2;clear hO2 hB2 b0 a0 d0)|(guard_hyp K2;refine XW rfl _ _ 9 rfl _ _ _ s rfl rfl _ _ _ _ K2 2 (fun h=>by first|rfl|omega) (by omega) (by omega) ?_;intro w5 hO5 hg5;have f0:H _:=hO5;have e0:H (Ab w w w5):=c0.grown hg5 c0.size (fun j hj=>by cases hj;exact Ay _);clear hO5 hg5))
  go_wp2
  go_ret
  exact⟨rfl,vW.congr f0 (fun i hi=>by rw[hn];exact(KF i (by omega)).symm),e0.out⟩
 have t0:¬ N-2=0:=by omega
 go_enter func224,ntmps224
 go_wp2_with (first|(at_make;refine Cx _ rfl _ _ 22 rfl w 5 i0 (Ao .u8 0) 1 Cq hi j0 k0 Ar Ar _ _ N rfl rfl rfl rfl (by rw[m0];omega) (by unfold Au;omega) (Ay _) ?_;intro w1 b0 a0;have d0:Ab w w w1:=(Az _ _).grown a0 (Ay _) (by simp);obtain⟨⟨hc0,hf0⟩,⟨hc1,hf1⟩,hO2,hB2⟩:=twoB (x:=x) (y:=y) (jRg b0) g0 d0;have K2:H _:=hO2;have c0:H _:=hB2;clear hO2 hB2 b0 a0 d0)|(guard_hyp K2;refine XW rfl _ _ 9 rfl _ _ _ s rfl rfl _ _ _ _ K2 2 (fun h=>by first|rfl|omega) (by omega) (by omega) ?_;intro w5 hO5 hg5;have f0:H _:=hO5;have e0:H (Ab w w w5):=c0.grown hg5 c0.size (fun j hj=>by cases hj;exact Ay _);clear hO5 hg5))
 go_wp2
 go_ret
 exact⟨rfl,vW.congr f0 (fun i hi=>by rw[hn];exact(KF i (by omega)).symm),e0.out⟩
theorem Tryz.infoBytes:(Tryz.prog.info? 22).map (fun i=>(i.zero,i.size,i.bytes))=M (M (V I 0 0),1,24):=by kernel_rfl
theorem ZH.rowE {w:Ad} {a:OA} {r n:Nat} {F:Nat->Nat->Nat} (h:ZH w a r (fun _=>n) (fun i j=>((F i j:Nat):Int))) {i:Nat} (hi:i<r):∃ b off ai ci,a=M (Q b off I)/\w.cell? (Q b (off+i) I)=M (V ai n ci)/\jH w ai n (eI (F i) n):=h i hi
set_option maxRecDepth 100000 in
theorem jDo (ma:OA) (mc r:Nat) (F:Nat->Nat->Nat) (a:OA) (cp n l:Nat) (T:Nat->Nat->Nat) (w:Ad) (hm:ZH w ma r (fun _=>n) (fun i j=>((F i j:Nat):Int))) (h:jBf w a n l T) (hT:Gm.Byt T) (hr:r<=1048576) (hn:1<=n/\n<=16) (hl:1<=l/\l<=1048576) (hF:Gm.Byt F):Ak prog 222 #[V ma r mc,V a n cp] w fun e w'=>e=Ae (V (Q w 0 I) r r)/\jI w' w (Q w 0 I) r r (bod n F T l)/\Ab w w w':=by
 obtain⟨i0,hi,o0,p0,q0⟩:=Ch Tryz.infoStr;have KH:H (jBf w a n l T):=h;have KM:H (ZH w ma r (fun _=>n) (fun i j=>((F i j:Nat):Int))):=hm;clear h hm;go_enter func222,ntmps222
 go_wp2_with (at_make;refine Cx _ rfl _ _ 27 rfl w 9 i0 Ap 1 C3 hi o0 p0 Ar Ar _ _ r rfl rfl rfl rfl (by rw[q0];omega) (by unfold Au;omega) (Ay _) ?_;intro w1 a0 c0)
 have h0:Ab w w w1:=(Az _ _).grown c0 (Ay _) (by simp);have K1:H (jI w1 w (Q w 0 I) r r (fun i=>if i<0 then bod n F T l i else Ap)):=by
  have e:sL (fun i=>if i<0 then bod n F T l i else Ap) r=List.replicate r (Ag Ap):=by rw[<-ZE];exact xQ (fun i _=>by simp)
  show jI _ _ _ _ _ _;unfold jI;rw[e];simpa [Value.cells,Dp] using a0
 have KB1:H (Ab w w w1):=h0;clear a0 c0 h0 hi o0 p0 q0;go_loopw [13] (fun i wr=>∃ k:Nat,k<=r/\i=Ao Ar k/\jI wr w (Q w 0 I) r r (fun i=>if i<k then bod n F T l i else Ap)/\Ab w w wr) (fun i _=>r-(intOf i).toNat)
 case atStart=>exact⟨0,Bi _,rfl,K1,KB1⟩
 case round=>
  obtain⟨k,hk,rfl,a0,b0⟩:=hrel;clear K1 KB1;by_cases hlt:k<r
  .have v0:(k:Int)<(r:Int):=by omega
   obtain⟨b1,t0,ai,ci,rfl,u0,n0⟩:=(KM.below b0).rowE hlt;have KC:H _:=jE3 ai ci (F k) a cp n l T wr n0 (KH.below b0) hT hn hl (fun i=>hF k i);have m0:=(A0 a0 _ rfl).2;obtain⟨old,e0⟩:∃ v,wr.cell? (Q w k I)=M v:=by
    rw[Bt a0 k (by omega)];exact⟨_,zA _ _ _ hlt⟩
   have k0:=B0 a0 k;have KO:H (jI wr w (Q w 0 I) r r (fun i=>if i<k then bod n F T l i else Ap)):=a0;have KB:H (Ab w w wr):=b0;clear n0 a0 b0;go_wp2_with fail
   refine Ax KC.out ?_;rintro e w2 ⟨rfl,g0,d0⟩;have r0:=(d0.cell (p:=Q w k I) m0).trans e0;have s0:=(Cw (a:=(Q w k I)) (d0.block _ m0)).trans k0;have j0:=Dq (P:=prog) w2 22 5 Cq D9 wr.1.size 0 l l (eI (rs (F k) T n) l) (qZ _ _) (fun i hi=>by
    rw[Bq,g0.cell hi,JR _ _ _ hi]) 9 C6
   rw[show strOfNums (eI (rs (F k) T n) l)=bod n F T l k from rfl] at j0;have f0:=Dh (jI.below KO d0) k (bod n F T l k);rw[jA5 _ _ _ _ hlt] at f0;have HO:H (jI (w2.setCell (Q w k I) (bod n F T l k)) w (Q w 0 I) r r (fun i=>if i<k+1 then bod n F T l i else Ap)):=jI.congr f0.1 (fun i _=>by
    by_cases e:i=k
    .simp[e]
    .by_cases e2:i<k
     .simp[e,e2,show i<k+1 by omega]
     .simp[e,e2,show ¬ i<k+1 by omega])
   have HB:H (Ab w w (w2.setCell (Q w k I) (bod n F T l k))):=(jA KB d0).setCell (Ay _) _;generalize bod n F T l k=sv at j0 HO HB;clear f0 g0 e0 k0 KC KO KB;go_wp2
   go_roundw
   case rel=>exact⟨k+1,by omega,by go_num,HO.out,HB.out⟩
   case measure=>simp[intOf] <;> omega
  .obtain rfl:k=r:=by omega
   have HO:H (jI wr w (Q w 0 I) k k (bod n F T l)):=a0.congr (fun i hi=>A6 hi);clear a0;go_wp2
   go_ret
   exact⟨rfl,HO,b0⟩
set_option maxRecDepth 100000 in
theorem jO6 (g N k l:Nat) (W:Nat->Nat) (w:Ad) (hW:∀ q,q<N->w.cell? (Q g q I)=M (Ao .u8 ((W q:Nat):Int))) (hN:N=k*l) (hk:1<=k/\k<=16) (hl:1<=l/\l<=100000):Ak prog 223 #[V g N N,(l:Int)] w fun e w'=>∃ G c,e=Ae (V (Q G 0 I) k c)/\jBf w' (Q G 0 I) k l (pcs W l)/\Ab w w w':=by
 obtain⟨i0,hi,m0,n0,o0⟩:=Ch Tryz.infoBytes;obtain⟨y0,g0⟩:=hk;obtain⟨a1,r0⟩:=hl;have hq:Int.tdiv (N:Int) (l:Int)=(k:Int):=by
  rw[hN,<-Int.ofNat_tdiv];congr 1
  exact Nat.mul_div_cancel _ (by omega)
 have w0:N<=1600000:=by rw[hN];exact Bx (Nat.mul_le_mul g0 r0) (by omega)
 have z0:((l:Int)==0)=Av:=by simp;omega
 have v0:¬ ((l:Int)=0):=by omega
 have t0:IntKind.i64.wrap (k:Int)=(k:Int):=by rw[A8];omega
 have KN:=hd hN;have KW:H (∀ q,q<N->w.cell? (Q g q I)=M (Ao .u8 ((W q:Nat):Int))):=hW;clear hN hW;go_enter func223,ntmps223
 go_wp2_with (at_make;refine wpList_make_own _ rfl _ _ 245 rfl w 22 i0 (V I 0 0) 1 underlying245 hi m0 n0 Ar Ar _ k rfl rfl (by first|rfl|assumption) (by rw[o0];omega) (by unfold Au;omega) (Ay _) ?_;intro w1 a0 b0)
 have f0:=(Az _ _).grown b0 (Ay _) (by simp);have K1:=hd a0;have KB1:=hd f0;clear a0 b0 f0 hq t0;go_loopw [5,6] (fun v p wr=>∃ i x G c:Nat,i<=k/\H (x=i*l)/\x+(k-i)*l=N/\p=Ao Ar (x:Int)/\v=V (Q G 0 I) i c/\wr.ownsRow w 22 1 (V (Q G 0 I) i c) i (hds (fun j=>M (Q g (j*l) I)) (fun _=>l) (fun _=>l) i)/\Ab w w wr) (fun _ p _=>N-(intOf p).toNat)
 case atStart=>exact⟨0,0,_,_,Bi _,by show 0=0*l;omega,by rw[KN.out];simp,rfl,rfl,K1.out,KB1⟩
 case round=>
  obtain⟨i,x,G,c,x0,HX,e0,rfl,rfl,a0,c0⟩:=hrel;clear K1 KB1;by_cases hlt:i<k
  .have c1:x+l<=N:=by
    rw[<-e0];have:l<=(k-i)*l:=Nat.le_mul_of_pos_left _ (by omega)
    omega
   have hxn2:x+l+(k-(i+1))*l=N:=by
    rw[<-e0,show k-i=k-(i+1)+1 by omega,F5];omega
   have HX2:H (x+l=(i+1)*l):=by show _=_;rw[HX.out,F5]
   have u0:(x:Int)<(N:Int):=by omega
   have s0:=c0.size;have p0:=(A0 a0 _ rfl).1;have b1:IntKind.i64.wrap ((x:Int)+(l:Int))=(x:Int)+(l:Int):=by rw[A8];omega
   have h1:(0:Int)<=(x:Int):=by omega
   have h2:(x:Int)<=(x:Int)+(l:Int):=by omega
   have h3:(x:Int)+(l:Int)<=(N:Int):=by omega
   have h4:¬ (x+l-x=0):=by omega
   have h5:x+l-x=l:=by omega
   have h6:¬ (x+l=x):=by omega
   clear e0;go_wp2_with (at_builtin;refine Dc _ rfl _ _ 245 rfl w 22 i0 (V I 0 0) 1 24 underlying245 hi m0 n0 o0 rfl (by decide) (V (M ⟨G,0,I⟩) i c) i _ rfl (Cb a0 _) ⟨wr.1.size,0,I⟩ 1 1 [V (M ⟨g,x,I⟩) l l] rfl rfl (Cf (cs:=#[V (Q g x I) l l]) (t:=22) (fr:=(0,0)) (Co wr _)) (by simp[Aq]) (by omega) (by unfold Au;omega) (by omega) (by simp;omega) (wr.1.size+1) (by simp) ?_;intro g2 cap3 w2 d0 b0 q0 k0)
   have HO:H (w2.ownsRow w 22 1 (V g2 (i+1) cap3) (i+1) (hds (fun j=>M (Q g (j*l) I)) (fun _=>l) (fun _=>l) (i+1))):=by
    rw[jFy,<-HX.out];exact d0
   have hb':Ab w w w2:=(c0.alloc s0 _).grown (show World.grownBy _ w2 (M G) from b0) (by simp;omega) (fun j hj=>by cases hj;exact p0);clear d0 b0 q0 k0 a0;go_roundw
   case rel=>exact⟨i+1,x+l,g2,cap3,by omega,HX2,hxn2,by simp,rfl,HO.out,hb'⟩
   case measure=>simp[intOf] <;> omega
  .obtain rfl:i=k:=by omega
   have u0:¬ (x:Int)<(N:Int):=by
    have:x=N:=by rw[<-e0];simp
    omega
   have HP:H (jBf wr (Q G 0 I) i l (pcs W l)):=fun j hj=>by
    refine⟨G,0,g,j*l,l,rfl,?_,fun p hp=>?_⟩
    .rw[Bq,Bt a0 j (by omega),ZM _ _ _ _ _ hj]
    .have j0:j*l+p<N:=by
      rw[KN.out];have:(j+1)*l<=i*l:=D7 _ hj
      rw[F5] at this;omega
     have h0:=KW _ j0;exact(c0.cell (p:=Q g (j*l+p) I) (A7 h0)).trans h0
   clear a0 e0;go_wp2
   go_ret
   exact⟨G,⟨c,rfl⟩,HP,c0⟩
def vJ (s:BA) (k n:Int):Bool:=decide (s.size<=2000)&&qU k n
def jBl (s:BA) (k n:Int):Nat:=if vJ s k n=Aw then n.toNat else 0
def XY (s:BA) (k:Nat):Nat->BA:=bod k (Gm.sprd k) (enc s k) (XA s.size k)
theorem zK {k n:Int} (h:qU k n=Aw):1<=k/\k<=n/\n<=16:=by
 have:(1<=n/\n<=16)/\1<=k/\k<=n:=by simpa [qU,jAl] using h
 omega
set_option maxRecDepth 100000 in
theorem jG5 (s:BA) (k n:Int) (w:Ad) (hs:s.size<=1048576):Ak prog 209 #[s,k,n] w fun e w'=>∃ v,e=Ae (Ah #[v,(vJ s k n)])/\jCk w w' v (jBl s k n) (XY s k.toNat)/\Ab w.1.size w w':=by
 have d0:H _:=jH9 k n w;obtain⟨sz,m0⟩:∃ sz,s.size=sz:=⟨_,rfl⟩;by_cases hok:qU k n=Aw
 case neg=>
  have h0:qU k n=Av:=by simpa using hok
  have he:vJ s k n=Av:=by unfold vJ;rw[h0];simp
  have hr:jBl s k n=0:=by unfold jBl;rw[A5 (by rw[he];simp)]
  rw[he,hr];rw[h0] at d0;have hB:=fun w=>JP (sz:Int) k w
  generalize blI (sz:Int) k=bl at hB;go_enter func209,ntmps209
  go_wp2_with fail
  refine Ax d0.out ?_;rintro e w1 ⟨v,rfl,_,c0⟩;go_wp2_with (go_at_call 221;refine(hB _).mono ?_;rintro e w' ⟨rfl,hw⟩;obtain rfl:=hw.symm)
  go_ret2
  exact⟨_,rfl,jCk.none _ _ _,c0⟩
 obtain⟨h1,h2,h3⟩:=zK hok;obtain⟨K,rfl⟩:=Dk (show 0<=k by omega);obtain⟨M,rfl⟩:=Dk (show 0<=n by omega);have hR:jBb (K:Int) (M:Int)=M:=by unfold jBb;rw[A6 hok];simp
 rw[hok,hR,Cz] at d0;by_cases hs2:sz<=2000
 case neg=>
  have he:vJ s (K:Int) (M:Int)=Av:=by unfold vJ;simp;omega
  have hr:jBl s (K:Int) (M:Int)=0:=by unfold jBl;rw[A5 (by rw[he];simp)]
  rw[he,hr];have hB:=fun w=>JP (sz:Int) (K:Int) w
  rw[jIn (by omega)] at hB;go_enter func209,ntmps209
  go_wp2_with fail
  refine Ax d0.out ?_;rintro e w1 ⟨v,rfl,_,c0⟩;go_wp2_with (go_at_call 221;refine(hB _).mono ?_;rintro e w' ⟨rfl,hw⟩;obtain rfl:=hw.symm)
  go_ret2
  exact⟨_,rfl,jCk.none _ _ _,c0⟩
 have he:vJ s (K:Int) (M:Int)=Aw:=by unfold vJ;rw[hok];simp;omega
 have hr:jBl s (K:Int) (M:Int)=M:=by unfold jBl;rw[A6 he];simp
 rw[he,hr,Cz];have b0:1<=K:=by omega
 have a0:K<=16:=by omega
 have hB:=fun w=>JP (sz:Int) (K:Int) w
 rw[jBh hs2 b0 a0] at hB;have k0:=jEg (s:=sz) b0;have i0:=jFt (s:=sz) b0;have g0:=ZI (s:=sz) b0;have j0:H (XY s K=bod K (Gm.sprd K) (pcs (frm s) (XA sz K)) (XA sz K)):=by show _=_;unfold XY;rw[m0];unfold enc;rw[m0]
 obtain⟨l,hl⟩:∃ l,XA sz K=l:=⟨_,rfl⟩;rw[hl] at hB k0 i0 g0 j0;obtain⟨NN,f0⟩:∃ NN,K*l=NN:=⟨_,rfl⟩;have u0:NN<=100000:=by rw[<-f0];exact Bx (Nat.mul_le_mul a0 g0) (by omega)
 rw[f0] at k0;have hm:(K:Int)*(l:Int)=(NN:Int):=by rw[<-f0,Int.natCast_mul]
 have f1:IntKind.i64.wrap ((K:Int)*(l:Int))=(NN:Int):=by rw[hm,A8];omega
 have e1:¬ ((l:Int)<0):=by omega
 have p0:=hd f0.symm;have s0:Gm.Byt (pcs (frm s) l):=fun i p=>jNu (by omega) _
 go_enter func209,ntmps209
 go_wp2_with fail
 refine Ax d0.out ?_;rintro e w1 ⟨v,rfl,y0,c0⟩;obtain⟨am,cm,Am,Cm,rfl,t0⟩:=y0;have o0:=hd t0.at;go_wp2_with (go_at_call 221;refine(hB _).mono ?_;rintro e w' ⟨rfl,hw⟩;obtain rfl:=hw.symm)
 refine Ax (jHa s NN w1 (by omega) (by omega) u0) ?_;rintro e w2 ⟨rfl,v0,z0⟩;have q0:H (∀ q,q<NN->w2.cell? (Q w1 q I)=some (Ao .u8 ((frm s q:Nat):Int))):=fun q hq=>v0.cell hq
 go_wp2_with fail
 refine Ax (jO6 w1 NN K l (frm s) w2 q0 p0 ⟨b0,a0⟩ ⟨i0,by omega⟩) ?_;rintro e w3 ⟨G3,c3,rfl,x0,a1⟩;have r0:=hd x0;have e0:=jA z0 a1;go_wp2_with fail
 refine Ax (jDo am cm M (Gm.sprd K) G3 c3 K l (pcs (frm s) l) w3 (o0.below e0) r0 s0 (by omega) ⟨b0,a0⟩ ⟨i0,by omega⟩ (Gm.sprd_byt K)) ?_;rintro e w4 ⟨rfl,w0,b1⟩;have c1:=Bx c0.size e0.size;have n0:H (jCk w w4 (V (Q w3 0 I) M M) M (XY s K)):=⟨_,_,rfl,by rw[j0.out];exact jI.base w0 c1⟩;go_wp2
 go_ret2
 exact⟨_,rfl,n0,jA (jA c0 e0) b1⟩
theorem jB2 (k n:Int) (w:Ad):CS 155 #[k,n] w (qU k n):=by
 have HE:H (qU k n=(inB n 1 16&&inB k 1 n)):=by show _=_;unfold qU jAl inB;rfl
 cases h1:inB n 1 16 with
 | false=>
  have HF:H (qU k n=Av):=by show _=_;rw[HE.out,h1];rfl
  go_enter func155,ntmps155
  go_wp2_with (go_at_call 43;refine(jM _ _ _ _).mono ?_;rintro e w' ⟨rfl,hw⟩;obtain rfl:=hw.symm)
  go_ret
  exact⟨jQ HF.symm,rfl⟩
 | true=>
  have HF:H (qU k n=inB k 1 n):=by show _=_;rw[HE.out,h1];rfl
  generalize inB k 1 n=b at HF;obtain⟨b,hb⟩:∃ b,inB k 1 n=b:=⟨_,rfl⟩;go_enter func155,ntmps155
  go_wp2_with (go_at_call 43;refine(jM _ _ _ _).mono ?_;rintro e w' ⟨rfl,hw⟩;obtain rfl:=hw.symm)
  go_ret
  exact⟨jQ (by rw[HE.out,h1];simp[hb]),rfl⟩
theorem jFa {s:BA} {R:Nat->Nat} {T:Nat->Nat->Nat} {l:Nat} (hs:s.size=l) (hR:R 0<256) (hT:∀ p,p<l->tat s p=T 0 p):vV s ((R 0:Nat):Int)=txt (rs R T 1) l:=by
 refine jOs (by rw[QB (qV hR),hs]) (fun p hp=>?_);rw[jD6 s hR,hT p hp];unfold rs;rw[Gm.sm_s];show _=0 ^^^ _;rw[Nat.zero_xor,Gp.m_comm,<-hT p hp,Gp.m_nat (JA _ _) hR]
theorem jLr {s:BA} {R:Nat->Nat} {T:Nat->Nat->Nat} {l k:Nat} (hs:s.size=l) (hR:R k<256) (hT:∀ p,p<l->tat s p=T k p):jLq (txt (rs R T k) l) (vV s ((R k:Nat):Int))=txt (rs R T (k+1)) l:=by
 have hz:(vV s ((R k:Nat):Int)).size=l:=by rw[QB (qV hR),hs]
 have he:(txt (rs R T k) l).size=(vV s ((R k:Nat):Int)).size:=by rw[zM,hz]
 refine jOs (by rw[jCm he,zM]) (fun p hp=>?_);rw[jQe he,jFh hp (jRt _ _ _ _),jD6 s hR,hT p hp];unfold rs;rw[Gm.sm_s,<-hT p hp,Gp.m_comm (R k),Gp.m_nat (JA _ _) hR]
set_option maxRecDepth 100000 in
theorem jKz (ma:OA) (mc r:Nat) (F:Nat->Nat->Nat) (a:OA) (cp n l:Nat) (S:Nat->BA) (w:Ad) (hm:ZH w ma r (fun _=>n) (fun i j=>((F i j:Nat):Int))) (h:jK w a n S) (hS:∀ i,i<n->(S i).size=l) (hr:r<=1048576) (hn:1<=n/\n<=16) (hl:l<=1048576) (hF:Gm.Byt F):Ak prog 163 #[V ma r mc,V a n cp] w fun e w'=>∃ G c,e=Ae (V (Q G 0 I) r c)/\jI w' w.1.size (Q G 0 I) r c (bod n F (fun i p=>tat (S i) p) l)/\Ab w.1.size w w':=by
 obtain⟨i0,hi,n2,o2,p2⟩:=Ch Tryz.infoStr;obtain⟨hn1,q2⟩:=hn;have KH:H (jK w a n S):=h;have KM:H (ZH w ma r (fun _=>n) (fun i j=>((F i j:Nat):Int))):=hm;have K0:H (jI (w.alloc (J #[] 9)) w.1.size (Q w.1.size 0 I) 0 0 (bod n F (fun i p=>tat (S i) p) l)):=jIc w _;have k0:0<n:=by omega
 obtain⟨b0,g0,rfl,i1⟩:=h 0 k0;rw[Cp] at i1;have u1:=hS 0 k0;clear h hm;go_enter func163,ntmps163
 go_wp2
 go_loopw [5,6] (fun v i wr=>∃ k G c:Nat,k<=r/\i=Ao Ar (k:Int)/\v=V (Q G 0 I) k c/\jI wr w.1.size (Q G 0 I) k c (bod n F (fun i p=>tat (S i) p) l)/\Ab w.1.size w wr) (fun _ i _=>r-(intOf i).toNat)
 case atStart=>exact⟨0,_,_,Bi _,rfl,rfl,K0,(Az _ _).alloc (Ay _) _⟩
 case round=>
  obtain⟨k,G,c,hk,rfl,rfl,d0,a0⟩:=hrel;clear K0;by_cases hlt:k<r
  .have s2:(k:Int)<(r:Int):=by omega
   obtain⟨b1,f0,ai,ci,rfl,o0,g1⟩:=KM.rowE hlt;obtain⟨b2,c0,rfl,n1⟩:=g1.some k0;have m0:=(a0.cell (p:=Q b1 (f0+k) I) (A7 o0)).trans o0;have q0:=n1 0 k0;rw[Cp,JR _ _ _ k0] at q0;have p0:=(a0.cell (p:=Q b2 c0 I) (A7 q0)).trans q0;have n0:=(a0.cell (p:=Q b0 g0 I) (A7 i1)).trans i1;have KZ:H (∀ t,t<n->w.cell? (Q b2 (c0+t) I)=M (Ao Ar ((F k t:Nat):Int))):=fun t ht=>by rw[n1 t ht,JR _ _ _ ht]
   have HF:H (vV (S 0) ((F k 0:Nat):Int)=txt (rs (F k) (fun i p=>tat (S i) p) 1) l):=jFa (R:=F k) (T:=fun i p=>tat (S i) p) u1 (hF k 0) (fun _ _=>rfl);have h0:H (∀ w,CB 187 #[(S 0),Ao Ar ((F k 0:Nat):Int)] w (txt (rs (F k) (fun i p=>tat (S i) p) 1) l)):=fun w=>by rw[<-HF.out];exact jA8 (S 0) _ w (by omega)
   have j1:=A7 n0;have k1:=A7 m0;have m1:=A7 p0;have KO:H (jI wr w.1.size (Q G 0 I) k c (bod n F (fun i p=>tat (S i) p) l)):=d0;have KB:H (Ab w.1.size w wr):=a0;have q1:H (w.cell? (Q b1 (f0+k) I)=M (V (Q b2 c0 I) n ci)):=o0;obtain⟨s0,t1⟩:∃ s0,S 0=s0:=⟨_,rfl⟩;obtain⟨x0,x1⟩:∃ x0,F k 0=x0:=⟨_,rfl⟩;rw[t1] at n0 h0;rw[x1] at p0 h0;clear g1 n1 q0 d0 a0 HF t1 x1 o0;go_wp2_with fail
   go_region_held3 (fun w'=>w'.cell? (Q b0 g0 I)=M (Ag s0)/\w'.cell? (Q b1 (f0+k) I)=M (V (Q b2 c0 I) n ci)/\w'.cell? (Q b2 c0 I)=M (Ao Ar (x0:Int))) (go_keep) ((go_at_call 187;refine Ax (h0 _) ?_;rintro e w5 ⟨rfl,j0⟩;have e0:=jC j0;clear j0;have r0:=(e0.cell (p:=Q b0 g0 I) j1).trans n0;have t0:=(e0.cell (p:=Q b1 (f0+k) I) k1).trans m0;have u0:=(e0.cell (p:=Q b2 c0 I) m1).trans p0))
   all_goals
    have KO5:H (jI w5 w.1.size (Q G 0 I) k c (bod n F (fun i p=>tat (S i) p) l)):=jI.below KO e0;have KB5:H (Ab w.1.size w w5):=jA KB e0;clear r0 t0 u0 n0 m0 p0 KO KB e0 h0;go_wp2
    go_loopw [7,8] (fun v i wr=>∃ q:Nat,1<=q/\q<=n/\i=Ao Ar (q:Int)/\v=Ag (txt (rs (F k) (fun i p=>tat (S i) p) q) l)/\jI wr w.1.size (Q G 0 I) k c (bod n F (fun i p=>tat (S i) p) l)/\Ab w.1.size w wr) (fun _ i _=>n-(intOf i).toNat)
    case atStart=>exact⟨1,Ay _,hn1,rfl,rfl,KO5,KB5⟩
    case round=>
     obtain⟨q,t2,hq,rfl,rfl,d0,a0⟩:=hrel;clear KO5 KB5;by_cases hqn:q<n
     .have k2:(q:Int)<(n:Int):=by omega
      obtain⟨b3,r2,eb,v0⟩:=KH q hqn;cases eb;have e1:=(a0.cell (p:=Q b0 (g0+q) I) (A7 v0)).trans v0;have m0:=(a0.cell (p:=Q b1 (f0+k) I) (A7 q1)).trans q1;have f1:=(a0.cell (p:=Q b2 (c0+q) I) (A7 (KZ q hqn))).trans (KZ q hqn);have HA:H (jLq (txt (rs (F k) (fun i p=>tat (S i) p) q) l) (vV (S q) ((F k q:Nat):Int))=txt (rs (F k) (fun i p=>tat (S i) p) (q+1)) l):=jLr (R:=F k) (T:=fun i p=>tat (S i) p) (hS q hqn) (hF k q) (fun _ _=>rfl);have v1:=hS q hqn;have h0:H (∀ w,CB 187 #[(S q),Ao Ar ((F k q:Nat):Int)] w (vV (S q) ((F k q:Nat):Int))):=fun w=>jA8 (S q) _ w (by omega)
      have c1:H (∀ w,CB 188 #[(txt (rs (F k) (fun i p=>tat (S i) p) q) l),(vV (S q) ((F k q:Nat):Int))] w (txt (rs (F k) (fun i p=>tat (S i) p) (q+1)) l)):=fun w=>by rw[<-HA.out];exact jKp _ _ w (by rw[zM];exact hl)
      have j1:=A7 e1;have k1:=A7 m0;have m1:=A7 f1;have KO:H (jI wr w.1.size (Q G 0 I) k c (bod n F (fun i p=>tat (S i) p) l)):=d0;have KB:H (Ab w.1.size w wr):=a0;generalize vV (S q) ((F k q:Nat):Int)=sq at h0 c1;obtain⟨tq,w1⟩:∃ tq,S q=tq:=⟨_,rfl⟩;obtain⟨xq,y1⟩:∃ xq,F k q=xq:=⟨_,rfl⟩;obtain⟨r1,w0⟩:∃ r1,txt (rs (F k) (fun i p=>tat (S i) p) q) l=r1:=⟨_,rfl⟩;obtain⟨p1,z0⟩:∃ p1,txt (rs (F k) (fun i p=>tat (S i) p) (q+1)) l=p1:=⟨_,rfl⟩;have KNX:H (txt (rs (F k) (fun i p=>tat (S i) p) (q+1)) l=p1):=z0;rw[w1] at e1 h0;rw[y1] at f1 h0;rw[w0,z0] at c1;rw[w0];clear d0 a0 HA w1 y1 z0 v0 v1 w0;go_wp2_with fail
      go_region_held3 (fun w'=>w'.cell? (Q b0 (g0+q) I)=M (Ag tq)/\w'.cell? (Q b1 (f0+k) I)=M (V (Q b2 c0 I) n ci)/\w'.cell? (Q b2 (c0+q) I)=M (Ao Ar (xq:Int))) (go_keep) ((first|(go_at_call 187;refine Ax (h0 _) ?_;rintro e w5 ⟨rfl,j0⟩;have e0:=jC j0;clear j0;have r0:=(e0.cell (p:=Q b0 (g0+q) I) j1).trans e1;have t0:=(e0.cell (p:=Q b1 (f0+k) I) k1).trans m0;have u0:=(e0.cell (p:=Q b2 (c0+q) I) m1).trans f1)|(guard_hyp e0;go_at_call 188;refine Ax (c1 _) ?_;rintro e w6 ⟨rfl,hb6⟩;have a2:=(hb6.cell (p:=Q b0 (g0+q) I) (A7 r0)).trans r0;have e2:=(hb6.cell (p:=Q b1 (f0+k) I) (A7 t0)).trans t0;have f2:=(hb6.cell (p:=Q b2 (c0+q) I) (A7 u0)).trans u0)))
      all_goals
       have HO:H (jI w6 w.1.size (Q G 0 I) k c (bod n F (fun i p=>tat (S i) p) l)):=jI.below (jI.below KO e0) hb6;have HB:H (Ab w.1.size w w6):=jA (jA KB e0) hb6;clear r0 t0 u0 a2 e2 f2 e1 m0 f1 KO KB e0 hb6 h0 c1;go_wp2
       go_roundw
       case rel=>exact⟨q+1,by omega,by omega,by go_num,by rw[KNX.out],HO.out,HB.out⟩
       case measure=>simp[intOf] <;> omega
     .obtain rfl:q=n:=by omega
      have k2:¬ (q:Int)<(q:Int):=by omega
      have m2:=a0.size;have i2:=(A0 d0 _ rfl).1;obtain⟨sv,o1⟩:∃ sv,txt (rs (F k) (fun i p=>tat (S i) p) q) l=sv:=⟨_,rfl⟩;have z1:H (sv=bod q F (fun i p=>tat (S i) p) l k):=o1.symm;rw[o1];clear o1;go_wp2_with (at_builtin;refine Dc _ rfl _ _ 27 rfl w.1.size 9 i0 Ap 1 16 C3 hi n2 o2 p2 rfl (by decide) (V (M ⟨G,0,I⟩) k c) k _ rfl (Cb d0 _) ⟨wr.1.size,0,I⟩ 1 1 [Ag sv] rfl rfl (Cf (cs:=#[Ag sv]) (t:=9) (fr:=(0,0)) (Co wr _)) (by simp[Aq]) (by omega) (by unfold Au;omega) (by omega) (by simp;omega) (wr.1.size+1) (by simp) ?_;intro g2 cap3 w2 a1 y0 j2 s1)
      have HO:H (jI w2 w.1.size g2 (k+1) cap3 (bod q F (fun i p=>tat (S i) p) l)):=by
       show jI _ _ _ _ _ _;unfold jI;rw[JY,<-z1.out];exact a1
      have hb':Ab w.1.size w w2:=(a0.alloc m2 _).grown (show World.grownBy _ w2 (M G) from y0) (by simp;omega) (fun j hj=>by cases hj;exact i2);clear a1 y0 j2 s1 d0;go_roundw
      case rel=>exact⟨k+1,g2,cap3,by omega,by go_num,rfl,HO.out,hb'⟩
      case measure=>simp[intOf] <;> omega
  .obtain rfl:k=r:=by omega
   have HO:H _:=d0;clear d0;go_wp2
   go_ret
   exact⟨G,c,rfl,HO,a0⟩
end Go.Proofs.YtcaejlalnjnifaaGreat
