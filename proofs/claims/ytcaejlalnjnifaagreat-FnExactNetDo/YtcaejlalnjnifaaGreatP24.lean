import Derived.Test.YtcaejlalnjnifaaGreatP23
import Derived.Test.YtcaejlalnjnifaaGreatP22
set_option maxHeartbeats 8000000
set_option maxRecDepth 2000
open Go.Value renaming slice->V,string->Ag,tuple->Ah,agg->Ai,int->Ao,oneCell'->Aq
open Option renaming none->I,some->M
open Go.RowKit renaming Hid->H,Below->Ab
open Go.Addr renaming mk->Q
open Go.Obj renaming cells->J
open Go renaming World->Ad,Value->Aj,Calls->Ak,maxLen->Au
open Go.Ending renaming returned->Ae
open ByteArray renaming empty->Ap
open Go.IntKind renaming i64->Ar
open Bool renaming false->Av,true->Aw
open Go.Proofs.Tryz
open Go.ChangeShapes Go.WideShapes Go.ChangeAt Go.RowKit
namespace Go.Proofs.YtcaejlalnjnifaaGreat
theorem Tryz.infoPc3:(Tryz.prog.info? 29).map (fun i=>(i.zero,i.size,i.bytes))=M (M (Ai #[Ap,(),(),(),Ap,V I 0 0]),6,80):=by kernel_rfl
def zc:Nat->Aj
 | 0=>Ag Ap
 | 1=>Ao Ar 0
 | 2=>Ao Ar 0
 | 3=>Ao Ar 0
 | 4=>Ag Ap
 | _=>V I 0 0
theorem jPm (n:Nat):(madeCells #[Ap,(),(),(),Ap,V I 0 0] (n*6)).toList=gL (fun _=>zc) n:=by
 apply Cn
 intro j;by_cases hj:j<n*6
 .have h2:=XM (fun _=>zc) n (j / 6) (j % 6) (by omega) (by omega);rw[show j / 6*6+j % 6=j by omega] at h2;rw[h2];have hq:j % 6<6:=by omega
  simp[madeCells,hj];generalize j % 6=q at hq;match q,hq with
  | 0,_=>rfl
  | 1,_=>rfl
  | 2,_=>rfl
  | 3,_=>rfl
  | 4,_=>rfl
  | 5,_=>rfl
 .rw[Bb (by simp[madeCells];omega),Bb (by rw[XN];omega)]
def jIf (wr:Ad) (B G n:Nat) (P:Nat->Pc) (c:Nat):Prop:=∃ (A:Nat->OA) (C:Nat->Nat),
 jEc wr B G n n (fun i=>if i<c then cel (P i) (V (A i) (P i).m (C i)) else zc)/\(∀ i,i<c->jI wr B (A i) (P i).m (C i) (P i).S) /\
 (∀ i j x y,i<j->j<c->A i=M x->A j=M y->x.block≠y.block)/\(∀ i x,i<c->A i=M x->x.block≠G)
theorem jIf.step {wr w2:Ad} {B G n:Nat} {P:Nat->Pc} {c:Nat} {aP:OA} {cP:Nat} (h:jIf wr B G n P c) (hc:c<n) (hb:Ab wr wr w2) (hB:B<=wr) (ho:jI w2 wr aP (P c).m cP (P c).S):jIf ((((((w2.setCell (Q G (c*6+0) I) (Ag (P c).r)).setCell (Q G (c*6+1) I) (Ao Ar (P c).k)).setCell (Q G (c*6+2) I) (Ao Ar (P c).n)).setCell (Q G (c*6+3) I) (Ao Ar (P c).i)).setCell (Q G (c*6+4) I) (Ag (P c).b)).setCell (Q G (c*6+5) I) (V aP (P c).m cP)) B G n P (c+1):=by
 obtain⟨A,C,h1,h2,h3,h4⟩:=h;have lG:=(A0 h1 G rfl).2;refine⟨fun i=>if i=c then aP else A i,fun i=>if i=c then cP else C i,?_,?_,?_,?_⟩
 .have e:=(((((h1.below hb).set hc (show 0<6 by omega) (Ag (P c).r)).set hc (show 1<6 by omega) (Ao Ar (P c).k)).set hc (show 2<6 by omega) (Ao Ar (P c).n)).set hc (show 3<6 by omega) (Ao Ar (P c).i)).set hc (show 4<6 by omega) (Ag (P c).b);have e2:=e.set hc (show 5<6 by omega) (V aP (P c).m cP);refine e2.congr fun i q hi hq=>?_
  by_cases ei:i=c
  .subst ei;match q,hq with
   | 0,_=>simp[cel]
   | 1,_=>simp[cel]
   | 2,_=>simp[cel]
   | 3,_=>simp[cel]
   | 4,_=>simp[cel]
   | 5,_=>simp[cel]
  .by_cases e2:i<c
   .simp[ei,e2,show i<c+1 by omega]
   .simp[ei,e2,show ¬ i<c+1 by omega]
 .intro i hi;by_cases ei:i=c
  subst ei;simp only[C0];have o1:=jI.base ho hB;have far:∀ x,aP=M x->x.block≠G:=fun x e=>by subst e;have:=(A0 ho x.block rfl).1;omega
  rotate_left;simp only[ei,Dj];have o1:=jI.below (h2 i (by omega)) hb;have far:∀ x,A i=M x->x.block≠G:=fun x e=>h4 i x (by omega) e
  rotate_left;all_goals
   exact jL (jL (jL (jL (jL (jL o1 (jN _ _ _ _) far) (jN _ _ _ _) far) (jN _ _ _ _) far) (jN _ _ _ _) far) (jN _ _ _ _) far) (jN _ _ _ _) far
 .intro i j x y b0 hj hx hy;replace hx:(if i=c then aP else A i)=M x:=hx
  replace hy:(if j=c then aP else A j)=M y:=hy
  by_cases ej:j=c
  .subst ej;simp only[C0] at hy;rw[A5 (by omega)] at hx;subst hy;have l1:=(A0 ho y.block rfl).1;have a0:=h2 i (by omega);rw[hx] at a0;have l2:=(A0 a0 x.block rfl).2;omega
  .rw[A5 ej] at hy;rw[A5 (by omega)] at hx;exact h3 i j x y b0 (by omega) hx hy
 .intro i x hi hx;replace hx:(if i=c then aP else A i)=M x:=hx
  by_cases ei:i=c
  .subst ei;simp only[C0] at hx;subst hx;have:=(A0 ho x.block rfl).1
   omega
  .rw[A5 ei] at hx;exact h4 i x (by omega) hx
theorem jIf.all {wr:Ad} {B G n:Nat} {P:Nat->Pc} (h:jIf wr B G n P n):∃ A C,jCi wr B G n n A C P:=by
 obtain⟨A,C,h1,h2,h3,h4⟩:=h;refine⟨A,C,h1.congr (fun i q hi _=>by simp[hi]),h2,h3,fun i x y hi hx hy=>?_⟩;cases hy;exact h4 i x hi hx
noncomputable def jIb (s:BA) (k n:Int):Nat:=if vJ s k n=Aw then n.toNat else 0
theorem jMo (s:BA) (k n:Int) (w:Ad) (hs:s.size<=1048576):Ak prog 191 #[s,k,n] w fun e w'=>∃ v,e=Ae (Ah #[v,(vJ s k n)])/\jQs w w' v (jIb s k n) (jLp k n.toNat (XY s k.toNat))/\Ab w w w':=by
 have KE:H (Ak prog 209 #[s,k,n] w fun e w'=>∃ v,e=Ae (Ah #[v,(vJ s k n)])/\jCk w w' v (jBl s k n) (XY s k.toNat)/\Ab w w w'):=jG5 s k n w hs;unfold jIb;cases hok:vJ s k n with
 | false=>
  rw[hok] at KE;obtain⟨P,HP⟩:=nnH (jLp k n.toNat (XY s k.toNat));rw[HP.out];go_enter func191,ntmps191
  go_wp2_with fail
  refine Ax KE.out ?_;rintro e w1 ⟨v,rfl,_,b1⟩;have HO:H (jCi (w1.alloc (J #[] 29)) w (Q w1 0 I) 0 0 (fun _=>I) (fun _=>0) P):=⟨Cc w1 #[] 0 b1.size (by unfold Au;omega) rfl,fun i hi=>Bo hi (Bk _),fun i j x y _ hj=>Bo hj (Bk _),fun i x y hi=>Bo hi (Bk _)⟩;go_wp2
  go_ret2
  exact⟨_,rfl,⟨_,_,_,_,rfl,HO.out⟩,b1.alloc b1.size _⟩
 | true=>
  obtain⟨h1,h2,h3,h4⟩:=JS hok;have hR:jBl s k n=n.toNat:=by unfold jBl;rw[hok];rfl
  have r0:=fun i=>jEj hok i
  rw[hok,hR] at KE;rw[A6 rfl];obtain⟨N,rfl⟩:∃ N:Nat,n=(N:Int):=⟨n.toNat,by omega⟩;rw[Cz] at KE |-;generalize XY s k.toNat=S at KE r0 |-;have hN:N<=16:=by omega
  obtain⟨i0,hi,a1,c1,e1⟩:=Ch Tryz.infoPc3;have j0:H (∀ i,jLp k N S i=⟨rtS N (lvs k N S),k,(N:Int),(i:Int),S i,pfR N (lvs k N S) (i:Int),pfF N (lvs k N S) (i:Int)⟩):=fun i=>rfl
  obtain⟨P,HP⟩:=nnH (jLp k N S);rw[HP.out] at j0;rw[HP.out];obtain⟨L,HL⟩:=nnH (lvs k N S);have w0:H (∀ i,(L i).size<=16):=fun i=>by rw[<-HL.out];exact jJk _ _ _ _
  obtain⟨rt,p0⟩:=nnH (rtS N L);have n1:rt.size<=1048576:=by
   rw[<-p0.out];unfold rtS;split
   .rename_i hlv
    have:=vE hlv
    rw[Gt.rt_size (by omega) this.2.2];omega
   .decide
  rw[HL.out,p0.out] at j0;clear h1 h2 h3 h4 hok hR;go_enter func191,ntmps191
  go_wp2_with fail
  refine Ax KE.out ?_;rintro e w1 ⟨v,rfl,⟨aE,cE,rfl,O1⟩,b1⟩;have A1:jK w1 aE N S:=jI.at O1;clear O1;have n0:=jLs k aE N cE S _ A1 (by omega) (fun i _=>by have:=r0 i;omega);rw[HL.out,p0.out] at n0;go_wp2_with fail
  refine Ax n0 ?_;rintro e w2 ⟨GL,rfl,O2,b2⟩;have s0:H (jK w2 aE N S):=A1.below b2;have v0:H (jK w2 GL N L):=jI.at O2;have t0:H (Ab w w w2):=jA b1 b2;clear A1 O2 b1 b2 n0 r0 KE;obtain⟨W,HW⟩:=nmH (w2.alloc (J #[k,V aE N cE,V GL N N,rt] 237));obtain⟨D,HD⟩:=nmH w2.1.size;have z0:=jZ HW HD;have k0:=bl1 HW;go_wp2_with (at_make;rw[<-HW.out,<-HD.out];refine Cx _ rfl _ _ 87 rfl W 29 i0 (Ai #[Ap,(),(),(),Ap,V I 0 0]) 6 underlying87 hi a1 c1 Ar Ar _ _ N rfl rfl rfl rfl (by rw[e1];omega) (by unfold Au;omega) (Ay _) ?_;intro w3 m0 h0)
  obtain⟨G,HG⟩:=nmH W.1.size;have e0:W.1.size<=G:=by rw[HG.out];exact Ay _
  have K3:H (jIf w3 W G N P 0):=by
   refine⟨fun _=>I,fun _=>0,?_,fun i hi=>Bo hi (Bk _),fun i j x y _ hj=>Bo hj (Bk _),fun i x hi=>Bo hi (Bk _)⟩;rw[HG.out];show World.ownsRow _ _ _ _ _ _ _;rw[jBm (c':=fun _=>zc) (fun i q _ _=>by simp),<-jPm];exact m0
  have KB3:H (Ab W W w3):=(Az _ _).grown h0 (Ay _) (by simp);have q0:H (Ab w w W):=jA t0.out k0;have g1:H (jK W aE N S):=s0.out.below k0;have j1:H (jK W GL N L):=v0.out.below k0;rw[<-HG.out];clear m0 h0 k0 s0 v0 t0 hi a1 c1 e1;go_loopw [30] (fun i wr=>∃ c:Nat,c<=N/\i=Ao Ar c/\jIf wr W G N P c/\Ab W W wr) (fun i _=>N-(intOf i).toNat)
  case atStart=>exact⟨0,Bi _,rfl,K3.out,KB3.out⟩
  case round=>
   obtain⟨c,hk,rfl,g0,b0⟩:=hrel;clear K3 KB3;by_cases hlt:c<N
   .have o1:(c:Int)<(N:Int):=by omega
    have k1:H (Row wr D 237 #[k,V aE N cE,V GL N N,rt]):=z0.out.below b0 z0.out.lt;have KP:H (Ak prog 211 #[Ai #[k,V aE N cE,V GL N N,rt],(c:Int)] wr fun e w'=>∃ v,e=Ae (pcV rt k (N:Int) (c:Int) (S c) v)/\jCk wr w' v (P c).m (P c).S/\Ab wr.1.size wr w'):=by
     rw[j0.out];exact jKf k aE N cE S GL L rt c wr (g1.out.below b0) (j1.out.below b0) hlt (by omega) w0.out n1
    have KI:H (jIf wr W G N P c):=g0;have KB:H (Ab W W wr):=b0;have lG:G<wr.1.size:=by
     obtain⟨A,C,h1,_⟩:=g0;exact(A0 h1 G rfl).2
    have HS:H ((P c).r=rt/\(P c).k=k/\(P c).n=(N:Int)/\(P c).i=(c:Int)/\(P c).b=S c):=by rw[j0.out];exact⟨rfl,rfl,rfl,rfl,rfl⟩
    obtain⟨sc,m1⟩:=nnH (S c);rw[m1.out] at KP HS;obtain⟨mc,o0⟩:=nnH ((P c).m);rw[o0.out] at KP;have cells:∃ f:Nat->Aj,(∀ q,q<6->wr.cell? (Q G (c*6+q) I)=M (f q))/\∀ q,wr.frozen? (Q G (c*6+q) I)=Av:=by
     obtain⟨A,C,h1,_⟩:=g0;exact⟨_,fun q hq=>h1.cell hlt hq,fun q=>B0 h1 _⟩
    obtain⟨f,HF,u0⟩:=cells;have c0:H (∀ q,q<6->wr.cell? (Q G (c*6+q) I)=M (f q)):=HF;have d0:H (∀ q,wr.frozen? (Q G (c*6+q) I)=Av):=u0;clear g0 b0 HF u0;go_wp2_with (refine Bg rfl 237 _ rfl D rfl 237 _ (0,0) _ k1.out underlying237 rfl Tryz.infoCut ?_)
    refine Ax KP.out ?_;rintro e w4 ⟨v4,rfl,⟨aP,cP,rfl,O4⟩,a0⟩;have HI:H (jIf ((((((w4.setCell (Q G (c*6+0) I) rt).setCell (Q G (c*6+1) I) k).setCell (Q G (c*6+2) I) (N:Int)).setCell (Q G (c*6+3) I) (c:Int)).setCell (Q G (c*6+4) I) sc).setCell (Q G (c*6+5) I) (V aP mc cP)) W G N P (c+1)):=by
     have:=jIf.step (aP:=aP) (cP:=cP) KI.out hlt a0 KB.out.size (by rw[o0.out];exact O4)
     rw[o0.out,HS.out.1,HS.out.2.1,HS.out.2.2.1,HS.out.2.2.2.1,HS.out.2.2.2.2] at this;exact this
    have HB4:H (Ab W W ((((((w4.setCell (Q G (c*6+0) I) rt).setCell (Q G (c*6+1) I) k).setCell (Q G (c*6+2) I) (N:Int)).setCell (Q G (c*6+3) I) (c:Int)).setCell (Q G (c*6+4) I) sc).setCell (Q G (c*6+5) I) (V aP mc cP))):=Bn (Bn (Bn (Bn (Bn (Bn (jA KB.out a0) e0 _) e0 _) e0 _) e0 _) e0 _) e0 _;have x0:=(a0.cell (p:=Q G (c*6+0) I) lG).trans (c0.out 0 (by omega));have x1:=(a0.cell (p:=Q G (c*6+1) I) lG).trans (c0.out 1 (by omega));have x2:=(a0.cell (p:=Q G (c*6+2) I) lG).trans (c0.out 2 (by omega));have x3:=(a0.cell (p:=Q G (c*6+3) I) lG).trans (c0.out 3 (by omega));have x4:=(a0.cell (p:=Q G (c*6+4) I) lG).trans (c0.out 4 (by omega));have x5:=(a0.cell (p:=Q G (c*6+5) I) lG).trans (c0.out 5 (by omega));have f0:=(Cw (a:=(Q G (c*6+0) I)) (a0.block _ lG)).trans (d0.out 0);have f1:=(Cw (a:=(Q G (c*6+1) I)) (a0.block _ lG)).trans (d0.out 1);have f2:=(Cw (a:=(Q G (c*6+2) I)) (a0.block _ lG)).trans (d0.out 2);have f3:=(Cw (a:=(Q G (c*6+3) I)) (a0.block _ lG)).trans (d0.out 3);have f4:=(Cw (a:=(Q G (c*6+4) I)) (a0.block _ lG)).trans (d0.out 4);have f5:=(Cw (a:=(Q G (c*6+5) I)) (a0.block _ lG)).trans (d0.out 5);generalize f 0=y0 at x0;generalize f 1=y1 at x1;generalize f 2=y2 at x2;generalize f 3=y3 at x3;generalize f 4=y4 at x4;generalize f 5=y5 at x5;clear a0 O4 KP KI KB c0 d0;rw[Cp] at x0 f0 HI HB4;go_wp2
    go_roundw
    case rel=>exact⟨c+1,by omega,by go_num,HI.out,HB4.out⟩
    case measure=>simp[intOf] <;> omega
   .obtain rfl:c=N:=by omega
    have HO:H (∃ A C,jCi wr w G c c A C P):=by
     obtain⟨A,C,h1,h2,h3⟩:=jIf.all g0;exact⟨A,C,jX h1 q0.out.size,fun i hi=>jI.base (h2 i hi) q0.out.size,h3⟩
    have i1:H (Ab w w wr):=jA q0.out b0;clear g0 b0;go_wp2
    go_ret2
    obtain⟨A,C,hO⟩:=HO.out;exact⟨_,rfl,⟨_,_,A,C,rfl,hO⟩,i1.out⟩
theorem jCi.snoc {w w2 w3:Ad} {B g g3 c cap a0:Nat} {A:Nat->OA} {C:Nat->Nat} {P:Nat->Pc} {aP:OA} {cP:Nat} {X:Obj} (h:jCi w B g c cap A C P) (hB:B<=w) (hb:Ab w w w2) (ho:jI w2 w aP (P c).m cP (P c).S) (h3:w3.ownsRow B 29 6 (V g3 (c+1) a0) (c+1) (gL (fun i=>cel (P i) (V (A i) (P i).m (C i))) c++[Ag (P c).r,Ao Ar (P c).k,Ao Ar (P c).n,Ao Ar (P c).i,Ag (P c).b,V aP (P c).m cP])) (hg:(w2.alloc X).grownBy w3 (M g)) (b0:g=g3\/g3=w2.1.size+1):∃ A' C',jCi w3 B g3 (c+1) a0 A' C' P:=by
 obtain⟨h1,h2,h4,h5⟩:=h;have lg:=(A0 h1 g rfl).2;have lA:∀ i x,i<c->A i=M x->x.block<w:=fun i x hi e=>by
  have:=h2 i hi
  rw[e] at this;exact(A0 this x.block rfl).2
 have lP:∀ x,aP=M x->w.1.size<=x.block/\x.block<w2:=fun x e=>by
  subst e;exact A0 ho x.block rfl
 have hs:=hb.size;refine⟨fun i=>if i=c then aP else A i,fun i=>if i=c then cP else C i,?_,?_,?_,?_⟩
 .show World.ownsRow _ _ _ _ _ _ _;have e:gL (fun i=>cel (P i) (V (if i=c then aP else A i) (P i).m (if i=c then cP else C i))) (c+1)=gL (fun i=>cel (P i) (V (A i) (P i).m (C i))) c++[Ag (P c).r,Ao Ar (P c).k,Ao Ar (P c).n,Ao Ar (P c).i,Ag (P c).b,V aP (P c).m cP]:=by
   rw[jO9,jBm (c':=fun i=>cel (P i) (V (A i) (P i).m (C i))) (fun i q hi _=>by simp[show i≠c by omega])];simp[cel]
  rw[e];exact h3
 .intro i hi;by_cases ei:i=c
  .subst ei;simp only[C0];exact jL (Cb (jI.base ho hB) X) hg (fun x e=>by have:=lP x e;omega)
  .simp only[ei,Dj];exact jL (Cb (jI.below (h2 i (by omega)) hb) X) hg (fun x e=>h5 i x _ (by omega) e rfl)
 .intro i j x y c0 hj hx hy;replace hx:(if i=c then aP else A i)=M x:=hx
  replace hy:(if j=c then aP else A j)=M y:=hy
  by_cases ej:j=c
  .subst ej;simp only[C0] at hy;rw[A5 (by omega)] at hx;have l1:=lP y hy;have l2:=lA i x (by omega) hx;omega
  .rw[A5 ej] at hy;rw[A5 (by omega)] at hx;exact h4 i j x y c0 (by omega) hx hy
 .intro i x y hi hx hy;replace hx:(if i=c then aP else A i)=M x:=hx
  cases hy;by_cases ei:i=c
  .subst ei;simp only[C0] at hx;have:=lP x hx
   rcases b0 with e|e
   .show x.block≠g3;omega
   .show x.block≠g3;omega
  .rw[A5 ei] at hx;have l2:=lA i x (by omega) hx;rcases b0 with e|e
   .subst e;exact h5 i x _ (by omega) hx rfl
   .show x.block≠g3;omega
theorem jCi.base {w:Ad} {B B':Nat} {a:OA} {n cap:Nat} {A:Nat->OA} {C:Nat->Nat} {P:Nat->Pc} (h:jCi w B a n cap A C P) (hB:B'<=B):jCi w B' a n cap A C P:=
 ⟨jX h.1 hB,fun i hi=>jI.base (h.2.1 i hi) hB,h.2.2⟩
theorem jMx (k:Int) (a:OA) (n cap:Nat) (S:Nat->BA) (w:Ad) (h:jK w a n S) (hn:n<=64) (hS:∀ i,i<n->(S i).size<=1048576):Ak prog 128 #[V a n cap,k,(n:Int)] w fun e w'=>∃ v,e=Ae v/\jQs w w' v n (jLp k n S)/\Ab w w w':=by
 obtain⟨i0,hi,n1,o1,p1⟩:=Ch Tryz.infoStr;obtain⟨j0,hj,j1,k1,m1⟩:=Ch Tryz.infoPc3;have e0:H (∀ i,jLp k n S i=⟨rtS n (lvs k n S),k,(n:Int),(i:Int),S i,pfR n (lvs k n S) (i:Int),pfF n (lvs k n S) (i:Int)⟩):=fun i=>rfl
 obtain⟨P,HP⟩:=nnH (jLp k n S);rw[HP.out] at e0;rw[HP.out];obtain⟨L,HL⟩:=nnH (lvs k n S);have g0:H (∀ i,(L i).size<=16):=fun i=>by rw[<-HL.out];exact jJk _ _ _ _
 obtain⟨rt,q0⟩:=nnH (rtS n L);rw[HL.out,q0.out] at e0;have KH:=hd h;have KS:H (∀ i,i<n->(S i).size<=1048576):=hS;have K0:H (jI (w.alloc (J #[] 9)) w (Q w 0 I) 0 0 L/\Ab w w (w.alloc (J #[] 9))):=⟨jIc w _,(Az _ _).alloc (Ay _) _⟩;go_enter func128,ntmps128
 go_wp2
 go_loopw [7,8] (fun v vi wr=>∃ c g cc:Nat,c<=n/\vi=Ao Ar (c:Int)/\v=V g c cc/\jI wr w g c cc L/\Ab w w wr) (fun _ vi _=>n-(intOf vi).toNat)
 case atStart=>exact⟨0,w.1.size,0,Bi _,rfl,rfl,K0.1,K0.2⟩
 case round=>
  obtain⟨c,g,cc,hk,rfl,rfl,ho,x0⟩:=hrel;have KO:H (jI wr w g c cc L/\Ab w w wr):=⟨ho,x0⟩;by_cases hlt:c<n
  .have s1:(c:Int)<(n:Int):=by omega
   obtain⟨b1,c1,rfl,o0⟩:=(KH.below KO.2) c hlt;have KC:H (∀ W,CB 157 #[k,(n:Int),(c:Int),(S c)] W (L c)):=fun W=>by
    have:=JN k (n:Int) (c:Int) (S c) W (KS c hlt)
    rw[<-HL.out];exact this
   have lg:=A0 KO.1 _ rfl;generalize S c=sc at o0 KC;obtain⟨z,HZ⟩:=nnH (L c);rw[HZ.out] at KC;go_wp2_with fail
   refine Ax (KC _) ?_;rintro e w6 ⟨rfl,w0⟩;have K6:H (jI w6 w g c cc L/\Ab w w w6):=⟨jI.below KO.1 w0,jA KO.2 w0⟩;have a1:=K6.2.size;go_wp2_with (at_builtin;refine qC _ rfl _ _ 27 rfl w 9 i0 Ap 1 16 C3 hi n1 o1 p1 rfl (by decide) g c cc _ rfl (Cb K6.out.1 _) ⟨w6.1.size,0,I⟩ 1 1 [z] rfl rfl (Cf (cs:=#[Ag z]) (t:=9) (fr:=(0,0)) (Co w6 _)) (by simp[Aq]) (by unfold Au;omega) (by omega) (by simp;omega) ?_;intro g3 cap3 w7 c0 a0)
   have HL7:H (jI w7 w g3 (c+1) cap3 L/\Ab w w w7):=by
    refine⟨?_,(K6.2.alloc a1 _).grown (show World.grownBy _ w7 (M g) from a0) (by simp;omega) (fun j hj=>by cases hj;exact lg.1)⟩;unfold jI;rw[JY,HZ.out];exact c0
   go_roundw
   case rel=>exact⟨c+1,g3,cap3,by omega,by go_num,rfl,HL7.out.1,HL7.out.2⟩
   case measure=>simp[intOf];omega
  .obtain rfl:c=n:=by omega
   have KR:H (CB 164 #[V g c cc] wr (Ah #[rt,(lvB c L)])):=by
    have:=jKy g c cc L wr (jI.at KO.1) (by omega) (fun i _=>by have:=g0.out i;unfold Au;omega)
    rw[q0.out] at this;exact this
   generalize lvB c L=okr at KR;go_wp2_with fail
   refine Ax KR.out ?_;rintro e w3 ⟨rfl,n0⟩;obtain⟨w4,k0⟩:=nmH (w3.alloc (J #[] 29));have u0:=bl1 k0;have f1:=hd ((jI.at KO.1).below n0);have e1:=hd ((KH.below KO.2).below n0);have s0:=hd (jA KO.2 n0);have KB34:=hd u0;have KP4:H (jCi w4 w3 (Q w3 0 I) 0 0 (fun _=>I) (fun _=>0) P):=by
    rw[k0.out];exact⟨Cc w3 #[] 0 (Ay _) (by unfold Au;omega) rfl,fun i hi=>Bo hi (Bk _),fun i j x y _ hj=>Bo hj (Bk _),fun i x y hi=>Bo hi (Bk _)⟩
   go_wp2_with fail
   rw[<-k0.out];go_loopw [11,12] (fun v vi wr=>∃ q g2 d0:Nat,q<=c/\vi=Ao Ar (q:Int)/\v=V g2 q d0/\(∃ A C,jCi wr w3 g2 q d0 A C P)/\Ab w3 w3 wr) (fun _ vi _=>c-(intOf vi).toNat)
   case atStart=>exact⟨0,_,0,Bi _,rfl,rfl,⟨_,_,KP4⟩,KB34⟩
   case round=>
    obtain⟨q,g2,d0,hq,rfl,rfl,⟨A,C,z0⟩,v0⟩:=hrel;have b0:H (jCi wr w3 g2 q d0 A C P/\Ab w3 w3 wr):=⟨z0,v0⟩;have q1:=A0 z0.1 g2 rfl;by_cases hlt2:q<c
    .have t1:(q:Int)<(c:Int):=by omega
     have m0:H (Ak prog 165 #[V g c cc,(q:Int)] wr fun e w'=>∃ v,e=Ae (Ah #[v,(pfB c L (q:Int))])/\jCk wr w' v (P q).m (P q).S/\Ab wr.1.size wr w'):=by
      rw[e0.out];exact jHz g c cc L (q:Int) wr (f1.below b0.2) (by omega) (fun i _=>by have:=g0.out i;unfold Au;omega)
     generalize pfB c L (q:Int)=okp at m0;obtain⟨mq,h0⟩:=nnH ((P q).m);rw[h0.out] at m0;obtain⟨sc,r0⟩:=nnH (S q);have HS:H ((P q).r=rt/\(P q).k=k/\(P q).n=(c:Int)/\(P q).i=(q:Int)/\(P q).b=sc):=by rw[e0.out,r0.out];exact⟨rfl,rfl,rfl,rfl,rfl⟩
     go_wp2_with fail
     refine Ax m0.out ?_;rintro e w5 ⟨v5,rfl,⟨aP,cP,rfl,O5⟩,f0⟩;obtain⟨b1,c1,rfl,o0⟩:=((e1.below b0.2).below f0) q hlt2;rw[r0.out] at o0;have u1:=f0.size;have i1:=b0.2.size;have g1:=hd O5;have p0:=hd f0;have KX:=hd (b0.1.1.below f0);go_wp2_with (at_builtin;refine Dc _ rfl _ _ 87 rfl w3 29 j0 (Ai #[Ap,(),(),(),Ap,V I 0 0]) 6 80 underlying87 hj j1 k1 m1 rfl (by decide) (V g2 q d0) q _ rfl (Cb KX.out _) ⟨w5.1.size,0,I⟩ 1 1 [rt,k,(c:Int),(q:Int),sc,V aP mq cP] rfl rfl (Cf (cs:=#[Ag rt,Ao Ar k,Ao Ar (c:Int),Ao Ar (q:Int),Ag sc,V aP mq cP]) (t:=29) (fr:=(0,0)) (Co w5 _)) (by simp[Aq]) (by omega) (by unfold Au;omega) (by omega) (by simp;omega) (w5.1.size+1) (by simp) ?_;intro g3 cap3 w7 c0 a0 t0 r1)
     have y0:=a0;have HN:H ((∃ A C,jCi w7 w3 g3 (q+1) cap3 A C P)/\Ab w3 w3 w7):=by
      refine⟨jCi.snoc (aP:=aP) (cP:=cP) b0.1 i1 p0 (by rw[h0.out];exact g1) ?_ y0 ?_,?_⟩
      .rw[h0.out,HS.out.1,HS.out.2.1,HS.out.2.2.1,HS.out.2.2.2.1,HS.out.2.2.2.2];exact c0
      .rcases t0 with e|e
       .exact .inl (by simpa [Value.ownBlock] using e)
       .exact .inr e
      .exact((jA b0.2 p0).alloc (by omega) _).grown y0 (by simp;omega) (fun j hj=>by cases hj;exact q1.1)
     go_roundw
     case rel=>exact⟨q+1,g3,cap3,by omega,by go_num,rfl,HN.out.1,HN.out.2⟩
     case measure=>simp[intOf];omega
    .obtain rfl:q=c:=by omega
     go_wp2
     go_ret
     exact⟨_,rfl,⟨_,_,A,C,rfl,b0.1.base s0.size⟩,jA s0 b0.2⟩
theorem jMy (s:BA) (k n:Int) (w:Ad) (hs:s.size<=1048576):Ak prog 101 #[s,k,n] w fun e w'=>∃ v,e=Ae (Ah #[v,(vJ s k n)])/\jQs w w' v (jIb s k n) (jLp k n.toNat (XY s k.toNat))/\Ab w w w':=by
 have KE:=hd (jE7 s k n w hs);unfold jIb;cases hok:vJ s k n with
 | false=>
  rw[hok] at KE;obtain⟨P,HP⟩:=nnH (jLp k n.toNat (XY s k.toNat));rw[HP.out];go_enter func101,ntmps101
  go_wp2_with fail
  refine Ax KE.out ?_;rintro e w1 ⟨v,rfl,_,b1⟩;have HO:H (jCi (w1.alloc (J #[] 29)) w (Q w1 0 I) 0 0 (fun _=>I) (fun _=>0) P):=⟨Cc w1 #[] 0 b1.size (by unfold Au;omega) rfl,fun i hi=>Bo hi (Bk _),fun i j x y _ hj=>Bo hj (Bk _),fun i x y hi=>Bo hi (Bk _)⟩;go_wp2
  go_ret2
  exact⟨_,rfl,⟨_,_,_,_,rfl,HO⟩,b1.alloc b1.size _⟩
 | true=>
  obtain⟨h1,h2,h3,h4⟩:=JS hok;have hR:jBl s k n=n.toNat:=by unfold jBl;rw[hok];rfl
  have a0:=fun i=>jEj hok i
  rw[hok,hR] at KE;rw[A6 rfl];obtain⟨N,rfl⟩:∃ N:Nat,n=(N:Int):=⟨n.toNat,by omega⟩;rw[Cz] at KE |-;generalize XY s k.toNat=S at KE a0 |-;go_enter func101,ntmps101
  go_wp2_with fail
  refine Ax KE.out ?_;rintro e w1 ⟨v,rfl,⟨aE,cE,rfl,O1⟩,b1⟩;have A1:=jI.at O1;go_wp2_with fail
  refine Ax (jMx k aE N cE S _ A1 (by omega) (fun i _=>by have:=a0 i;omega)) ?_;rintro e w2 ⟨v2,rfl,⟨a2,c2,A2,C2,rfl,O2⟩,b2⟩;have b0:=hd (O2.base b1.size);go_wp2
  go_ret2
  exact⟨_,rfl,⟨_,_,_,_,rfl,b0⟩,jA b1 b2⟩
end Go.Proofs.YtcaejlalnjnifaaGreat
