import Derived.Test.YtcaejlalnjnifaaGreatR21
import Derived.Test.YtcaejlalnjnifaaGreatR22
import Derived.Test.YtcaejlalnjnifaaGreatR20
set_option maxHeartbeats 8000000
set_option maxRecDepth 2000
open Go.Value renaming slice->V,pointer->Af,string->Ag,agg->Ai,int->Ao,oneCell'->Aq
open Option renaming none->I,some->M
open Go.RowKit renaming Hid->H,Below->Ab
open Go.Addr renaming mk->Q
open Go renaming undef->O,World->Ad,Value->Aj,Calls->Ak,maxLen->Au
open Go.Obj renaming cells->J
open Go.Proofs.Tryz renaming prog->Ac
open Go.Ending renaming returned->Ae
open ByteArray renaming empty->Ap
open Go.IntKind renaming i64->Ar
open Bool renaming false->Av,true->Aw
open Go.Proofs.Tryz
open Go.ChangeShapes Go.WideShapes Go.ChangeAt Go.RowKit
namespace Go.Proofs.YtcaejlalnjnifaaGreat
def plN (S:Nat->Sl) (root:BA) (n:Nat):Nat:=match plc S root n with
 | some x=>x
 | none=>n
theorem jBa (id f:Int) (a:OA) (n cap:Nat) (S:Nat->Sl) (a0:BA) (w:Ad) (h:Rd w (qH n S) (V a n cap)) (hn:n<=1048576):CB 49 #[ndV id f (V a n cap),a0] w (Ao Ar (plN S a0 n:Nat)):=by
 obtain⟨A,HA⟩:=nmH w.1.size;obtain⟨w0,d0⟩:=nmH (w.alloc (J #[id,f,V a n cap] 26));have RA:=jZ d0 HA;have e0:=bl1 d0;have f0:=hd e0;have KH:=hd (h.below e0);have x2:=RA.cell 2;simp at x2;go_enter func49,ntmps49
 go_wp2_with fail
 rw[<-d0.out,<-HA.out];go_loopw [5] (fun vi wr=>∃ k:Nat,k<=n/\vi=Ao Ar (k:Int)/\H (plF S a0 (n-k) k=plc S a0 n)/\Ab w0 w0 wr) (fun vi _=>n-(intOf vi).toNat)
 case atStart=>exact⟨0,Bi _,rfl,rfl,Az _ _⟩
 case round=>
  obtain⟨k,hk,rfl,HP,b0⟩:=hrel;replace x2:=(b0.cell (p:=Q A 2 I) RA.lt).trans x2
  have KBr:H (Ab w w wr/\Ab w0 w0 wr):=⟨jA f0 b0,b0⟩;by_cases hlt:k<n
  .have g0:(k:Int)<(n:Int):=by omega
   obtain⟨b1,f1,p6,h0,i0,q6,j0,k0,rfl,R1,_,_,_⟩:=QG (KH.below b0) hlt;have v0:wr.cell? (Q b1 (f1+k*13) I)=M (Ag (S k).r):=by
    have:=R1 0 (Ag (S k).r) rfl
    simpa using this
   have e2:n-k=(n-(k+1))+1:=by omega
   have c0:=HP.out;rw[e2] at c0;unfold plF at c0;by_cases hr:(S k).r=a0
   .rw[A6 hr] at c0;have HI:H (plN S a0 n=k):=by show _=_;unfold plN;rw[<-c0]
    rw[hr] at v0;have hb:=vD a0;go_wp2
    go_ret
    exact⟨jS (by rw[HI.out]),KBr.1⟩
   .rw[A5 hr] at c0;have HP2:=hd c0;have hb:=jEl hr;go_wp2
    go_roundw
    case rel=>exact⟨k+1,by omega,by go_num,HP2,KBr.out.2⟩
    case measure=>simp[intOf];omega
  .obtain rfl:k=n:=by omega
   have HI:H (plN S a0 k=k):=by
    have:=HP.out
    rw[Nat.sub_self] at this;show _=_;unfold plN;rw[<-this];rfl
   go_wp2
   go_ret
   exact⟨jS (by rw[HI.out]),KBr.1⟩
def HO3 (F6 F11 F12:Nat->Prop) (q x:Nat):Prop:=(q=6/\F6 x)\/(q=11/\F11 x)\/(q=12/\F12 x)
theorem jGj {w:Ad} {B:Nat} {s:Sl} {v6 c0 d0:Aj} {F6 a0 b0:Nat->Prop} (h:SlO w B s v6 c0 d0 F6 a0 b0) (q:Nat) (hq:q<13):Ow w B (slD s q) ((slC s v6 c0 d0).toList.getD q O) (HO3 F6 a0 b0 q):=by
 match q,hq with
 | 0,_|1,_|2,_|3,_|4,_|5,_|7,_|8,_|9,_|10,_=>rfl
 | 6,_=>exact Ow.mono h.t fun g hg=>.inl ⟨rfl,hg⟩
 | 11,_=>exact Ow.mono h.e fun g hg=>.inr (.inl ⟨rfl,hg⟩)
 | 12,_=>exact Ow.mono h.z fun g hg=>.inr (.inr ⟨rfl,hg⟩)
theorem ZT (id f:Int) (a:OA) (n cap:Nat) (S:Nat->Sl) (w:Ad) (h:Rd w (qH n S) (V a n cap)) (hn:n<=1048576) (hs:∀ i,i<n->SlK (S i)):Ak prog 45 #[ndV id f (V a n cap)] w fun e w'=>∃ g,e=Ae (ndV id f (V (Q g 0 I) n n))/\Ow w' w (qH n S) (V (Q g 0 I) n n) (rng w w'.1.size)/\Ab w w w':=by
 obtain⟨i0,hi,x1,y1,z1⟩:=Cg Tryz.infoSlZ;obtain⟨A,HA⟩:=nmH w.1.size;obtain⟨D,HD⟩:=nmH (w.1.size+1);obtain⟨w0,h0⟩:=nmH ((w.alloc (J #[id,f,V a n cap] 26)).alloc (J #[(),(),V I 0 0] 26));have RA:=xS h0 HA;have RD:=zR h0 HD;have y0:=bl2 h0;have i1:=hd y0;have HL:H (A≠D/\w.1.size<=A/\w.1.size<=D/\A<w0/\D<w0):=⟨by have:=HA.out;have:=HD.out;omega,by have:=HA.out;omega,by have:=HD.out;omega,RA.out.lt,RD.out.lt⟩;have KH:=hd (h.below y0);have HS:H (∀ i,i<n->SlK (S i)):=hs;obtain⟨g,HG⟩:=nmH w0.1.size;have x2:=RA.cell 2;simp at x2;clear h y0 hs;go_enter func45,ntmps45
 go_wp2_with (at_make;rw[<-h0.out,<-HD.out,<-HA.out];refine Cv _ rfl _ _ 24 rfl w0 42 i0 (Ai zcS.toArray) 13 underlying24 hi x1 y1 Ar Ar _ _ n rfl rfl rfl rfl (by rw[z1];omega) (by unfold Au;omega) (Ay _) ?_;intro w1 d0 g0;have hb1:Ab w0 w0 w1:=(Az _ _).grown g0 (Ay _) (by simp);have y2:=(hb1.cell (p:=Q A 2 I) RA.lt).trans x2)
 have n1:Ow w1 w0 (.lst 42 13 n (fun i=>if i<0 then slD (S i) else slD slZ)) (V (Q g 0 I) n n) (rng w0 w1.1.size):=by
  have e:(madeCells (Ai zcS.toArray).cells (n*13)).toList=cL 13 (fun _ q=>zcS.getD q O) n:=xH (zs:=zcS) (by simp[zcS]);rw[e] at d0;rw[HG.out];have:=JZ (F:=rng w0 w1.1.size) d0 (fun q hq=>jOr w1 w0 q hq) ⟨Ay _,(A0 d0 _ rfl).2⟩
  exact this.congr (fun i q _ _=>by simp)
 rw[<-HG.out];have KO1:=hd n1;have u1:H (w0.1.size<=g):=by show _<=_;rw[HG.out];exact Ay _
 clear d0 g0 n1;go_loopw [13] (fun vi wr=>∃ k:Nat,k<=n/\vi=Ao Ar (k:Int)/\H (Ow wr w0 (.lst 42 13 n (fun i=>if i<k then slD (S i) else slD slZ)) (V (Q g 0 I) n n) (rng w0 wr.1.size))/\Ab w0 w0 wr) (fun vi _=>n-(intOf vi).toNat)
 case atStart=>exact⟨0,Bi _,rfl,KO1,hb1⟩
 case round=>
  obtain⟨k,hk,rfl,HO,a0⟩:=hrel;clear KO1 hb1 y2 x2;by_cases hlt:k<n
  .have k2:(k:Int)<(n:Int):=by omega
   obtain⟨b1,f1,p6,m0,n0,q6,o0,p0,rfl,j1,t6,q1,r1⟩:=QG (KH.below a0) hlt;have R1:=hd j1;obtain⟨B2,g1⟩:=nmH wr.1.size;obtain⟨w2,q0⟩:=nmH (wr.alloc (J (slC (S k) (V p6 (S k).p.m q6) (V m0 (S k).ze.length o0) (V n0 (S k).zr.length p0)) 42));have b2:=bl1 q0;have R2:=jZ q0 g1;have KC:H _:=jEp (S k) p6 m0 n0 q6 o0 p0 w2 (t6.below b2) (q1.below b2) (r1.below b2) (HS k hlt);have f0:H (Ow w2 w0 (.lst 42 13 n (fun i=>if i<k then slD (S i) else slD slZ)) (V (Q g 0 I) n n) (rng w0 wr.1.size)/\Ab w0 w0 w2/\wr.1.size<=w2.1.size):=⟨HO.below b2,jA a0 b2,b2.size⟩;clear j1 t6 q1 r1 b2 a0 HO;go_wp2_with (first|(refine Bv rfl 42 _ rfl b1 (f1+k*13) rfl (slL (S k) (V p6 (S k).p.m q6) (V m0 (S k).ze.length o0) (V n0 (S k).zr.length p0)) _ ?_ C5 rfl Tryz.infoSl ?_;exact R1)|(rw[<-q0.out,<-g1.out];refine Bb rfl 42 _ rfl B2 rfl 42 (slC (S k) (V p6 (S k).p.m q6) (V m0 (S k).ze.length o0) (V n0 (S k).zr.length p0)) (0,0) _ ?_ C5 rfl Tryz.infoSl ?_;exact R2))
   refine Ax KC.out ?_;rintro e w3 ⟨g6,t0,u0,v0,x0,j2,a2,g2,rfl,c0,b3⟩;obtain⟨F6,s1,t1,SO,SC⟩:∃ H6 a1 c1,SlO w3 w2 (S k) (V g6 (S k).p.m (S k).p.m) (V t0 (S k).ze.length v0) (V u0 (S k).zr.length x0) H6 a1 c1/\∀ g,H6 g\/a1 g\/c1 g->w2.1.size<=g/\g<w3.1.size:=⟨_,_,_,⟨c0.t.cut,c0.e.cut,c0.z.cut,fun g h1 h2=>c0.d1 g h1.1 h2.1,fun g h1 h2=>c0.d2 g h1.1 h2.1,fun g h1 h2=>c0.d3 g h1.1 h2.1⟩,fun g hg=>by rcases hg with hg|hg|hg <;> exact hg.2⟩;have O3:=f0.1.below b3;have TH:H (w3.there g (k*13) 13):=by
    obtain⟨a',i2,c',G',e',m1,_⟩:=O3;cases e';intro j hj;refine⟨?_,B0 m1 _⟩;rw[Br m1 _ (qM hlt hj),jU _ _ _ _ _ hlt hj];rfl
   have k0:=f0.2.1.size;have o1:=f0.2.2;have p1:=b3.size;have z0:∀ q x,HO3 F6 s1 t1 q x->w2.1.size<=x/\x<w3.1.size:=fun q x hx=>by
    rcases hx with ⟨_,hx⟩|⟨_,hx⟩|⟨_,hx⟩
    .exact SC x (.inl hx)
    .exact SC x (.inr (.inl hx))
    .exact SC x (.inr (.inr hx))
   obtain⟨w4,s0⟩:=nmH (w3.setCells g (k*13) (slC (S k) (V g6 (S k).p.m (S k).p.m) (V t0 (S k).ze.length v0) (V u0 (S k).zr.length x0)).toList);have HO4:H (Ow w4 w0 (.lst 42 13 n (fun i=>if i<k+1 then slD (S i) else slD slZ)) (V (Q g 0 I) n n) (rng w0 w4.1.size)):=by
    rw[s0.out];show Ow _ _ _ _ _;rw[jQ];refine Ow.congr (Ow.store (d:=slD (S k)) O3 hlt rfl (fun q hq=>jGj (B:=w0.1.size) ⟨SO.t.base k0,SO.e.base k0,SO.z.base k0,SO.d1,SO.d2,SO.d3⟩ q hq) ?_ ?_ ?_ ?_) ?_
    .intro q x _ hx hf;have h2:=hf.2;have h3:=(z0 q x hx).1;omega
    .intro q q' x _ _ hx b0;rcases hx with ⟨e1,hx⟩|⟨e1,hx⟩|⟨e1,hx⟩ <;> rcases b0 with ⟨e2,b0⟩|⟨e2,b0⟩|⟨e2,b0⟩
     .omega
     .exact Bo b0 (SO.d1 x hx)
     .exact Bo b0 (SO.d2 x hx)
     .exact Bo hx (SO.d1 x b0)
     .omega
     .exact Bo b0 (SO.d3 x hx)
     .exact Bo hx (SO.d2 x b0)
     .exact Bo hx (SO.d3 x b0)
     .omega
    .intro x hx;exact⟨hx.1,by have:=hx.2;omega⟩
    .intro q x _ hx;have h3:=z0 q x hx;exact⟨by omega,h3.2⟩
    .intro i q _ _;by_cases e:i=k
     .subst e;simp
     .by_cases e2:i<k
      .simp[e,e2,show i<k+1 by omega]
      .simp[e,e2,show ¬ i<k+1 by omega]
   have KB4:H (Ab w0 w0 w4):=by show Ab _ _ _;rw[s0.out];exact jR (jA f0.2.1 b3) u1 _ _
   clear O3 b3 SO c0 SC z0 k0 o1 p1 KC R1 R2 f0;go_wp2_with (refine C7 rfl 42 _ _ rfl g (k*13) (slC (S k) (V g6 (S k).p.m (S k).p.m) (V t0 (S k).ze.length v0) (V u0 (S k).zr.length x0)) rfl rfl ?_ Tryz.infoSl (by simp[Aq]) ?_;exact TH;rw[<-s0.out])
   go_roundw
   case rel=>exact⟨k+1,by omega,by go_num,HO4,KB4.out⟩
   case measure=>simp[intOf];omega
  .obtain rfl:k=n:=by omega
   have j0:=RA.below a0 RA.lt;have k1:=RD.below a0 RD.lt;have y2:=j0.cell 2;have f2:=j0.free 2;simp at y2;obtain⟨w3,r0⟩:=nmH (wr.setCell (Q A 2 I) (V (Q g 0 I) k k));have J3:H (Row w3 A 26 #[id,f,V (Q g 0 I) k k]/\Row w3 D 26 #[(),(),V I 0 0]/\Ow w3 w0 (qH k S) (V (Q g 0 I) k k) (rng w0 wr.1.size)/\Ab w w w3):=by
    rw[r0.out];refine⟨j0.set 2 _,k1.other 2 _ (Cj HL.1),?_,(jA i1 a0).setCell HL.2.1 _⟩;have:Ow wr w0 (qH k S) (V (Q g 0 I) k k) (rng w0 wr.1.size):=HO.congr (fun i q hi _=>by simp[hi])
    exact this.far 2 _ (fun hk=>by have:=hk.1;have:=HL.2.2.2.1;omega)
   have S3:w3.1.size=wr.1.size:=by rw[r0.out];simp
   obtain⟨w7,e0⟩:=nmH (w3.setRow D #[id,f,V (Q g 0 I) k k]);have S7:w7.1.size=w3.1.size:=by rw[e0.out];simp[World.setRow]
   have ZR:H (Row w7 D 26 #[id,f,V (Q g 0 I) k k]):=by show Row _ _ _ _;rw[e0.out];exact J3.2.1.row
   have ZB:H (Ab w w w7):=by show Ab _ _ _;rw[e0.out];exact jF J3.2.2.2 HL.2.2.1 _
   have ZO:H (Ow w7 w (qH k S) (V (Q g 0 I) k k) (rng w w7.1.size)):=by
    show Ow _ _ _ _ _;rw[S7,S3];have v1:=i1.size;have h1:Ow w7 w0 (qH k S) (V (Q g 0 I) k k) (rng w0 wr.1.size):=by
     rw[e0.out];exact J3.2.2.1.frame fun x hx _=>Cd _ _ _ _ (fun e=>by have:=hx.1;have:=HL.2.2.2.2;omega)
    exact(h1.base v1).mono (fun x hx=>⟨by have:=hx.1;omega,hx.2⟩)
   clear j0 k1 a0 S3 S7;go_wp2_with (first|(rw[<-r0.out];refine Bb rfl 26 _ rfl A rfl 26 #[id,f,V (M ⟨g,0,I⟩) k k] (0,0) _ ?_ Ch rfl Tryz.infoNd ?_;exact J3.1;clear y2 f2)|(refine Bw rfl 26 _ _ rfl D #[id,f,V (M ⟨g,0,I⟩) k k] rfl rfl 26 #[(),(),V I 0 0] ?_ Tryz.infoNd rfl (by simp[Aq]) ?_;exact J3.2.1;rw[<-e0.out]))
   exact B7 (v:=ndV id f (V (Q g 0 I) k k)) (Ck results45 _ _ D 26 _ (0,0) _ rfl ZR Ch rfl Tryz.infoNd) rfl ⟨g,rfl,ZO,ZB⟩
def jHd (id f:Int) (n:Nat) (S:Nat->Sl) (y:Sy):Prop:=y.t=id/\(y.f = -1\/(0<=y.f/\y.f<3*f+1))/\(0<=y.k/\y.k<=2)/\y.r.size=16/\(n<40\/0<=plX S y.r n)
noncomputable def vL (id f:Int) (n:Nat) (S:Nat->Sl) (y:Sy):Bool:=@decide (jHd id f n S y) (Classical.propDecidable _)
theorem QQ {id f:Int} {n:Nat} {S:Nat->Sl} {y:Sy} (h:jHd id f n S y):vL id f n S y=Aw:=by unfold vL;exact @Bf _ (Classical.propDecidable _) h
theorem vG {id f:Int} {n:Nat} {S:Nat->Sl} {y:Sy} (h:¬ jHd id f n S y):vL id f n S y=Av:=by unfold vL;exact @Bg _ (Classical.propDecidable _) h
theorem jDh (id f:Int) (a:OA) (n cap:Nat) (S:Nat->Sl) (y:Sy) (a9:OA) (m9 c9:Nat) (w:Ad) (h:Rd w (qH n S) (V a n cap)) (hn:n<=1048576) (hf:1<=f/\f<=3):CB 46 #[ndV id f (V a n cap),syV y (V a9 m9 c9)] w (vL id f n S y):=by
 obtain⟨A,HA⟩:=nmH w.1.size;obtain⟨w0,b0⟩:=nmH ((w.alloc (J #[id,f,V a n cap] 26)).alloc (J (syC y (V a9 m9 c9)) 31));obtain⟨C,HC⟩:=nmH (w.1.size+1);have RA:=xS b0 HA;have RC:=zR b0 HC;have n0:=bl2 b0;have h0:H (Ab w w w0):=n0;have KK:H (∀ W,CB 107 #[ndV id f (V a n cap),y.f] W (decide (0<=y.f/\y.f<3*f+1))):=fun W=>jAd id f y.f _ W hf
 have KP:H (∀ W,Ab w0 w0 W->CB 58 #[ndV id f (V a n cap),y.r] W (plX S y.r n)):=fun W hW=>QA id f a n cap S y.r W ((h.below n0).below hW) hn
 clear h n0;by_cases h1:y.t=id
 case neg=>
  have HR:H (vL id f n S y=Av):=vG (fun k=>h1 k.1);have o0:(y.t !=id)=Aw:=by simpa using h1
  have x0:=RA.cell 0;have x2:=RC.cell 2;simp at x0 x2;go_enter Gg,F5
  go_wp2_with fail
  rw[<-b0.out];go_ret
  exact⟨by rw[HR.out];rfl,h0⟩
 obtain⟨kb,j0⟩:=nnH (decide (0<=y.f/\y.f<3*f+1));rw[j0.out] at KK;have o0:(y.t !=id)=Av:=by simpa using h1
 obtain⟨c0,c1,c2⟩:=RA.c3 0 1 2;obtain⟨d1,d2⟩:=RC.c2 1 2;simp at c0 c1 c2 d1 d2;have H1:H (y.t=id):=h1;by_cases h2:y.f = -1
 .have p0:(y.f !=-1)=Av:=by simpa using h2
  have HQ:H (y.f = -1\/(0<=y.f/\y.f<3*f+1)):=.inl h2;have KX:H (Ab w0 w0 w0):=Az _ _;clear h2;have e0:=RA.below KX RA.lt;have g0:=RC.below KX RC.lt;have x2:=e0.cell 2;obtain⟨q0,q3⟩:=g0.c2 0 3;obtain⟨r0,r1⟩:=e0.c2 0 1;simp at x2 q0 q3 r0 r1;have a0:H (Ab w w w0):=jA h0 KX;clear e0 g0;by_cases h3:y.k<0
  case pos=>
   have HR:H (vL id f n S y=Av):=vG (fun k=>by have:=k.2.2.1;omega);go_enter Gg,F5
   go_upto_region 1 with fail
   rw[<-b0.out,<-HC.out,<-HA.out];go_wp2
   go_ret
   exact⟨by rw[HR.out];rfl,a0⟩
  by_cases h4:y.k>2
  case pos=>
   have HR:H (vL id f n S y=Av):=vG (fun k=>by have:=k.2.2.1;omega);go_enter Gg,F5
   go_upto_region 1 with fail
   rw[<-b0.out,<-HC.out,<-HA.out];go_wp2
   go_ret
   exact⟨by rw[HR.out];rfl,a0⟩
  by_cases h5:y.r.size=16
  case neg=>
   have HR:H (vL id f n S y=Av):=vG (fun k=>h5 k.2.2.2.1);have k0:((y.r.size:Int) !=16)=Aw:=by simp;omega
   go_enter Gg,F5
   go_upto_region 1 with fail
   rw[<-b0.out,<-HC.out,<-HA.out];go_wp2
   go_ret
   exact⟨by rw[HR.out];rfl,a0⟩
  have k0:((y.r.size:Int) !=16)=Av:=by simp;omega
  have H5:H (y.r.size=16):=h5;by_cases h6:n<40
  case pos=>
   have HR:H (vL id f n S y=Aw):=QQ ⟨h1,HQ,⟨by omega,by omega⟩,h5,.inl h6⟩;have m0:(n:Int)<40:=by omega
   clear h5 h6;go_enter Gg,F5
   go_upto_region 1 with fail
   rw[<-b0.out,<-HC.out,<-HA.out];go_wp2
   go_ret
   exact⟨by rw[HR.out];rfl,a0⟩
  have m0:¬ ((n:Int)<40):=by omega
  have f0:H _:=KP w0 KX;obtain⟨px,d0⟩:=nnH (plX S y.r n);rw[d0.out] at f0;have HR:H (vL id f n S y=decide (px≥0)):=by
   show _=_;by_cases h7:px≥0
   .rw[QQ ⟨h1,HQ.out,⟨by omega,by omega⟩,h5,.inr (by rw[d0.out];exact h7)⟩,Bf h7]
   .rw[vG (fun k=>by rcases k.2.2.2.2 with k|k;exact h6 k;rw[d0.out] at k;exact h7 k),Bg h7]
  clear h5 h6;go_enter Gg,F5
  go_upto_region 1 with fail
  rw[<-b0.out,<-HC.out,<-HA.out];go_wp2_with fail
  refine CM f0.out fun wp bp=>?_
  have i0:H (Ab w w wp):=jA a0 bp;clear bp;go_wp2
  go_ret
  exact⟨by rw[HR.out];first|rfl|(show Ending.returned (Value.bool (decide ((n:Int)<40) || decide (0<=px)))=_;rw[Bg (by omega)];rfl),i0.out⟩
 .have p0:(y.f !=-1)=Aw:=by simpa using h2
  cases kb with
  | false=>
   have HR:H (vL id f n S y=Av):=vG (fun k=>by
    rcases k.2.1 with k|k
    .exact h2 k
    .exact Ga j0 k)
   clear h2;go_enter Gg,F5
   go_wp2_with fail
   rw[<-b0.out];refine CM (KK _) fun w1 b1=>?_
   go_wp2
   go_ret
   exact⟨by rw[HR.out];rfl,jA h0 b1⟩
  | true=>
   have HQ:H (y.f = -1\/(0<=y.f/\y.f<3*f+1)):=.inr (Dn j0);clear h2;go_enter Gg,F5
   go_wp2_with fail
   rw[<-b0.out,<-HC.out,<-HA.out];refine CM (KK _) fun w1 b1=>?_
   have KX:H (Ab w0 w0 w1):=b1;clear b1 c0 c1 c2 d1 d2;have e0:=RA.below KX RA.lt;have g0:=RC.below KX RC.lt;have x2:=e0.cell 2;obtain⟨q0,q3⟩:=g0.c2 0 3;obtain⟨r0,r1⟩:=e0.c2 0 1;simp at x2 q0 q3 r0 r1;have a0:H (Ab w w w1):=jA h0 KX;clear e0 g0;by_cases h3:y.k<0
   case pos=>
    have HR:H (vL id f n S y=Av):=vG (fun k=>by have:=k.2.2.1;omega);go_wp2
    go_ret
    exact⟨by rw[HR.out];rfl,a0⟩
   by_cases h4:y.k>2
   case pos=>
    have HR:H (vL id f n S y=Av):=vG (fun k=>by have:=k.2.2.1;omega);go_wp2
    go_ret
    exact⟨by rw[HR.out];rfl,a0⟩
   by_cases h5:y.r.size=16
   case neg=>
    have HR:H (vL id f n S y=Av):=vG (fun k=>h5 k.2.2.2.1);have k0:((y.r.size:Int) !=16)=Aw:=by simp;omega
    go_wp2
    go_ret
    exact⟨by rw[HR.out];rfl,a0⟩
   have k0:((y.r.size:Int) !=16)=Av:=by simp;omega
   have H5:H (y.r.size=16):=h5;by_cases h6:n<40
   case pos=>
    have HR:H (vL id f n S y=Aw):=QQ ⟨h1,HQ,⟨by omega,by omega⟩,h5,.inl h6⟩;have m0:(n:Int)<40:=by omega
    clear h5 h6;go_wp2
    go_ret
    exact⟨by rw[HR.out];rfl,a0⟩
   have m0:¬ ((n:Int)<40):=by omega
   have f0:H _:=KP w1 KX;obtain⟨px,d0⟩:=nnH (plX S y.r n);rw[d0.out] at f0;have HR:H (vL id f n S y=decide (px≥0)):=by
    show _=_;by_cases h7:px≥0
    .rw[QQ ⟨h1,HQ.out,⟨by omega,by omega⟩,h5,.inr (by rw[d0.out];exact h7)⟩,Bf h7]
    .rw[vG (fun k=>by rcases k.2.2.2.2 with k|k;exact h6 k;rw[d0.out] at k;exact h7 k),Bg h7]
   clear h5 h6;go_wp2_with fail
   refine CM f0.out fun wp bp=>?_
   have i0:H (Ab w w wp):=jA a0 bp;clear bp;go_wp2
   go_ret
   exact⟨by rw[HR.out];first|rfl|(show Ending.returned (Value.bool (decide ((n:Int)<40) || decide (0<=px)))=_;rw[Bg (by omega)];rfl),i0.out⟩
def slR (r:BA):Sl:=⟨r,⟨Ap,0,0,0,Ap,0,fun _=>Ap⟩,Av,Av,Av,Av,[],[]⟩
abbrev jCb (r:BA):Array Aj:=#[Ag r,Ag ⟨#[]⟩,Ao Ar 0,Ao Ar 0,Ao Ar 0,Ag ⟨#[]⟩,V I 0 0,.bool Av,.bool Av,.bool Av,.bool Av,V I 0 0,V I 0 0]
def hrN (S:Nat->Sl) (r:BA) (n:Nat):Nat:=if (plc S r n).isSome then n else n+1
def slF (S:Nat->Sl) (r:BA) (n i:Nat):Sl:=if i=n then slR r else S i
theorem jOq {W:Ad} {B:Nat} {r:BA} (q:Nat) (hq:q<13):Ow W B (slD (slR r) q) ((jCb r).toList.getD q O) (fun _=>False):=by
 match q,hq with
 | 0,_|1,_|2,_|3,_|4,_|5,_|7,_|8,_|9,_|10,_=>rfl
 | 6,_|11,_|12,_=>exact Ow.nil _ _ _ _ _ _
structure NwT (T:TypeId) (xx:List Aj) (W:Ad) (B Nb:Nat) (id f:Int) (g n cap:Nat) (S:Nat->Sl) (F1:Nat->Prop):Prop where
 r:Row W Nb T (Ao Ar id::Ao Ar f::V (M ⟨g,0,I⟩) n cap::xx).toArray
 o:Ow W B (qH n S) (V (M ⟨g,0,I⟩) n cap) F1
 h1:¬ F1 Nb
 b:B<=Nb/\B<=W.1.size
 l1:∀ x,F1 x->B<=x/\x<W.1.size
theorem NwT.below {T:TypeId} {xx:List Aj} {W W':Ad} {B Nb:Nat} {id f:Int} {g n cap:Nat} {S:Nat->Sl} {F1:Nat->Prop} (h:NwT T xx W B Nb id f g n cap S F1) (hb:Ab W W W'):NwT T xx W' B Nb id f g n cap S F1:=
 ⟨h.r.below hb h.r.lt,h.o.below hb,h.h1,⟨h.b.1,By h.b.2 hb.size⟩,fun x hx=>⟨(h.l1 x hx).1,Bu (h.l1 x hx).2 hb.size⟩⟩
abbrev Nw:=NwT 26 []
theorem Row.three {T:TypeId} {xx:List Aj} {W:Ad} {Nb:Nat} {a b c:Aj} (h:Row W Nb T (a::b::c::xx).toArray) (x:Aj):Row (W.setCell (Q Nb 2 I) x) Nb T (a::b::x::xx).toArray:=by
 have:=h.set 2 x
 simpa using this
theorem Row.mid {T:TypeId} {xx:List Aj} {W:Ad} {Nb:Nat} {a b c:Aj} (h:Row W Nb T (a::b::c::xx).toArray):W.rangeAt Nb 0 [a,b,c]:=fun j v hv=>by
 have h1:=h.cell j;rw[Bt,h1];match j,hv with
 | 0,hv=>simpa using hv
 | 1,hv=>simpa using hv
 | 2,hv=>simpa using hv
 | j+3,hv=>simp at hv
theorem jD8 {S:Nat->Sl} {n:Nat} {r:BA} (i q:Nat) (_hi:i<n+1):(if i=n then slD (slR r) else slD (S i)) q=slD (slF S r n i) q:=by
 unfold slF;by_cases e:i=n
 .rw[A6 e,A6 e]
 .rw[A5 e,A5 e]
theorem jLk {T:TypeId} {xx:List Aj} {e0:Array Oper} {o:Oper} {a:Act} {K:Act->Ad->Prop} {Q:Exit->Act->Ad->Prop} {E:Prop} (w7:Ad) (a0:o.guard=I) (s x:Operand)
  (ho:o.op=.call {callee:=.builtin .append,args:=#[s,x],argTypes:=#[24,24]})
  (id f:Int) (B Nb g n cap:Nat) (S:Nat->Sl) (r:ByteArray) (F1:Nat->Prop)
  (hs:a.eval s=V (M ⟨g,0,I⟩) n cap) (hx:a.eval x=V (M ⟨w7.1.size,0,I⟩) 1 1)
  (h7:NwT T xx (w7.alloc (J (jCb r) 42)) B Nb id f g n cap S F1) (hm:n<=2000000)
  (h:∀ g8 c8 w8 F8,Row w8 Nb T (Ao Ar id::Ao Ar f::V (M ⟨g,0,I⟩) n cap::xx).toArray/\NwT T xx (w8.setCell ⟨Nb,2,I⟩ (V (M ⟨g8,0,I⟩) (n+1) c8)) B Nb id f g8 (n+1) c8 (slF S r n) F8/\Trn (w7.alloc (J (jCb r) 42)) (w8.setCell ⟨Nb,2,I⟩ (V (M ⟨g8,0,I⟩) (n+1) c8)) (fun x=>x=Nb\/F1 x)/\(∀ x,F8 x->F1 x\/w7.1.size<x)->K (a.put o.dst (V (M ⟨g8,0,I⟩) (n+1) c8)) w8) :
  if Region.wanted o (yielded e0 a.tmps)=Aw then Oper.wp Ac o a (w7.alloc (J (jCb r) 42)) K Q else E:=by
 obtain⟨i0,hi,b0,c0,d0⟩:=Cg Tryz.infoSlZ;refine jD9 _ a0 s x 24 ho B 42 i0 (Ai zcS.toArray) 13 _ Tryz.underlying24 hi b0 c0 d0 rfl (by decide) (V (M ⟨g,0,I⟩) n cap) n _ F1 hs h7.o ⟨w7.1.size,0,I⟩ 1 (jCb r).toList hx rfl (Cf (t:=42) (fr:=(0,0)) (Row.new w7 _ _)) (by simp[Aq]) (slD (slR r)) (fun _ _=>False) (fun q hq=>jOq q hq) (fun _ _ _ h=>h.elim) (fun _ _ _ _ _ h=>h.elim) (by unfold Au;omega) (by omega) h7.b.2 fun g8 c8 w8 O8 b8 T8=>?_
 have e:(w7.alloc (J (jCb r) 42)).1.size=w7.1.size+1:=by simp
 have O9:Ow w8 B (qH (n+1) (slF S r n)) (V (M ⟨g8,0,I⟩) (n+1) c8) (fun x=>x<w8.1.size/\(F1 x\/w7.1.size<x)):=(O8.mono (fun x hx=>⟨hx.1,by
  rcases hx.2 with (h|⟨_,_,h⟩)|h
  .exact .inl h
  .exact h.elim
  .rw[e] at h;exact .inr h⟩)).congr (fun i q hi _=>jD8 i q hi)
 have hr:Row w8 Nb T (Ao Ar id::Ao Ar f::V (M ⟨g,0,I⟩) n cap::xx).toArray:=(T8.block Nb h7.r.lt h7.h1).trans h7.r;have h8:¬ (Nb<w8.1.size/\(F1 Nb\/w7.1.size<Nb)):=fun k=>by
  rcases k.2 with k|k
  .exact h7.h1 k
  .have:=h7.r.lt;omega
 exact h g8 c8 w8 _ ⟨hr,⟨hr.three _,O9.far 2 _ h8,h8,⟨h7.b.1,by simpa using By h7.b.2 T8.size⟩,fun x k=>⟨by rcases k.2 with k|k;exact(h7.l1 x k).1;have:=h7.b.2;omega,by simpa using k.1⟩⟩,(T8.mono (fun _ k=>.inr k)).trans (Trn.set _ 2 _ (.inl rfl)),fun x hx=>hx.2⟩
theorem jFk {T:TypeId} {xx:List Aj} (id f:Int) (B Nb g n cap:Nat) (S:Nat->Sl) (r:BA) (F1:Nat->Prop) (w:Ad) (h:NwT T xx w B Nb id f g n cap S F1) (hn:n<=1048576) (hr:r.size<=1048576):Ak prog 111 #[Af Nb,r] w fun e w'=>∃ g' d0 b0,e=Ae (Af (Q g' (plN S r n*13) I))/\NwT T xx w' B Nb id f g' (hrN S r n) d0 (slF S r n) b0/\Trn w w' (fun x=>x=Nb\/F1 x)/\∀ x,b0 x->F1 x\/w.1.size<=x:=by
 have KH:=hd h;have KP:H _:=QA id f g n cap S r w h.o.rd hn;have KC:H (∀ W,CB 120 #[r] W r):=fun W=>qO r W hr
 have RN:H _:=h.r.mid;cases hp:plc S r n with
 | some x=>
  have ex:H (plX S r n=(x:Int)/\plN S r n=x/\hrN S r n=n):=⟨by unfold plX;rw[hp],by unfold plN;rw[hp],by unfold hrN;rw[hp];rfl⟩;obtain⟨_,hx,_,_⟩:=xC hp;have k0:x<n:=by omega
  have j0:(x:Int)<(n:Int):=by omega
  rw[ex.out.1] at KP;rw[ex.out.2.1,ex.out.2.2];have nx:¬ ((x:Int)<0):=by omega
  clear h hp hx;go_enter func111,ntmps111
  go_wp2_with (refine Bv rfl 26 _ rfl Nb 0 rfl [id,f,V g n cap] _ ?_ Ch rfl Tryz.infoNd ?_;exact RN)
  refine CM KP.out fun w1 b1=>?_
  have K1:=hd (KH.below b1);have y2:=K1.r.cell 2;simp at y2;have KZ:H (NwT T xx w1 B Nb id f g n cap (slF S r n) F1/\Trn w w1 (fun x=>x=Nb\/F1 x)/\∀ x,F1 x->F1 x\/w.1.size<=x):=⟨⟨K1.r,K1.o.congr (fun i q hi _=>by show _=slD (slF S r n i) q;unfold slF;rw[A5 (by omega)]),K1.out.h1,K1.out.b,K1.out.l1⟩,Trn.ofBelow _ b1,fun _ h=>.inl h⟩;clear b1;go_wp2
  go_ret
  exact⟨g,cap,F1,rfl,KZ⟩
 | none=>
  have ex:H (plX S r n = -1/\plN S r n=n/\hrN S r n=n+1):=⟨by unfold plX;rw[hp],by unfold plN;rw[hp],by unfold hrN;rw[hp];rfl⟩;rw[ex.out.1] at KP;rw[ex.out.2.1,ex.out.2.2];clear h hp;go_enter func111,ntmps111
  go_wp2_with (refine Bv rfl 26 _ rfl Nb 0 rfl [id,f,V g n cap] _ ?_ Ch rfl Tryz.infoNd ?_;exact RN)
  refine CM KP.out fun w1 b1=>?_
  have K1:H (NwT T xx w1 B Nb id f g n cap S F1/\Ab w w w1):=⟨KH.below b1,b1⟩;have y2:=K1.1.r.cell 2;have f2:=K1.1.r.free 2;simp at y2;clear b1;have e0:H (∀ w7,Ab w1.1.size w1 w7->NwT T xx (w7.alloc (J (jCb r) 42)) B Nb id f g n cap S F1/\Ab w1.1.size w1 (w7.alloc (J (jCb r) 42))/\Nb<w7.1.size/\w7.cell? (Q Nb 2 I)=M (V g n cap)):=fun w7 b7=>by
   have b8:Ab w7.1.size w7 (w7.alloc (J (jCb r) 42)):=(Az _ _).alloc (Ay _) _;have q2:=(K1.1.below b7).r.cell 2;simp at q2;exact⟨(K1.1.below b7).below b8,jA b7 b8,(K1.1.below b7).r.lt,q2⟩
  go_upto_region 4 with fail
  go_region_law ((first|(guard_hyp K7;refine jLk (T:=T) (xx:=xx) w7 rfl _ _ rfl id f B Nb g n cap S r F1 rfl rfl ?_ ?_ ?_;exact K7.1;omega;intro g8 c8 w8 F8 a0;have K8:H _:=a0;have z2:=a0.1.cell 2;have zf:=a0.1.free 2;simp at z2;clear a0)|(go_simp;go_wp2_with (go_at_call 120;refine Ax (KC _) ?_;rintro e w7 ⟨rfl,b7'⟩;have b7:=jC b7';clear b7';have K7:H _:=e0.out _ b7;have m0:=K7.2.2.1;have p2:=K7.2.2.2;have q2:=K7.1.r.cell 2;simp at q2))))
  all_goals
   have KR:H (NwT T xx (w8.setCell (Q Nb 2 I) (V g8 (n+1) c8)) B Nb id f g8 (n+1) c8 (slF S r n) F8/\Trn w (w8.setCell (Q Nb 2 I) (V g8 (n+1) c8)) (fun x=>x=Nb\/F1 x)/\∀ x,F8 x->F1 x\/w.1.size<=x):=by
    obtain⟨_,q,t,f0⟩:=K8.out;have h0:=K7.2.1.size;have i0:=K1.2.size;have e:(w7.alloc (J (jCb r) 42)).1.size=w7.1.size+1:=by simp
    refine⟨q,((Trn.ofBelow _ K1.2).trans (Trn.ofBelow _ K7.2.1)).trans t,fun x hx=>?_⟩;rcases f0 x hx with h|h
    .exact .inl h
    .exact .inr (by omega)
   obtain⟨w9,c0⟩:=nmH (w8.setCell (Q Nb 2 I) (V g8 (n+1) c8));rw[<-c0.out] at KR;have y9:=KR.1.r.cell 2;simp at y9;have g0:(n:Int)<((n+1:Nat):Int):=by omega
   clear z2 zf;go_upto_region 5 with fail
   rw[<-c0.out];go_wp2
   go_ret
   exact⟨g8,c8,F8,rfl,KR⟩
theorem jPx {F6 b0 c0:Nat->Prop} (d1:∀ g,F6 g->¬ b0 g) (d2:∀ g,F6 g->¬ c0 g) (d3:∀ g,b0 g->¬ c0 g) (q q' x:Nat) (hx:HO3 F6 b0 c0 q x) (a0:HO3 F6 b0 c0 q' x):q=q':=by
 rcases hx with ⟨e1,hx⟩|⟨e1,hx⟩|⟨e1,hx⟩ <;> rcases a0 with ⟨e2,a0⟩|⟨e2,a0⟩|⟨e2,a0⟩
 .omega
 .exact Bo a0 (d1 x hx)
 .exact Bo a0 (d2 x hx)
 .exact Bo hx (d1 x a0)
 .omega
 .exact Bo a0 (d3 x hx)
 .exact Bo hx (d2 x a0)
 .exact Bo hx (d3 x a0)
 .omega
theorem HO3.any {F6 a0 b0:Nat->Prop} {q x:Nat} (h:HO3 F6 a0 b0 q x):F6 x\/a0 x\/b0 x:=by
 rcases h with ⟨_,h⟩|⟨_,h⟩|⟨_,h⟩
 .exact .inl h
 .exact .inr (.inl h)
 .exact .inr (.inr h)
theorem XM (id f:Int) (a:OA) (n cap:Nat) (S:Nat->Sl) (w:Ad) (h:Rd w (qH n S) (V a n cap)) (hn:n<=1048576) (hs:∀ i,i<n->SlS (S i)):Ak prog 48 #[ndV id f (V a n cap)] w fun e w'=>∃ g c,e=Ae (ndV id f (V (Q g 0 I) n c))/\Ow w' w (qH n S) (V (Q g 0 I) n c) (rng w w'.1.size)/\Ab w w w':=by
 obtain⟨i0,hi,n1,o1,p1⟩:=Cg Tryz.infoSlZ;obtain⟨A,HA⟩:=nmH w.1.size;obtain⟨D,HD⟩:=nmH (w.1.size+1);obtain⟨w0,b0⟩:=nmH ((w.alloc (J #[id,f,V a n cap] 26)).alloc (J #[(),(),V I 0 0] 26));have RA:=xS b0 HA;have RD:=zR b0 HD;have t0:=bl2 b0;have r0:=hd t0;have HL:H (A≠D/\w.1.size<=A/\w.1.size<=D/\A<w0/\D<w0):=⟨by have:=HA.out;have:=HD.out;omega,by have:=HA.out;omega,by have:=HD.out;omega,RA.out.lt,RD.out.lt⟩;have KH:=hd (h.below t0);have HS:H (∀ i,i<n->SlS (S i)):=hs;obtain⟨w1,q0⟩:=nmH (w0.alloc (J #[] 42));have K1:H (Ow w1 w0 (qH 0 S) (V (Q w0 0 I) 0 0) (rng w0 w1.1.size)/\Ab w0 w0 w1):=by
  rw[q0.out];refine⟨⟨_,0,fun _ _=>O,fun _ _ _=>False,rfl,?_,⟨fun x e=>?_,fun _ _ _ hi=>Bo hi (Bk _),fun _ _ _ hi=>Bo hi (Bk _),fun _ _ _ _ _ hi=>Bo hi (Bk _)⟩,fun _ _ hi=>Bo hi (Bk _)⟩,(Az _ _).alloc (Ay _) _⟩
  .have:=Cc (e:=42) (size:=13) (base:=w0.1.size) w0 #[] 0 (by simp) (by unfold Au;omega) (by simp)
   simpa [cL] using this
  .cases e;exact⟨Ay _,by simp⟩
 obtain⟨g1,p0⟩:=nmH (D+1);have j1:D+1=w0.1.size:=by rw[b0.out,HD.out];simp
 have K1':H (Ow w1 w0 (qH 0 S) (V g1 0 0) (rng w0 w1.1.size)/\Ab w0 w0 w1):=by rw[p0.out,j1];exact K1
 go_enter func48,ntmps48
 go_wp2_with fail
 rw[<-b0.out,<-HD.out,<-HA.out,<-q0.out,<-p0.out];go_loopw [3,4] (fun v vi wr=>∃ k g c:Nat,k<=n/\v=V (Q g 0 I) k c/\vi=Ao Ar (k:Int)/\H (Ow wr w0 (qH k S) (V (Q g 0 I) k c) (rng w0 wr.1.size)/\Ab w0 w0 wr)) (fun _ vi _=>n-(intOf vi).toNat)
 case atStart=>exact⟨0,g1,0,Bi _,rfl,rfl,K1'⟩
 case round=>
  obtain⟨k,g,c,hk,rfl,rfl,HO⟩:=hrel;have x2:=(RA.below HO.2 RA.lt).cell 2;simp at x2;by_cases hlt:k<n
  .have v1:(k:Int)<(n:Int):=by omega
   obtain⟨b1,f1,p6,u0,v0,q6,x0,y0,rfl,e1,t6,q1,r1⟩:=QG (KH.below HO.2) hlt;have R1:=hd e1;have KC:H _:=jH7 (S k) p6 u0 v0 q6 x0 y0 wr t6 q1 r1 (HS k hlt);have c1:=hd hlt;go_wp2_with (refine Bv rfl 42 _ rfl b1 (f1+k*13) rfl (slL (S k) (V p6 (S k).p.m q6) (V u0 (S k).ze.length x0) (V v0 (S k).zr.length y0)) _ ?_ C5 rfl Tryz.infoSl ?_;exact R1)
   refine Ax KC.out ?_;rintro e w3 ⟨g6,g0,h0,h6,j0,k0,u1,s1,t1,rfl,a0,b3⟩;obtain⟨F6,z0,a1,SO,SC⟩:∃ H6 n0 o0,SlO w3 wr.1.size (S k) (V g6 (S k).p.m h6) (V g0 (S k).ze.length j0) (V h0 (S k).zr.length k0) H6 n0 o0/\∀ g,H6 g\/n0 g\/o0 g->wr.1.size<=g/\g<w3.1.size:=⟨_,_,_,⟨a0.t.cut,a0.e.cut,a0.z.cut,fun g h1 h2=>a0.d1 g h1.1 h2.1,fun g h1 h2=>a0.d2 g h1.1 h2.1,fun g h1 h2=>a0.d3 g h1.1 h2.1⟩,fun g hg=>by rcases hg with hg|hg|hg <;> exact hg.2⟩;obtain⟨w5,f0⟩:=nmH (w3.alloc (J (slC (S k) (V g6 (S k).p.m h6) (V g0 (S k).ze.length j0) (V h0 (S k).zr.length k0)) 42));have b5:=bl1 f0;have d0:=jA b3 b5;have m0:=HO.2.size;go_wp2_with (at_builtin;rw[<-f0.out];refine(show True->_ from ?_) trivial)
   intro _;refine xL w5 rfl _ _ 24 rfl w0 42 i0 (Ai zcS.toArray) 13 _ underlying24 hi n1 o1 p1 rfl (by decide) (V (M ⟨g,0,I⟩) k c) k _ _ rfl (HO.1.below d0) ⟨w3.1.size,0,I⟩ 1 (slC (S k) (V g6 (S k).p.m h6) (V g0 (S k).ze.length j0) (V h0 (S k).zr.length k0)).toList rfl rfl ?_ (by simp[Aq]) (slD (S k)) (HO3 F6 z0 a1) ?_ ?_ (fun q q' x _ _ hx m1=>jPx SO.d1 SO.d2 SO.d3 q q' x hx m1) (by unfold Au;omega) (by omega) ?_ ?_
   .rw[f0.out];exact Cf (t:=42) (fr:=(0,0)) (Row.new w3 _ _)
   .intro q hq;exact jGj ⟨(SO.t.base m0).below b5,(SO.e.base m0).below b5,(SO.z.base m0).below b5,SO.d1,SO.d2,SO.d3⟩ q hq
   .intro q x _ hx hf;have h1:=(SC x hx.any).1;have h2:=hf.2;omega
   .have:=d0.size
    omega
   intro g' c' w6 O6 b6 _;have K6:H (Ow w6 w0 (qH (k+1) S) (V g' (k+1) c') (rng w0 w6.1.size)/\Ab w0 w0 w6):=by
    refine⟨(O6.mono (fun x hx=>?_)).congr (fun i q _ _=>?_),(jA HO.2 d0).trans b6⟩
    .refine⟨?_,hx.1⟩;have h5:=d0.size;rcases hx.2 with (h|⟨q,_,h⟩)|h
     .exact h.1
     .have:=(SC x h.any).1
      show w0.1.size<=x;omega
     .show w0.1.size<=x;omega
    .by_cases e:i=k
     .subst e;simp
     .simp[e]
   have h1:=c1.out;go_wp2
   go_roundw
   case rel=>exact⟨k+1,g',c',by omega,by go_num,by go_num,K6⟩
   case measure=>simp[intOf];omega
  .obtain rfl:k=n:=by omega
   have s0:=RA.below HO.2 RA.lt;have i1:=RD.below HO.2 RD.lt;have f2:=s0.free 2;obtain⟨w3,e0⟩:=nmH (wr.setCell (Q A 2 I) (V (Q g 0 I) k c));have J3:H (Row w3 A 26 #[id,f,V (Q g 0 I) k c]/\Row w3 D 26 #[(),(),V I 0 0]/\Ow w3 w0 (qH k S) (V (Q g 0 I) k c) (rng w0 wr.1.size)/\Ab w w w3):=by
    rw[e0.out];exact⟨s0.set 2 _,i1.other 2 _ (Cj HL.1),HO.1.far 2 _ (fun hk=>by have:=hk.1;have:=HL.2.2.2.1;omega),(jA r0.out HO.out.2).setCell HL.out.2.1 _⟩
   have S3:w3.1.size=wr.1.size:=by rw[e0.out];simp
   obtain⟨w7,c0⟩:=nmH (w3.setRow D #[id,f,V (Q g 0 I) k c]);have S7:w7.1.size=w3.1.size:=by rw[c0.out];simp[World.setRow]
   have ZR:H (Row w7 D 26 #[id,f,V (Q g 0 I) k c]):=by show Row _ _ _ _;rw[c0.out];exact J3.2.1.row
   have ZB:H (Ab w w w7):=by show Ab _ _ _;rw[c0.out];exact jF J3.2.2.2 HL.2.2.1 _
   have ZO:H (Ow w7 w (qH k S) (V (Q g 0 I) k c) (rng w w7.1.size)):=by
    show Ow _ _ _ _ _;rw[S7,S3];have k1:=r0.size;have h1:Ow w7 w0 (qH k S) (V (Q g 0 I) k c) (rng w0 wr.1.size):=by
     rw[c0.out];exact J3.2.2.1.frame fun x hx _=>Cd _ _ _ _ (fun e=>by have:=hx.1;have:=HL.2.2.2.2;omega)
    exact(h1.base k1).mono (fun x hx=>⟨by have:=hx.1;omega,hx.2⟩)
   go_wp2_with (first|(rw[<-e0.out];refine Bb rfl 26 _ rfl A rfl 26 #[id,f,V (M ⟨g,0,I⟩) k c] (0,0) _ ?_ Ch rfl Tryz.infoNd ?_;exact J3.1;clear x2 f2)|(refine Bw rfl 26 _ _ rfl D #[id,f,V (M ⟨g,0,I⟩) k c] rfl rfl 26 #[(),(),V I 0 0] ?_ Tryz.infoNd rfl (by simp[Aq]) ?_;exact J3.2.1;rw[<-c0.out]))
   exact B7 (v:=ndV id f (V (Q g 0 I) k c)) (Ck results48 _ _ D 26 _ (0,0) _ rfl ZR Ch rfl Tryz.infoNd) rfl ⟨g,c,rfl,ZO,ZB⟩
theorem JC {g:Nat->Nat} {n i:Nat} (hi:i<n):g i<=tot g n:=by have:=XD (g:=g) hi;omega
theorem jBg {n:Nat} {S:Nat->Sl} (h:wtL n S<=1048576):n<=1048576/\(∀ i,i<n->SlS (S i))/\(∀ i,i<n->SlK (S i))/\1+tot (fun i=>wkS (S i)) n<=400000000:=by
 unfold wtL at h;have hw:∀ i,i<n->wtS (S i)<=1048576:=fun i hi=>by have:wtS (S i)<=tot (fun i=>wtS (S i)) n:=JC (g:=fun i=>wtS (S i)) hi;omega
 have a0:tot (fun i=>wkS (S i)) n<=10*n+tot (fun i=>wtS (S i)) n:=by
  clear h hw;induction n with
  | zero=>exact Ay _
  | succ n ih=>
   show tot (fun i=>wkS (S i)) n+wkS (S n)<=10*(n+1)+(tot (fun i=>wtS (S i)) n+wtS (S n));have:wkS (S n)<=10+wtS (S n):=by unfold wkS wtS wtP;omega
   omega
 refine⟨by omega,fun i hi=>?_,fun i hi=>?_,by omega⟩
 .have:=hw i hi
  unfold wtS wtP at this;exact⟨by omega,by omega,by omega⟩
 .have:=hw i hi
  unfold wtS wtP at this;refine⟨by omega,by omega,by omega,by omega,fun j hj=>?_,by omega,by omega⟩;have:((S i).p.S j).size<=tot (fun j=>((S i).p.S j).size) (S i).p.m:=JC (g:=fun j=>((S i).p.S j).size) hj
  omega
section
variable {w W W':World} {B E X G bx bg:Nat} {id f:Int} {a:Option Addr} {n c gx:Nat} {T TG TH:Sl} {v6 v11 v12 u6 u11 u12:Value}
end
end Go.Proofs.YtcaejlalnjnifaaGreat
