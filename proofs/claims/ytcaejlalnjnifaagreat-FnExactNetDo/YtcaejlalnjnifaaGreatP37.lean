import Derived.Test.YtcaejlalnjnifaaGreatP32
set_option maxHeartbeats 8000000
set_option maxRecDepth 2000
open Go.Value renaming slice->V,agg->Ai,int->Ao,oneCell'->Aq
open Option renaming none->I,some->M
open Go.RowKit renaming Hid->H,Below->Ab
open Go.Addr renaming mk->Q
open Go renaming undef->O,World->Ad,Value->Aj,Calls->Ak,maxLen->Au
open Go.Obj renaming cells->J
open Go.Ending renaming returned->Ae
open Go.IntKind renaming i64->Ar
open Go.Proofs.Tryz
open Go.ChangeShapes Go.WideShapes Go.ChangeAt Go.RowKit
namespace Go.Proofs.YtcaejlalnjnifaaGreat
def HO3 (F6 F11 F12:Nat->Prop) (q x:Nat):Prop:=(q=6/\F6 x)\/(q=11/\F11 x)\/(q=12/\F12 x)
theorem jF8 {w:Ad} {B:Nat} {s:Sl} {v6 c0 d0:Aj} {F6 a0 b0:Nat->Prop} (h:SlO w B s v6 c0 d0 F6 a0 b0) (q:Nat) (hq:q<13):Ow w B (slD s q) ((slC s v6 c0 d0).toList.getD q O) (HO3 F6 a0 b0 q):=by
 match q,hq with
 | 0,_|1,_|2,_|3,_|4,_|5,_|7,_|8,_|9,_|10,_=>rfl
 | 6,_=>exact Ow.mono h.t fun g hg=>.inl ⟨rfl,hg⟩
 | 11,_=>exact Ow.mono h.e fun g hg=>.inr (.inl ⟨rfl,hg⟩)
 | 12,_=>exact Ow.mono h.z fun g hg=>.inr (.inr ⟨rfl,hg⟩)
theorem ZJ (id f:Int) (a:OA) (n cap:Nat) (S:Nat->Sl) (w:Ad) (h:Rd w (qG n S) (V a n cap)) (hn:n<=1048576) (hs:∀ i,i<n->SlK (S i)):Ak prog 45 #[ndV id f (V a n cap)] w fun e w'=>∃ g,e=Ae (ndV id f (V (Q g 0 I) n n))/\Ow w' w (qG n S) (V (Q g 0 I) n n) (rng w w'.1.size)/\Ab w w w':=by
 obtain⟨i0,hi,x1,y1,z1⟩:=Ch Tryz.infoSlZ;obtain⟨A,HA⟩:=nmH w.1.size;obtain⟨D,HD⟩:=nmH (w.1.size+1);obtain⟨w0,h0⟩:=nmH ((w.alloc (J #[id,f,V a n cap] 26)).alloc (J #[(),(),V I 0 0] 26));have RA:=zP h0 HA;have RD:=JO h0 HD;have y0:=bl2 h0;have i1:=hd y0;have HL:H (A≠D/\w.1.size<=A/\w.1.size<=D/\A<w0/\D<w0):=⟨by have:=HA.out;have:=HD.out;omega,by have:=HA.out;omega,by have:=HD.out;omega,RA.out.lt,RD.out.lt⟩;have KH:=hd (h.below y0);have HS:H (∀ i,i<n->SlK (S i)):=hs;obtain⟨g,HG⟩:=nmH w0.1.size;have x2:=RA.cell 2;simp at x2;clear h y0 hs;go_enter func45,ntmps45
 go_wp2_with (at_make;rw[<-h0.out,<-HD.out,<-HA.out];refine Cx _ rfl _ _ 24 rfl w0 42 i0 (Ai zcS.toArray) 13 underlying24 hi x1 y1 Ar Ar _ _ n rfl rfl rfl rfl (by rw[z1];omega) (by unfold Au;omega) (Ay _) ?_;intro w1 d0 g0;have hb1:Ab w0 w0 w1:=(Az _ _).grown g0 (Ay _) (by simp);have y2:=(hb1.cell (p:=Q A 2 I) RA.lt).trans x2)
 have n1:Ow w1 w0 (.lst 42 13 n (fun i=>if i<0 then slD (S i) else slD slZ)) (V (Q g 0 I) n n) (rng w0 w1.1.size):=by
  have e:(madeCells (Ai zcS.toArray).cells (n*13)).toList=cL 13 (fun _ q=>zcS.getD q O) n:=xS (zs:=zcS) (by simp[zcS]);rw[e] at d0;rw[HG.out];have:=XG (F:=rng w0 w1.1.size) d0 (fun q hq=>jOb w1 w0 q hq) ⟨Ay _,(A0 d0 _ rfl).2⟩
  exact this.congr (fun i q _ _=>by simp)
 rw[<-HG.out];have KO1:=hd n1;have u1:H (w0.1.size<=g):=by show _<=_;rw[HG.out];exact Ay _
 clear d0 g0 n1;go_loopw [13] (fun vi wr=>∃ k:Nat,k<=n/\vi=Ao Ar (k:Int)/\H (Ow wr w0 (.lst 42 13 n (fun i=>if i<k then slD (S i) else slD slZ)) (V (Q g 0 I) n n) (rng w0 wr.1.size))/\Ab w0 w0 wr) (fun vi _=>n-(intOf vi).toNat)
 case atStart=>exact⟨0,Bi _,rfl,KO1,hb1⟩
 case round=>
  obtain⟨k,hk,rfl,HO,a0⟩:=hrel;clear KO1 hb1 y2 x2;by_cases hlt:k<n
  .have k2:(k:Int)<(n:Int):=by omega
   obtain⟨b1,f1,p6,m0,n0,q6,o0,p0,rfl,j1,t6,q1,r1⟩:=QC (KH.below a0) hlt;have R1:=hd j1;obtain⟨B2,g1⟩:=nmH wr.1.size;obtain⟨w2,q0⟩:=nmH (wr.alloc (J (slC (S k) (V p6 (S k).p.m q6) (V m0 (S k).ze.length o0) (V n0 (S k).zr.length p0)) 42));have b2:=bl1 q0;have R2:=jZ q0 g1;have KC:H _:=jEi (S k) p6 m0 n0 q6 o0 p0 w2 (t6.below b2) (q1.below b2) (r1.below b2) (HS k hlt);have f0:H (Ow w2 w0 (.lst 42 13 n (fun i=>if i<k then slD (S i) else slD slZ)) (V (Q g 0 I) n n) (rng w0 wr.1.size)/\Ab w0 w0 w2/\wr.1.size<=w2.1.size):=⟨HO.below b2,jA a0 b2,b2.size⟩;clear j1 t6 q1 r1 b2 a0 HO;go_wp2_with (first|(refine Bv rfl 42 _ rfl b1 (f1+k*13) rfl (slL (S k) (V p6 (S k).p.m q6) (V m0 (S k).ze.length o0) (V n0 (S k).zr.length p0)) _ ?_ C5 rfl Tryz.infoSl ?_;exact R1)|(rw[<-q0.out,<-g1.out];refine Bg rfl 42 _ rfl B2 rfl 42 (slC (S k) (V p6 (S k).p.m q6) (V m0 (S k).ze.length o0) (V n0 (S k).zr.length p0)) (0,0) _ ?_ C5 rfl Tryz.infoSl ?_;exact R2))
   refine Ax KC.out ?_;rintro e w3 ⟨g6,t0,u0,v0,x0,j2,a2,g2,rfl,c0,b3⟩;obtain⟨F6,s1,t1,SO,SC⟩:∃ H6 a1 c1,SlO w3 w2 (S k) (V g6 (S k).p.m (S k).p.m) (V t0 (S k).ze.length v0) (V u0 (S k).zr.length x0) H6 a1 c1/\∀ g,H6 g\/a1 g\/c1 g->w2.1.size<=g/\g<w3.1.size:=⟨_,_,_,⟨c0.t.cut,c0.e.cut,c0.z.cut,fun g h1 h2=>c0.d1 g h1.1 h2.1,fun g h1 h2=>c0.d2 g h1.1 h2.1,fun g h1 h2=>c0.d3 g h1.1 h2.1⟩,fun g hg=>by rcases hg with hg|hg|hg <;> exact hg.2⟩;have O3:=f0.1.below b3;have TH:H (w3.there g (k*13) 13):=by
    obtain⟨a',i2,c',G',e',m1,_⟩:=O3;cases e';intro j hj;refine⟨?_,B0 m1 _⟩;rw[Bt m1 _ (qM hlt hj),jT _ _ _ _ _ hlt hj];rfl
   have k0:=f0.2.1.size;have o1:=f0.2.2;have p1:=b3.size;have z0:∀ q x,HO3 F6 s1 t1 q x->w2.1.size<=x/\x<w3.1.size:=fun q x hx=>by
    rcases hx with ⟨_,hx⟩|⟨_,hx⟩|⟨_,hx⟩
    .exact SC x (.inl hx)
    .exact SC x (.inr (.inl hx))
    .exact SC x (.inr (.inr hx))
   obtain⟨w4,s0⟩:=nmH (w3.setCells g (k*13) (slC (S k) (V g6 (S k).p.m (S k).p.m) (V t0 (S k).ze.length v0) (V u0 (S k).zr.length x0)).toList);have HO4:H (Ow w4 w0 (.lst 42 13 n (fun i=>if i<k+1 then slD (S i) else slD slZ)) (V (Q g 0 I) n n) (rng w0 w4.1.size)):=by
    rw[s0.out];show Ow _ _ _ _ _;rw[jO];refine Ow.congr (Ow.store (d:=slD (S k)) O3 hlt rfl (fun q hq=>jF8 (B:=w0.1.size) ⟨SO.t.base k0,SO.e.base k0,SO.z.base k0,SO.d1,SO.d2,SO.d3⟩ q hq) ?_ ?_ ?_ ?_) ?_
    .intro q x _ hx hf;have h2:=hf.2;have h3:=(z0 q x hx).1;omega
    .intro q q' x _ _ hx b0;rcases hx with ⟨e1,hx⟩|⟨e1,hx⟩|⟨e1,hx⟩ <;> rcases b0 with ⟨e2,b0⟩|⟨e2,b0⟩|⟨e2,b0⟩
     .omega
     .exact Bo b0 (SO.d1 x hx)
     .exact Bo b0 (SO.d2 x hx)
     .exact Bo hx (SO.d1 x b0)
     .omega
     .exact Bo b0 (SO.d3 x hx)
     .exact Bo hx (SO.d2 x b0)
     .exact Bo hx (SO.d3 x b0)
     .omega
    .intro x hx;exact⟨hx.1,by have:=hx.2;omega⟩
    .intro q x _ hx;have h3:=z0 q x hx;exact⟨by omega,h3.2⟩
    .intro i q _ _;by_cases e:i=k
     .subst e;simp
     .by_cases e2:i<k
      .simp[e,e2,show i<k+1 by omega]
      .simp[e,e2,show ¬ i<k+1 by omega]
   have KB4:H (Ab w0 w0 w4):=by show Ab _ _ _;rw[s0.out];exact jP (jA f0.2.1 b3) u1 _ _
   clear O3 b3 SO c0 SC z0 k0 o1 p1 KC R1 R2 f0;go_wp2_with (refine Dd rfl 42 _ _ rfl g (k*13) (slC (S k) (V g6 (S k).p.m (S k).p.m) (V t0 (S k).ze.length v0) (V u0 (S k).zr.length x0)) rfl rfl ?_ Tryz.infoSl (by simp[Aq]) ?_;exact TH;rw[<-s0.out])
   go_roundw
   case rel=>exact⟨k+1,by omega,by go_num,HO4,KB4.out⟩
   case measure=>simp[intOf];omega
  .obtain rfl:k=n:=by omega
   have j0:=RA.below a0 RA.lt;have k1:=RD.below a0 RD.lt;have y2:=j0.cell 2;have f2:=j0.free 2;simp at y2;obtain⟨w3,r0⟩:=nmH (wr.setCell (Q A 2 I) (V (Q g 0 I) k k));have J3:H (Row w3 A 26 #[id,f,V (Q g 0 I) k k]/\Row w3 D 26 #[(),(),V I 0 0]/\Ow w3 w0 (qG k S) (V (Q g 0 I) k k) (rng w0 wr.1.size)/\Ab w w w3):=by
    rw[r0.out];refine⟨j0.set 2 _,k1.other 2 _ (Ci HL.1),?_,(jA i1 a0).setCell HL.2.1 _⟩;have:Ow wr w0 (qG k S) (V (Q g 0 I) k k) (rng w0 wr.1.size):=HO.congr (fun i q hi _=>by simp[hi])
    exact this.far 2 _ (fun hk=>by have:=hk.1;have:=HL.2.2.2.1;omega)
   have S3:w3.1.size=wr.1.size:=by rw[r0.out];simp
   obtain⟨w7,e0⟩:=nmH (w3.setRow D #[id,f,V (Q g 0 I) k k]);have S7:w7.1.size=w3.1.size:=by rw[e0.out];simp[World.setRow]
   have ZR:H (Row w7 D 26 #[id,f,V (Q g 0 I) k k]):=by show Row _ _ _ _;rw[e0.out];exact J3.2.1.row
   have ZB:H (Ab w w w7):=by show Ab _ _ _;rw[e0.out];exact jG J3.2.2.2 HL.2.2.1 _
   have ZO:H (Ow w7 w (qG k S) (V (Q g 0 I) k k) (rng w w7.1.size)):=by
    show Ow _ _ _ _ _;rw[S7,S3];have v1:=i1.size;have h1:Ow w7 w0 (qG k S) (V (Q g 0 I) k k) (rng w0 wr.1.size):=by
     rw[e0.out];exact J3.2.2.1.frame fun x hx _=>Cj _ _ _ _ (fun e=>by have:=hx.1;have:=HL.2.2.2.2;omega)
    exact(h1.base v1).mono (fun x hx=>⟨by have:=hx.1;omega,hx.2⟩)
   clear j0 k1 a0 S3 S7;go_wp2_with (first|(rw[<-r0.out];refine Bg rfl 26 _ rfl A rfl 26 #[id,f,V (M ⟨g,0,I⟩) k k] (0,0) _ ?_ Cg rfl Tryz.infoNd ?_;exact J3.1;clear y2 f2)|(refine Ca rfl 26 _ _ rfl D #[id,f,V (M ⟨g,0,I⟩) k k] rfl rfl 26 #[(),(),V I 0 0] ?_ Tryz.infoNd rfl (by simp[Aq]) ?_;exact J3.2.1;rw[<-e0.out]))
   exact B7 (v:=ndV id f (V (Q g 0 I) k k)) (Cs results45 _ _ D 26 _ (0,0) _ rfl ZR Cg rfl Tryz.infoNd) rfl ⟨g,rfl,ZO,ZB⟩
theorem jPf {F6 b0 c0:Nat->Prop} (d1:∀ g,F6 g->¬ b0 g) (d2:∀ g,F6 g->¬ c0 g) (d3:∀ g,b0 g->¬ c0 g) (q q' x:Nat) (hx:HO3 F6 b0 c0 q x) (a0:HO3 F6 b0 c0 q' x):q=q':=by
 rcases hx with ⟨e1,hx⟩|⟨e1,hx⟩|⟨e1,hx⟩ <;> rcases a0 with ⟨e2,a0⟩|⟨e2,a0⟩|⟨e2,a0⟩
 .omega
 .exact Bo a0 (d1 x hx)
 .exact Bo a0 (d2 x hx)
 .exact Bo hx (d1 x a0)
 .omega
 .exact Bo a0 (d3 x hx)
 .exact Bo hx (d2 x a0)
 .exact Bo hx (d3 x a0)
 .omega
theorem HO3.any {F6 a0 b0:Nat->Prop} {q x:Nat} (h:HO3 F6 a0 b0 q x):F6 x\/a0 x\/b0 x:=by
 rcases h with ⟨_,h⟩|⟨_,h⟩|⟨_,h⟩
 .exact .inl h
 .exact .inr (.inl h)
 .exact .inr (.inr h)
theorem XI (id f:Int) (a:OA) (n cap:Nat) (S:Nat->Sl) (w:Ad) (h:Rd w (qG n S) (V a n cap)) (hn:n<=1048576) (hs:∀ i,i<n->SlS (S i)):Ak prog 48 #[ndV id f (V a n cap)] w fun e w'=>∃ g c,e=Ae (ndV id f (V (Q g 0 I) n c))/\Ow w' w (qG n S) (V (Q g 0 I) n c) (rng w w'.1.size)/\Ab w w w':=by
 obtain⟨i0,hi,n1,o1,p1⟩:=Ch Tryz.infoSlZ;obtain⟨A,HA⟩:=nmH w.1.size;obtain⟨D,HD⟩:=nmH (w.1.size+1);obtain⟨w0,b0⟩:=nmH ((w.alloc (J #[id,f,V a n cap] 26)).alloc (J #[(),(),V I 0 0] 26));have RA:=zP b0 HA;have RD:=JO b0 HD;have t0:=bl2 b0;have r0:=hd t0;have HL:H (A≠D/\w.1.size<=A/\w.1.size<=D/\A<w0/\D<w0):=⟨by have:=HA.out;have:=HD.out;omega,by have:=HA.out;omega,by have:=HD.out;omega,RA.out.lt,RD.out.lt⟩;have KH:=hd (h.below t0);have HS:H (∀ i,i<n->SlS (S i)):=hs;obtain⟨w1,q0⟩:=nmH (w0.alloc (J #[] 42));have K1:H (Ow w1 w0 (qG 0 S) (V (Q w0 0 I) 0 0) (rng w0 w1.1.size)/\Ab w0 w0 w1):=by
  rw[q0.out];refine⟨⟨_,0,fun _ _=>O,fun _ _ _=>False,rfl,?_,⟨fun x e=>?_,fun _ _ _ hi=>Bo hi (Bk _),fun _ _ _ hi=>Bo hi (Bk _),fun _ _ _ _ _ hi=>Bo hi (Bk _)⟩,fun _ _ hi=>Bo hi (Bk _)⟩,(Az _ _).alloc (Ay _) _⟩
  .have:=Cc (e:=42) (size:=13) (base:=w0.1.size) w0 #[] 0 (by simp) (by unfold Au;omega) (by simp)
   simpa [cL] using this
  .cases e;exact⟨Ay _,by simp⟩
 obtain⟨g1,p0⟩:=nmH (D+1);have j1:D+1=w0.1.size:=by rw[b0.out,HD.out];simp
 have K1':H (Ow w1 w0 (qG 0 S) (V g1 0 0) (rng w0 w1.1.size)/\Ab w0 w0 w1):=by rw[p0.out,j1];exact K1
 go_enter func48,ntmps48
 go_wp2_with fail
 rw[<-b0.out,<-HD.out,<-HA.out,<-q0.out,<-p0.out];go_loopw [3,4] (fun v vi wr=>∃ k g c:Nat,k<=n/\v=V (Q g 0 I) k c/\vi=Ao Ar (k:Int)/\H (Ow wr w0 (qG k S) (V (Q g 0 I) k c) (rng w0 wr.1.size)/\Ab w0 w0 wr)) (fun _ vi _=>n-(intOf vi).toNat)
 case atStart=>exact⟨0,g1,0,Bi _,rfl,rfl,K1'⟩
 case round=>
  obtain⟨k,g,c,hk,rfl,rfl,HO⟩:=hrel;have x2:=(RA.below HO.2 RA.lt).cell 2;simp at x2;by_cases hlt:k<n
  .have v1:(k:Int)<(n:Int):=by omega
   obtain⟨b1,f1,p6,u0,v0,q6,x0,y0,rfl,e1,t6,q1,r1⟩:=QC (KH.below HO.2) hlt;have R1:=hd e1;have KC:H _:=jHu (S k) p6 u0 v0 q6 x0 y0 wr t6 q1 r1 (HS k hlt);have c1:=hd hlt;go_wp2_with (refine Bv rfl 42 _ rfl b1 (f1+k*13) rfl (slL (S k) (V p6 (S k).p.m q6) (V u0 (S k).ze.length x0) (V v0 (S k).zr.length y0)) _ ?_ C5 rfl Tryz.infoSl ?_;exact R1)
   refine Ax KC.out ?_;rintro e w3 ⟨g6,g0,h0,h6,j0,k0,u1,s1,t1,rfl,a0,b3⟩;obtain⟨F6,z0,a1,SO,SC⟩:∃ H6 n0 o0,SlO w3 wr.1.size (S k) (V g6 (S k).p.m h6) (V g0 (S k).ze.length j0) (V h0 (S k).zr.length k0) H6 n0 o0/\∀ g,H6 g\/n0 g\/o0 g->wr.1.size<=g/\g<w3.1.size:=⟨_,_,_,⟨a0.t.cut,a0.e.cut,a0.z.cut,fun g h1 h2=>a0.d1 g h1.1 h2.1,fun g h1 h2=>a0.d2 g h1.1 h2.1,fun g h1 h2=>a0.d3 g h1.1 h2.1⟩,fun g hg=>by rcases hg with hg|hg|hg <;> exact hg.2⟩;obtain⟨w5,f0⟩:=nmH (w3.alloc (J (slC (S k) (V g6 (S k).p.m h6) (V g0 (S k).ze.length j0) (V h0 (S k).zr.length k0)) 42));have b5:=bl1 f0;have d0:=jA b3 b5;have m0:=HO.2.size;go_wp2_with (at_builtin;rw[<-f0.out];refine(show True->_ from ?_) trivial)
   intro _;refine xJ w5 rfl _ _ 24 rfl w0 42 i0 (Ai zcS.toArray) 13 _ underlying24 hi n1 o1 p1 rfl (by decide) (V (M ⟨g,0,I⟩) k c) k _ _ rfl (HO.1.below d0) ⟨w3.1.size,0,I⟩ 1 (slC (S k) (V g6 (S k).p.m h6) (V g0 (S k).ze.length j0) (V h0 (S k).zr.length k0)).toList rfl rfl ?_ (by simp[Aq]) (slD (S k)) (HO3 F6 z0 a1) ?_ ?_ (fun q q' x _ _ hx m1=>jPf SO.d1 SO.d2 SO.d3 q q' x hx m1) (by unfold Au;omega) (by omega) ?_ ?_
   .rw[f0.out];exact Cf (t:=42) (fr:=(0,0)) (Row.new w3 _ _)
   .intro q hq;exact jF8 ⟨(SO.t.base m0).below b5,(SO.e.base m0).below b5,(SO.z.base m0).below b5,SO.d1,SO.d2,SO.d3⟩ q hq
   .intro q x _ hx hf;have h1:=(SC x hx.any).1;have h2:=hf.2;omega
   .have:=d0.size
    omega
   intro g' c' w6 O6 b6 _;have K6:H (Ow w6 w0 (qG (k+1) S) (V g' (k+1) c') (rng w0 w6.1.size)/\Ab w0 w0 w6):=by
    refine⟨(O6.mono (fun x hx=>?_)).congr (fun i q _ _=>?_),(jA HO.2 d0).trans b6⟩
    .refine⟨?_,hx.1⟩;have h5:=d0.size;rcases hx.2 with (h|⟨q,_,h⟩)|h
     .exact h.1
     .have:=(SC x h.any).1
      show w0.1.size<=x;omega
     .show w0.1.size<=x;omega
    .by_cases e:i=k
     .subst e;simp
     .simp[e]
   have h1:=c1.out;go_wp2
   go_roundw
   case rel=>exact⟨k+1,g',c',by omega,by go_num,by go_num,K6⟩
   case measure=>simp[intOf];omega
  .obtain rfl:k=n:=by omega
   have s0:=RA.below HO.2 RA.lt;have i1:=RD.below HO.2 RD.lt;have f2:=s0.free 2;obtain⟨w3,e0⟩:=nmH (wr.setCell (Q A 2 I) (V (Q g 0 I) k c));have J3:H (Row w3 A 26 #[id,f,V (Q g 0 I) k c]/\Row w3 D 26 #[(),(),V I 0 0]/\Ow w3 w0 (qG k S) (V (Q g 0 I) k c) (rng w0 wr.1.size)/\Ab w w w3):=by
    rw[e0.out];exact⟨s0.set 2 _,i1.other 2 _ (Ci HL.1),HO.1.far 2 _ (fun hk=>by have:=hk.1;have:=HL.2.2.2.1;omega),(jA r0.out HO.out.2).setCell HL.out.2.1 _⟩
   have S3:w3.1.size=wr.1.size:=by rw[e0.out];simp
   obtain⟨w7,c0⟩:=nmH (w3.setRow D #[id,f,V (Q g 0 I) k c]);have S7:w7.1.size=w3.1.size:=by rw[c0.out];simp[World.setRow]
   have ZR:H (Row w7 D 26 #[id,f,V (Q g 0 I) k c]):=by show Row _ _ _ _;rw[c0.out];exact J3.2.1.row
   have ZB:H (Ab w w w7):=by show Ab _ _ _;rw[c0.out];exact jG J3.2.2.2 HL.2.2.1 _
   have ZO:H (Ow w7 w (qG k S) (V (Q g 0 I) k c) (rng w w7.1.size)):=by
    show Ow _ _ _ _ _;rw[S7,S3];have k1:=r0.size;have h1:Ow w7 w0 (qG k S) (V (Q g 0 I) k c) (rng w0 wr.1.size):=by
     rw[c0.out];exact J3.2.2.1.frame fun x hx _=>Cj _ _ _ _ (fun e=>by have:=hx.1;have:=HL.2.2.2.2;omega)
    exact(h1.base k1).mono (fun x hx=>⟨by have:=hx.1;omega,hx.2⟩)
   go_wp2_with (first|(rw[<-e0.out];refine Bg rfl 26 _ rfl A rfl 26 #[id,f,V (M ⟨g,0,I⟩) k c] (0,0) _ ?_ Cg rfl Tryz.infoNd ?_;exact J3.1;clear x2 f2)|(refine Ca rfl 26 _ _ rfl D #[id,f,V (M ⟨g,0,I⟩) k c] rfl rfl 26 #[(),(),V I 0 0] ?_ Tryz.infoNd rfl (by simp[Aq]) ?_;exact J3.2.1;rw[<-c0.out]))
   exact B7 (v:=ndV id f (V (Q g 0 I) k c)) (Cs results48 _ _ D 26 _ (0,0) _ rfl ZR Cg rfl Tryz.infoNd) rfl ⟨g,c,rfl,ZO,ZB⟩
end Go.Proofs.YtcaejlalnjnifaaGreat
