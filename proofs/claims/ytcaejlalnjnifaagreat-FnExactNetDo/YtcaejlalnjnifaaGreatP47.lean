import Derived.Test.YtcaejlalnjnifaaGreatP44
set_option maxHeartbeats 8000000
set_option maxRecDepth 2000
open Go.Value renaming slice->V,pointer->Af,tuple->Ah,agg->Ai,int->Ao,oneCell'->Aq
open Option renaming none->I,some->M
open Go.RowKit renaming Hid->H,Below->Ab
open Go.Addr renaming mk->Q
open Go.Obj renaming cells->J
open Go renaming World->Ad,Calls->Ak,maxLen->Au
open Go.Ending renaming returned->Ae
open Go.IntKind renaming i64->Ar
open Bool renaming false->Av,true->Aw
open Go.Proofs.Tryz
open Go.ChangeShapes Go.WideShapes Go.ChangeAt Go.RowKit
namespace Go.Proofs.YtcaejlalnjnifaaGreat
open Go.ChangeShapes Go.WideShapes Go.ChangeAt Go.RowKit Go.Sort
theorem jB4 (id f:Int) (a:OA) (n cap:Nat) (S:Nat->Sl) (y:Sy) (a9:OA) (c9:Nat) (w:Ad) (hT:Rd w (qG n S) (V a n cap)) (hB:NhB n S y) (m1:ndB id f n S=Aw) (hf:1<=f/\f<=3) (h2:y.t=id) (h3:-1<=y.f/\y.f<=3*f) (h4:0<=y.k/\y.k<=2) (h5:y.r.size=16) (h6:plN S y.r n<40) (h9:jK w a9 y.p.m y.p.S):Ak prog 10 #[ndV id f (V a n cap),syV y (V a9 y.p.m c9)] w fun e w'=>NhR w w' id f (hrN S y.r n) (hvS id f (slF S y.r n) (plN S y.r n) y) (hvM id f (slF S y.r n) (plN S y.r n) y) (hvY id (slF S y.r n) (plN S y.r n) y) e:=by
 obtain⟨A,HA⟩:=nmH w.1.size;obtain⟨C,HC⟩:=nmH (w.1.size+1);obtain⟨D,HD⟩:=nmH (w.1.size+1+1);obtain⟨w0,r2⟩:=nmH (((w.alloc (J #[id,f,V a n cap] 26)).alloc (J (syC y (V a9 y.p.m c9)) 31)).alloc (J #[(),(),V I 0 0] 26));have RA:=zD r2 HA;have RC:=xL r2 HC;have RD:=xR r2 HD;have z5:=bl3 r2;have r1:H (Ab w w w0):=z5;have HL:H (w.1.size<=A/\w.1.size<=C/\w.1.size<=D/\A<w0/\C<w0/\D<w0):=⟨by have:=HA.out;omega,by have:=HC.out;omega,by have:=HD.out;omega,RA.out.lt,RC.out.lt,RD.out.lt⟩;have x3:H (A≠C/\A≠D/\C≠D):=⟨by have:=HA.out;have:=HC.out;omega,by have:=HA.out;have:=HD.out;omega,by have:=HC.out;have:=HD.out;omega⟩;have y6:H _:=XI id f a n cap S w0 (hT.below z5) hB.kn (fun i hi=>(hB.k i hi).s);have HB:H (NhB n S y):=hB;have p6:H (ndB id f n S=Aw):=m1;have HF:H (1<=f/\f<=3):=hf;obtain⟨q,HQ⟩:∃ q:Int,H (3*f+1=q):=⟨_,rfl⟩;obtain⟨q1,f5⟩:∃ q1:Int,H (3*f=q1):=⟨_,rfl⟩;have r9:IntKind.i64.wrap (q-1)=q1:=by have:=HQ.out;have:=f5.out;rw[A8];omega
 have H3:H (inB y.f (-1) q1=Aw):=by have:=f5.out;show inB _ _ _=Aw;unfold inB;exact Bf (by omega)
 have H4:H (inB y.k 0 2=Aw):=by show inB _ _ _=Aw;unfold inB;exact Bf (by omega)
 have q8:H (plN S y.r n<40):=h6;have x6:H (-1<=y.f/\y.f<=3*f):=h3;have m5:H (0<=y.k/\y.k<=2):=h4;have ay:H (y.r.size=16):=h5;have H9:H (jK w a9 y.p.m y.p.S):=h9;have k9:H (HvK (slF S y.r n) (plN S y.r n) y):=jJc hB (jDg m1);have q6:H (NdP id f n S):=jDg m1;clear h9;obtain⟨u7,j1⟩:=nmH (decide (plN S y.r n=n));clear h3 h4 h6;clear hT hB z5 m1 hf;go_enter func10,ntmps10
 go_wp2_with (rw[<-r2.out,<-HD.out,<-HC.out,<-HA.out];refine Bg rfl 26 _ rfl A rfl 26 #[id,f,V a n cap] (0,0) _ ?_ Cg rfl Tryz.infoNd ?_;exact RA)
 refine Ax y6.out ?_;rintro e w1 ⟨g,c,rfl,O1,b1⟩;obtain⟨w2,t0⟩:=nmH (w1.setRow A #[id,f,V (Q g 0 I) n c]);obtain⟨gs,n1⟩:=nmH w2.1.size;obtain⟨w3,u2⟩:=nmH (w2.alloc (J #[] 31));have R1:H (Row w1 A 26 #[id,f,V a n cap]):=RA.below b1 RA.lt;have K3:H (MhA w w0 w3 A C D id f g n c S y a9 c9 gs):=by
  have b3:Ab w2 w2 w3:=by rw[u2.out];exact(Az _ _).alloc (Ay _) _
  have e2:w2.1.size=w1.1.size:=by rw[t0.out];simp
  have l:=HL.out;have s1:=b1.size;have n8:Row w2 A 26 #[id,f,V (Q g 0 I) n c]:=by rw[t0.out];exact R1.row
  have o8:Row w2 C 31 (syC y (V a9 y.p.m c9)):=by rw[t0.out];exact(RC.below b1 RC.lt).otherRow (fun e=>x3.1 e.symm)
  have rd2:Row w2 D 26 #[(),(),V I 0 0]:=by rw[t0.out];exact(RD.below b1 RD.lt).otherRow (fun e=>x3.2.1 e.symm)
  have o2:Ow w2 w0 (qG n S) (V (Q g 0 I) n c) (rng w0 w1.1.size):=by
   rw[t0.out];exact O1.frame fun x hx _=>Cj _ _ _ _ (fun e=>by have h1:w0.1.size<=x:=hx.1;omega)
  have b2:Ab w w w2:=by rw[t0.out];exact jG (jA r1 b1) l.1 _
  refine⟨n8.below b3 n8.lt,o8.below b3 o8.lt,rd2.below b3 rd2.lt,(o2.below b3).mono (fun x hx=>⟨hx.1,?_⟩),jA b2 b3,?_,?_,?_⟩
  .have h1:x<w1.1.size:=hx.2;rw[n1.out];omega
  .rw[u2.out,n1.out];exact Row.new w2 _ _
  .rw[n1.out];omega
  .rw[n1.out];have:=b3.size
   rw[u2.out];simp
 have p4:H (Row w3 A 26 #[id,f,V (Q g 0 I) n c]):=K3.ra;have q4:H (Row w3 C 31 (syC y (V a9 y.p.m c9))):=K3.rc;have e7:H _:=jA7 id f (Q g 0 I) n c S y.r w3 K3.o.rd HB.kn;have u3:=q4.cell 3;simp at u3;clear O1 b1;go_wp2_with (first|(refine Ca rfl 26 _ _ rfl A #[id,f,V (M ⟨g,0,I⟩) n c] rfl rfl 26 #[id,f,V a n cap] ?_ Tryz.infoNd rfl (by simp[Aq]) ?_;exact R1;rw[<-t0.out])|(rw[<-u2.out,<-n1.out];refine Bg rfl 26 _ rfl A rfl 26 #[id,f,V (M ⟨g,0,I⟩) n c] (0,0) _ ?_ Cg rfl Tryz.infoNd ?_;exact p4))
 refine Ax e7.out ?_;rintro e w4 ⟨rfl,b4⟩;have K4:H (MhA w w0 w4 A C D id f g n c S y a9 c9 gs):=K3.below b4;obtain⟨pl,o1⟩:∃ x:Int,H (x=((plN S y.r n:Nat):Int)):=⟨_,rfl⟩;rw[<-o1.out];have z3:H (Row w4 A 26 #[id,f,V (Q g 0 I) n c]):=K4.ra;have f3:H (Row w4 C 31 (syC y (V a9 y.p.m c9))):=K4.rc;have t6:¬ 40<=pl:=by have:=q8.out;have:=o1.out;omega
 clear u3 b4 e7 y6 K3 p4 q4 R1 u2 t0 n1;have x0:=z3.cell 0;have x1:=z3.cell 1;have x2:=z3.cell 2;have v0:=f3.cell 0;have v1:=f3.cell 1;have v2:=f3.cell 2;have v3:=f3.cell 3;simp at x0 x1 x2 v0 v1 v2 v3;have X0:∀ d os,(grow (redrawn w4 d) os).cell? (Q A 0 I)=_:=fun d os=>cell_regrown x0 d os
 have X1:∀ d os,(grow (redrawn w4 d) os).cell? (Q A 1 I)=_:=fun d os=>cell_regrown x1 d os
 have X2:∀ d os,(grow (redrawn w4 d) os).cell? (Q A 2 I)=_:=fun d os=>cell_regrown x2 d os
 have V0:∀ d os,(grow (redrawn w4 d) os).cell? (Q C 0 I)=_:=fun d os=>cell_regrown v0 d os
 have V1:∀ d os,(grow (redrawn w4 d) os).cell? (Q C 1 I)=_:=fun d os=>cell_regrown v1 d os
 have V2:∀ d os,(grow (redrawn w4 d) os).cell? (Q C 2 I)=_:=fun d os=>cell_regrown v2 d os
 have V3:∀ d os,(grow (redrawn w4 d) os).cell? (Q C 3 I)=_:=fun d os=>cell_regrown v3 d os
 have N1:∀ d os,Ak prog 14 #[Ai #[id,f,V (Q g 0 I) n c]] (grow (redrawn w4 d) os) fun e w'=>e=Ae Aw/\∃ p:Regrown,w'=grow (redrawn w4 p.d) p.os:=fun d os=>Calls.regrown_of (by have:=QA id f (Q g 0 I) n c S (grow (redrawn w4 d) os) (K4.o.rd.below (below_regrown w4 d os)) HB.kn (fun i hi=>(HB.k i hi).ok);rw[p6.out] at this;exact this)
 have N2:∀ d os,Ak prog 50 #[f] (grow (redrawn w4 d) os) fun e w'=>e=Ae (Ao Ar q)/\∃ p:Regrown,w'=grow (redrawn w4 p.d) p.os:=fun d os=>Calls.regrown_of ((vQ f _ HF).mono fun e w' h=>⟨by rw[h.1,HQ.out],by rw[h.2];exact Az _ _⟩)
 have h7:∀ d os,Ak prog 43 #[y.f,(-1:Int),q1] (grow (redrawn w4 d) os) fun e w'=>e=Ae Aw/\∃ p:Regrown,w'=grow (redrawn w4 p.d) p.os:=fun d os=>Calls.regrown_of ((jM y.f (-1) q1 _).mono fun e w' h=>⟨by rw[h.1,H3.out],by rw[h.2];exact Az _ _⟩)
 have N4:∀ d os,Ak prog 43 #[y.k,(),(2:Int)] (grow (redrawn w4 d) os) fun e w'=>e=Ae Aw/\∃ p:Regrown,w'=grow (redrawn w4 p.d) p.os:=fun d os=>Calls.regrown_of ((jM y.k 0 2 _).mono fun e w' h=>⟨by rw[h.1,H4.out],by rw[h.2];exact Az _ _⟩)
 clear p6;go_wp2_with fail
 refine wp_region_quiet_below (by kernel_rfl) (by kernel_rfl) ?_;repeat (go_big_quiet_step (first|(with_reducible exact N1 _ _)|(with_reducible exact N2 _ _)|(with_reducible exact h7 _ _)|(with_reducible exact N4 _ _)))
 refine Ct ?_;intro _ y9;obtain⟨⟨dq,m8⟩,d8⟩:=y9;obtain⟨w5,j5⟩:=nmH (grow (redrawn w4 dq) m8);subst d8;have K5:H (Nw w5 w A id f g n c S (rng w0 gs)/\MhC w w5 C D y a9 c9/\Row w5 gs 31 #[]):=by
  have k:=K4.below (below_regrown w4 dq m8);rw[<-j5.out] at k;have l:=HL.out;refine⟨⟨k.ra,k.o.base r1.size,fun h=>?_,⟨l.1,?_⟩,fun x h=>⟨?_,?_⟩⟩,⟨k.rc,k.rd,k.b⟩,k.s⟩
  .have h1:w0.1.size<=A:=h.1;omega
  .have:=k.ra.lt;omega
  .have h1:w0.1.size<=x:=h.1;have:=r1.size
   omega
  .have h1:x<gs:=h.2;have:=k.l2
   omega
 have y2:=K5.1.r.cell 2;simp at y2;have d5:H (w0.1.size<=gs/\A<w0):=⟨K4.l1,HL.2.2.2.1⟩;clear x0 x1 x2 v0 v1 v2 v3 X0 X1 X2 V0 V1 V2 V3 K4 z3 f3 N1 N2 h7 N4 r9 H3 H4 HQ f5;rw[<-j5.out];clear j5;have ah:(pl==(n:Int))=u7:=by
  rw[j1.out];have:=o1.out
  by_cases e:plN S y.r n=n
  .rw[Bf e];simp;omega
  .rw[Bh e];simp;omega
 clear h5;go_upto_if 58 with fail
 clear t6;go_cut [] from 54 to 66 (fun wx=>H (∃ g c F1,Nw wx w A id f g (hrN S y.r n) c (slF S y.r n) F1/\MhC w wx C D y a9 c9/\Row wx gs 31 #[]/\¬ F1 D/\¬ F1 gs))
 case first=>
  cases u7 with
  | false=>
   have KZ:H (Nw w5 w A id f g (hrN S y.r n) c (slF S y.r n) (rng w0 gs)):=by
    have f1:plN S y.r n≠n:=Gb j1.symm;have en:hrN S y.r n=n:=by
     unfold hrN;unfold plN at f1;cases e:plc S y.r n with
     | none=>rw[e] at f1;exact Bo rfl f1
     | some x=>simp
    show Nw _ _ _ _ _ _ _ _ _ _;rw[en];exact⟨K5.1.r,K5.1.o.congr (fun i q hi _=>by show _=slD (slF S y.r n i) q;unfold slF;rw[A5 (by omega)]),K5.out.1.h1,K5.out.1.b,K5.out.1.l1⟩
   go_wp2_with fail
   go_meet
   exact⟨g,c,rng w0 gs,KZ,K5.2.1,K5.2.2,fun k=>by have h1:w0.1.size<=D:=k.1;have:=HL.2.2.2.2.2;omega,fun k=>by have h1:gs<gs:=k.2;omega⟩
  | true=>
   have HN:H (hrN S y.r n=n+1/\n<=1048576):=by
    have f1:plN S y.r n=n:=Do j1.symm;refine⟨?_,HB.kn⟩;unfold hrN;cases e:plc S y.r n with
    | none=>simp
    | some x=>
     obtain⟨_,hx,_,_⟩:=xA e;unfold plN at f1;rw[e] at f1;simp at f1;omega
   have f9:H (Row w5 C 31 (syC y (V a9 y.p.m c9))):=K5.2.1.rc;have v3:=f9.cell 3;simp at v3;obtain⟨w6,ax⟩:=nmH (w5.alloc (J (jB7 y.r) 42));have K6:H (Nw (w5.alloc (J (jB7 y.r) 42)) w A id f g n c S (rng w0 gs)):=K5.1.below ((Az _ _).alloc (Ay _) _);go_wp2_with (at_builtin;refine(show True->_ from ?_) trivial)
   intro _;refine jFk w5 rfl _ _ rfl id f w A g n c S y.r (rng w0 gs) rfl rfl ?_ ?_ ?_
   .exact K6
   .have:=HN.2;omega
   intro g8 c8 w8 F8 a4;have KZ:H (∃ g c F1,Nw (w8.setCell (Q A 2 I) (V g8 (n+1) c8)) w A id f g (hrN S y.r n) c (slF S y.r n) F1/\MhC w (w8.setCell (Q A 2 I) (V g8 (n+1) c8)) C D y a9 c9/\Row (w8.setCell (Q A 2 I) (V g8 (n+1) c8)) gs 31 #[]/\¬ F1 D/\¬ F1 gs):=by
    obtain⟨_,q,b8,t8,a8⟩:=a4;have b6:Ab w5 w5 (w5.alloc (J (jB7 y.r) 42)):=(Az _ _).alloc (Ay _) _;have k6:=K5.2.1.below b6;have l:=HL.out;have s0:=r1.size;have lc:=K5.2.1.rc.lt;have ld:=K5.2.1.rd.lt;have aa:Row w8 C 31 (syC y (V a9 y.p.m c9)):=(t8 C (by omega) (fun k=>by have h1:w0.1.size<=C:=k.1;omega)).trans k6.rc;have ac:Row w8 D 26 #[(),(),V I 0 0]:=(t8 D (by omega) (fun k=>by have h1:w0.1.size<=D:=k.1;omega)).trans k6.rd;refine⟨g8,c8,F8,?_,⟨aa.other 2 _ (fun e=>x3.1 e.symm),ac.other 2 _ (fun e=>x3.2.1 e.symm),vD (k6.b.trans b8) l.1 2 _⟩,?_,fun k=>by
     rcases a8 D k with h1|h1
     .have h2:w0.1.size<=D:=h1.1;omega
     .omega,fun k=>by
     have ls:=K5.2.2.lt;rcases a8 gs k with h1|h1
     .have h2:gs<gs:=h1.2;omega
     .omega⟩
    .rw[HN.out.1];exact q
    .have ae:=K5.2.2.below b6 K5.2.2.lt;have ls:=K5.2.2.lt;have af:Row w8 gs 31 #[]:=(t8 gs (by omega) (fun k=>by have h1:gs<gs:=k.2;omega)).trans ae;exact af.other 2 _ (fun e=>by have:=d5.out;omega)
   have z2:=a4.1.cell 2;have zf:=a4.1.free 2;simp at z2;clear a4;go_wp2_with fail
   go_meet
   exact KZ
 obtain⟨g2,c2,F1,hN,hC,c4,u5,x5⟩:=hcut.out;clear hcut K5 y2 ah j1;obtain⟨p,k2⟩:=nmH (plN S y.r n);obtain⟨n2,e5⟩:=nmH (hrN S y.r n);obtain⟨S2,n3⟩:=nmH (slF S y.r n);have e6:p<n2:=by rw[k2.out,e5.out];exact jKh S y.r n
 rw[<-e5.out,<-n3.out] at hN;rw[<-k2.out] at o1;obtain rfl:=o1.out;clear o1;have bb:(p:Int)<(n2:Int):=by omega
 obtain⟨a6,b0,c0,c6,d0,e0,G6,i2,j2,R8,o6,i8,j8,hG,y4,z4⟩:=jM7 hN.o e6;obtain⟨X,HX⟩:=nmH wc.1.size;obtain⟨w7,k5⟩:=nmH (wc.alloc (J (slC (S2 p) (V a6 (S2 p).p.m c6) (V b0 (S2 p).ze.length d0) (V c0 (S2 p).zr.length e0)) 42));have K7:H (MhX p w w7 A C D X id f g2 n2 c2 S2 F1 y a9 c9 (S2 p) a6 b0 c0 c6 d0 e0 G6 i2 j2 gs):=by
  have b7:Ab wc wc w7:=by rw[k5.out];exact(Az _ _).alloc (Ay _) _
  have sw:=hC.b.size;have hx:=HX.out;have y5:∀ x,F1 x->x<X:=fun x k=>by have:=(hN.l1 x k).2;omega
  have lA:=hN.r.lt;have lC:=hC.rc.lt;have lD:=hC.rd.lt;have s9:=hN.h1;have i3:F1 g2:=by obtain⟨_,_,_,_,e,_,hs,_⟩:=hN.o;cases e;exact hs.head _ rfl
  have az:g2<X:=y5 _ i3;have nE:∀ b,G6 b\/i2 b\/j2 b->¬ mhG w g2 X A D gs b:=fun b k e=>by
   have h1:=hG b k;have h2:=y5 b h1.1;rcases e with (e|e|e|e)|e
   .exact h1.2 e
   .omega
   .exact s9 (e▸h1.1)
   .rcases e with e|e
    .exact u5 (e▸h1.1)
    .have:=(hN.l1 b h1.1).1;omega
   .exact x5 (e▸h1.1)
  have ag:Row w7 X 42 (slC (S2 p) (V a6 (S2 p).p.m c6) (V b0 (S2 p).ze.length d0) (V c0 (S2 p).zr.length e0)):=by rw[k5.out,HX.out];exact Row.new wc _ _
  refine⟨hN.below b7,hC.below b7,ag,o6.below b7,i8.below b7,j8.below b7,nE,x5,y4,z4,⟨by omega,by omega,by omega,by omega,fun k=>by have:=y5 _ k;omega,by omega⟩,c4.below b7 c4.lt,(by have:=c4.lt;omega),?_⟩;have cg:∀ q v,(slL (S2 p) (V a6 (S2 p).p.m c6) (V b0 (S2 p).ze.length d0) (V c0 (S2 p).zr.length e0))[q]?=M v->w7.cell? (Q g2 (p*13+q) I)=M v:=fun q v hq=>by
   have h1:wc.cell? (Q g2 (p*13+q) I)=M v:=R8 q v hq;exact(b7.cell (p:=Q g2 _ I) (A7 h1)).trans h1
  exact⟨cg 6 _ rfl,cg 11 _ rfl,cg 12 _ rfl,rfl⟩
 have f7:H (wc.rangeAt g2 (p*13) (slL (S2 p) (V a6 (S2 p).p.m c6) (V b0 (S2 p).ze.length d0) (V c0 (S2 p).zr.length e0))):=R8;have q2:=hN.r.cell 2;simp at q2;have j9:H (¬ F1 D):=u5;clear hN hC c4 u5 x5 R8 o6 i8 j8 hG y4 z4;go_upto_region 8 with fail
 go_cut [8] from 67 to 71 (fun v wx=>H (v=Af X/\wx=w7))
 case first=>
  go_wp2_with (refine Bv rfl 42 _ rfl g2 (p*13) rfl (slL (S2 p) (V a6 (S2 p).p.m c6) (V b0 (S2 p).ze.length d0) (V c0 (S2 p).zr.length e0)) _ ?_ C5 rfl Tryz.infoSl ?_;exact f7)
  rw[<-k5.out,<-HX.out];go_meet
  exact⟨rfl,rfl⟩
 obtain⟨rfl,c1⟩:=hcut.out;obtain rfl:=c1.symm;clear hcut c1;clear q2 f7;go_step
 go_step
 obtain⟨f0,k3⟩:=nmH ((decide (y.k=0)&&(!(S2 p).e&&vS y.r id f y.p.r y.p.k y.p.n y.p.i y.p.b y.p.m y.p.S)));have a7:H (∀ W,Ab w w W->CB 51 #[pcV y.p.r y.p.k y.p.n y.p.i y.p.b (V a9 y.p.m c9),y.r,id,f] W (vS y.r id f y.p.r y.p.k y.p.n y.p.i y.p.b y.p.m y.p.S)):=fun W hW=>jDr y.r id f y.p.r y.p.k y.p.n y.p.i y.p.b a9 y.p.m c9 y.p.S W (H9.below hW) HF HB.m (fun i hi=>Bx (HB.ps i hi) (by unfold Au;omega))
 have o0:H (Row w7 C 31 (syC y (V a9 y.p.m c9))):=K7.k.rc;have r5:H (Row w7 A 26 #[id,f,V g2 n2 c2]):=K7.nw.r;have p7:H (Row w7 X 42 (slC (S2 p) (V a6 (S2 p).p.m c6) (V b0 (S2 p).ze.length d0) (V c0 (S2 p).zr.length e0))):=K7.rx;have y0:H (HvK S2 p y):=by show HvK _ _ _;rw[n3.out,k2.out];exact k9
 go_cut [6] from 72 to 133 (fun v wx=>H (∃ m Y,MhY p w wx A C D X id f g2 n2 c2 S2 F1 y a9 c9 (mhx f0 S2 p y) m Y v gs/\((f0=Aw/\m=zG f/\Y=syA 1 id y.r)\/(f0=Av/\m=0))))
 case first=>
  go_upto_region 9 with fail
  go_cut [72] from 73 to 91 (fun v wx=>H (v=.bool f0/\Ab w7 w7 wx))
  case first=>
   have v0:=o0.cell 0;have v3:=o0.cell 3;have v4:=o0.cell 4;have v5:=o0.cell 5;have v6:=o0.cell 6;have v7:=o0.cell 7;have v8:=o0.cell 8;have v9:=o0.cell 9;have x0:=r5.cell 0;have x1:=r5.cell 1;have z8:=p7.cell 8;simp at v0 v3 v4 v5 v6 v7 v8 v9 x0 x1 z8;have z6:H _:=a7 w7 K7.k.b;by_cases hk:y.k=0
   .have u9:(y.k==0)=Aw:=by simpa using hk
    cases he:(S2 p).e with
    | true=>
     have r0:H (f0=Av):=by show f0=Av;rw[k3.out,he];simp
     clear hk;go_wp2_with fail
     go_meet
     exact⟨by rw[r0.out],Az _ _⟩
    | false=>
     have r0:H (f0=vS y.r id f y.p.r y.p.k y.p.n y.p.i y.p.b y.p.m y.p.S):=by show f0=_;rw[k3.out,he,Bf hk];simp
     rw[<-r0.out] at z6;clear hk;go_wp2_with fail
     refine Ax z6.out ?_;rintro e w8 ⟨rfl,b8⟩;have e9:H (Ab w7 w7 w8):=b8;clear b8;go_wp2_with fail
     go_meet
     exact⟨rfl,e9⟩
   .have u9:(y.k==0)=Av:=by simpa using hk
    have r0:H (f0=Av):=by show f0=Av;rw[k3.out,Bh hk];rfl
    clear hk;go_wp2_with fail
    go_meet
    exact⟨by rw[r0.out],Az _ _⟩
  obtain⟨rfl,x4⟩:=hcut.out;clear hcut;have K8:H (MhX p w wc A C D X id f g2 n2 c2 S2 F1 y a9 c9 (S2 p) a6 b0 c0 c6 d0 e0 G6 i2 j2 gs):=K7.below x4;clear x4;have q0:H (Row wc C 31 (syC y (V a9 y.p.m c9))):=K8.k.rc;have u1:H (Row wc X 42 (slC (S2 p) (V a6 (S2 p).p.m c6) (V b0 (S2 p).ze.length d0) (V c0 (S2 p).zr.length e0))):=K8.rx;have v0:=q0.cell 0;have v1:=q0.cell 1;simp at v0 v1;cases f0 with
  | true=>
   have i9:H _:=XJ y.p.r y.p.k y.p.n y.p.i y.p.b a9 y.p.m c9 y.p.S wc (H9.below K8.k.b) HB.m;have v3:=q0.cell 3;have v4:=q0.cell 4;have v5:=q0.cell 5;have v6:=q0.cell 6;have v7:=q0.cell 7;have v8:=q0.cell 8;have v9:=q0.cell 9;simp at v3 v4 v5 v6 v7 v8 v9;go_wp2_with fail
   refine Ax i9.out ?_;rintro e w9 ⟨g',c',rfl,o9,b9⟩;have K9:H (MhX p w w9 A C D X id f g2 n2 c2 S2 F1 y a9 c9 (S2 p) a6 b0 c0 c6 d0 e0 G6 i2 j2 gs):=K8.below b9;have a1:H (Row w9 X 42 (slC (S2 p) (V a6 (S2 p).p.m c6) (V b0 (S2 p).ze.length d0) (V c0 (S2 p).zr.length e0))):=K9.rx;clear v0 v1 v3 v4 v5 v6 v7 v8 v9;have KV:H (Rf w9 (mhG w g2 X A D gs) (txD y.p.m y.p.S) (V g' y.p.m c')):=by
    have l1:=K8.nw.r.lt;have l2:=K8.k.rd.lt;have l3:=K8.rx.lt;have l4:=K8.s.lt;have i3:F1 g2:=by obtain⟨_,_,_,_,e,_,hs,_⟩:=K8.nw.o;cases e;exact hs.head _ rfl
    have l5:=(K8.nw.l1 g2 i3).2;refine Rf.of_ow (xP (F:=fun b=>b=g') o9 (fun b e=>by cases e;rfl)) (fun b e k=>?_);have h1:b=g':=e;have l6:=K8.k.b.size;rcases jW o9 with ⟨e1,_⟩|⟨g1,_,e1,hb,_⟩
    .cases e1
    .cases e1;rcases k with (k|k|k|k)|k <;> omega
   have l9:H (MhO p w w9 A D X g2 gs F1 S2 {S2 p with p:=y.p} (V g' y.p.m c') (V b0 (S2 p).ze.length d0) (V c0 (S2 p).zr.length e0)):=by
    have l1:=K8.nw.r.lt;have l2:=K8.k.rd.lt;have l3:=K8.rx.lt;have l4:=K8.s.lt;have i3:F1 g2:=by obtain⟨_,_,_,_,e,_,hs,_⟩:=K8.nw.o;cases e;exact hs.head _ rfl
    have l5:=(K8.nw.l1 g2 i3).2;have l6:=K8.k.b.size;have bc:wc.1.size<=g':=by
     rcases jW o9 with ⟨e1,_⟩|⟨g1,_,e1,hb,_⟩
     .cases e1
     .cases e1;exact hb
    refine⟨fun b=>b=g',fun _=>False,fun _=>False,.inr ⟨(xP (F:=fun b=>b=g') o9 (fun b e=>by cases e;rfl)).base (by omega),fun b e=>?_⟩,.inl ⟨rfl,K9.out.og.2.1,fun _ k=>k⟩,.inl ⟨rfl,K9.og.2.2.1,fun _ k=>k⟩,fun _ _ k=>k,fun _ _ k=>k,fun _ k=>k.elim⟩;have h1:b=g':=e;refine⟨fun hF=>by have:=(K8.nw.l1 b hF).2;omega,fun k=>?_⟩;rcases k with (k|k|k|k)|k <;> omega
   obtain⟨p8,s2⟩:=nmH (w9.setCells X 1 [y.p.r,y.p.k,y.p.n,y.p.i,y.p.b,V g' y.p.m c']);obtain⟨d4,i4⟩:=nmH ((p8.setCell (Q X 7 I) Aw).setCell (Q X 8 I) Aw);have TH:H (w9.there X 1 6):=a1.there (by simp);have y3:H (Row p8 X 42 (slC {S2 p with p:=y.p} (V g' y.p.m c') (V b0 (S2 p).ze.length d0) (V c0 (S2 p).zr.length e0))):=by show Row _ _ _ _;rw[s2.out];exact jKo a1 y.p _ _
   have n5:H (MhY p w d4 A C D X id f g2 n2 c2 S2 F1 y a9 c9 {S2 p with p:=y.p,h:=Aw,e:=Aw} 0 (syA 1 id y.r) (V gs 0 0) gs):=by
    show MhY _ _ _ _ _ _ _ _ _ _ _ _ _ _ _ _ _ _ _ _ _ _;rw[i4.out,s2.out];exact(K9.y _).got y.p _ _ KV a6 b0 c0 c6 d0 e0 K9.rx (Rf.of_ow K9.e (fun b k=>K9.d b (.inr (.inl k)))) (Rf.of_ow K9.z (fun b k=>K9.d b (.inr (.inr k)))) l9
   have i7:H (Row d4 A 26 #[id,f,V g2 n2 c2]):=n5.nw.r;have l7:H (Row d4 C 31 (syC y (V a9 y.p.m c9))):=n5.k.rc;have q5:H _:=jA9 1 id f (V g2 n2 c2) y.r (zG f) d4 HF (vL HF);have EX:H (mhx Aw S2 p y={S2 p with p:=y.p,h:=Aw,e:=Aw}):=by show mhx _ _ _ _=_;unfold mhx;simp[xH]
   have z7:=y3.cell 7;have z8:=y3.cell 8;have ap:=y3.free 7;have aq:=y3.free 8;simp at z7 z8;have u3:=l7.cell 3;simp at u3;clear o9 b9;go_wp2_with (first|(refine Dd rfl 29 _ _ rfl X 1 #[y.p.r,y.p.k,y.p.n,y.p.i,y.p.b,V g' y.p.m c'] rfl rfl ?_ (by kernel_rfl) (by simp[Aq]) ?_;exact TH;rw[<-s2.out])|(rw[<-i4.out];refine Bg rfl 26 _ rfl A rfl 26 #[id,f,V g2 n2 c2] (0,0) _ ?_ Cg rfl Tryz.infoNd ?_;exact i7))
   refine Ax q5.out ?_;rintro e ai ⟨t5,s5,rfl,k8,s7⟩;have u8:H _:=n5.below s7;have c7:H _:=k8;clear s7 k8 z7 z8 ap aq u3;go_wp2_with (at_builtin;refine(show True->_ from ?_) trivial)
   intro _;refine jAr ai rfl _ _ rfl u8 1 y.r (zG f) t5 s5 _ _ rfl rfl c7.out ?_ ?_ ?_ ?_
   .have:=vL HF;have:=HF.out;omega
   .have:=vL HF;have:=HF.out;omega
   .have:=d5.1;have:=r1.size;omega
   intro g9 m9 be t4;have x8:H _:=t4;clear t4;go_wp2_with fail
   go_meet
   exact⟨zG f,syA 1 id y.r,by rw[EX.out];exact x8,.inl ⟨trivial,rfl,rfl⟩⟩
  | false=>
  by_cases hk1:y.k=1
  .have a5:(y.k==1)=Aw:=by simpa using hk1
   have HK:H (y.k=1):=hk1;have b5:(y.k==2)=Av:=by simp;omega
   have ak:=u1.cell 11;simp at ak;clear hk1;by_cases hf0:0<=y.f
   .have p5:H _:=jGh w b0 d0 (S2 p).ze y.f i2 wc K8.e (by have:=y0.ze;omega) y0.out.se (by omega);have y7:y.f≥0:=hf0;go_wp2_with fail
    refine Ax p5.out ?_;rintro e w9 ⟨a',c',rfl,j3,b9⟩;have K9:H _:=K8.echo (syA 1 id y.r) a' c' _ b9 j3;have a1:H (Row w9 X 42 (slC (S2 p) (V a6 (S2 p).p.m c6) (V b0 (S2 p).ze.length d0) (V c0 (S2 p).zr.length e0))):=u1.below b9 u1.lt;have zx:=a1.cell 11;have zf:=a1.free 11;simp at zx;have EX:H (mhx Av S2 p y={S2 p with ze:=xK (S2 p).ze y.f}):=by show mhx _ _ _ _=_;unfold mhx;simp[HK.out,jCh]
    clear b9 j3;go_wp2_with fail
    go_meet
    exact⟨0,syA 1 id y.r,by rw[EX.out];exact K9,.inr ⟨trivial,rfl⟩⟩
   .have t9:y.f<0:=by omega
    have EX:H (mhx Av S2 p y=S2 p):=by
     have e1:y.f = -1:=by have:=x6.out;omega
     have e2:xK (S2 p).ze y.f=(S2 p).ze:=by unfold xK;rw[A6 (.inl e1)]
     show mhx _ _ _ _=_;unfold mhx;simp[HK.out,jCh,e2]
    go_wp2_with fail
    go_meet
    exact⟨0,syA 1 id y.r,by rw[EX.out];exact K8.y _,.inr ⟨trivial,rfl⟩⟩
  by_cases hk2:y.k=2
  .have a5:(y.k==1)=Av:=by simpa using hk1
   have b5:(y.k==2)=Aw:=by simpa using hk2
   have HK:H (y.k=2):=hk2;have am:=u1.cell 12;simp at am;clear hk1 hk2;by_cases hf0:0<=y.f
   .have p5:H _:=jGh w c0 e0 (S2 p).zr y.f j2 wc K8.z (by have:=y0.zr;omega) y0.out.sr (by omega);have y7:y.f≥0:=hf0;go_wp2_with fail
    refine Ax p5.out ?_;rintro e w9 ⟨a',c',rfl,j3,b9⟩;have K9:H _:=K8.ready (syA 1 id y.r) a' c' _ b9 j3;have a1:H (Row w9 X 42 (slC (S2 p) (V a6 (S2 p).p.m c6) (V b0 (S2 p).ze.length d0) (V c0 (S2 p).zr.length e0))):=u1.below b9 u1.lt;have zx:=a1.cell 12;have zf:=a1.free 12;simp at zx;have EX:H (mhx Av S2 p y={S2 p with zr:=xK (S2 p).zr y.f}):=by show mhx _ _ _ _=_;unfold mhx;simp[HK.out,jEd]
    clear b9 j3;go_wp2_with fail
    go_meet
    exact⟨0,syA 1 id y.r,by rw[EX.out];exact K9,.inr ⟨trivial,rfl⟩⟩
   .have t9:y.f<0:=by omega
    have EX:H (mhx Av S2 p y=S2 p):=by
     have e1:y.f = -1:=by have:=x6.out;omega
     have e2:xK (S2 p).zr y.f=(S2 p).zr:=by unfold xK;rw[A6 (.inl e1)]
     show mhx _ _ _ _=_;unfold mhx;simp[HK.out,jEd,e2]
    go_wp2_with fail
    go_meet
    exact⟨0,syA 1 id y.r,by rw[EX.out];exact K8.y _,.inr ⟨trivial,rfl⟩⟩
  .have a5:(y.k==1)=Av:=by simpa using hk1
   have b5:(y.k==2)=Av:=by simpa using hk2
   have EX:H (mhx Av S2 p y=S2 p):=by show mhx _ _ _ _=_;unfold mhx;simp[hk1,hk2]
   clear hk1 hk2;go_wp2_with fail
   go_meet
   exact⟨0,syA 1 id y.r,by rw[EX.out];exact K8.y _,.inr ⟨trivial,rfl⟩⟩
 obtain⟨m3,Y3,hY,d6⟩:=hcut.out;clear hcut K7 o0 r5 p7 a7;obtain⟨z1,e8⟩:∃ x,x=wc:=⟨_,rfl⟩;subst e8;obtain⟨xs,r3⟩:=nmH (mhx f0 S2 p y);rw[<-r3.out] at hY;have KY:H (MhY p w z1 A C D X id f g2 n2 c2 S2 F1 y a9 c9 xs m3 Y3 u6 gs):=hY;have av:H (xs.ze.length<=1048576/\xs.zr.length<=1048576):=by show _/\_;rw[r3.out];exact jPn y0
 have o3:H (SlT f (S2 p)/\(S2 p).r=y.r):=by show _/\_;rw[n3.out,k2.out];exact jGk q6
 have f2:H (f0=mhB id f S2 p y):=k3.out;obtain⟨a0,g0⟩:=nmH (mhR f xs);have n6:H (mhR f (mhx (mhB id f S2 p y) S2 p y)=a0):=by show _=_;rw[<-f2.out,<-r3.out,g0.out]
 obtain⟨ux,p3⟩:=nmH (mhU f xs);obtain⟨vx,i5⟩:=nmH (mhV f ux);have s3:H (a0=Aw->m3=0/\hvM id f S2 p y=zG f/\hvY id S2 p y=syA 2 id y.r):=fun e=>by
  obtain⟨e1,e2,e3⟩:=jJr HF.1 m5 o3.1 (n6.trans e);rw[o3.out.2] at e3;rcases d6 with k|k
  .exact Bo (k.1.symm.trans (f2.trans e1)) (by simp)
  .exact⟨k.2,e2,e3⟩
 have s6:H (a0=Av->hvM id f S2 p y=m3/\(m3=0\/hvY id S2 p y=Y3)):=fun e=>by
  rcases d6 with k|k
  .obtain⟨e1,e2⟩:=jMe (id:=id) (f:=f) (S:=S2) (p:=p) (y:=y) (f2.symm.trans k.1);rw[o3.out.2] at e2;exact⟨e1.trans k.2.1.symm,.inr (e2.trans k.2.2.symm)⟩
  .exact⟨(jMf HF.1 m5 (f2.symm.trans k.1) (n6.trans e)).trans k.2.symm,.inl k.2⟩
 have r6:H ((fun i=>if i=p then vx else S2 i)=hvS id f S2 p y):=by
  show _=_;rw[i5.out,p3.out,r3.out,f2.out];exact jJs HF.1 m5 o3.1
 have aw:H (ux.ze.length=xs.ze.length/\ux.zr.length=xs.zr.length):=by
  show _/\_;rw[p3.out];unfold mhU;split <;> exact⟨rfl,rfl⟩
 have r8:H (a0=Av->ux=xs):=fun e=>by rw[p3.out];unfold mhU;rw[<-g0.out,e];rfl
 have s8:H (a0=Aw->ux={xs with d:=Aw}):=fun e=>by rw[p3.out];unfold mhU;rw[<-g0.out,e];rfl
 clear hY d6;obtain⟨i6,h0,i0,j6,j0,k0,z0,_,_,_⟩:=KY.rx;have m0:H (Row z1 X 42 (slC xs (V i6 xs.p.m j6) (V h0 xs.ze.length j0) (V i0 xs.zr.length k0))):=z0;have r4:H (Row z1 A 26 #[id,f,V g2 n2 c2]):=KY.nw.r;clear z0;obtain⟨q2,m2⟩:∃ q:Int,H (2*f+1=q):=⟨_,rfl⟩;obtain⟨q3,g5⟩:∃ q:Int,H (f+1=q):=⟨_,rfl⟩;have p9:IntKind.i64.wrap (2*f)=2*f:=by have:=HF.out;rw[A8];omega
 have q9:IntKind.i64.wrap (2*f+1)=q2:=by have:=HF.out;have:=m2.out;rw[A8];omega
 have n9:IntKind.i64.wrap (f+1)=q3:=by have:=HF.out;have:=g5.out;rw[A8];omega
 go_upto_region 18 with fail
 go_cut [155] from 134 to 155 (fun v wx=>H (v=.bool a0/\wx=z1))
 case first=>
  have z9:=m0.cell 9;have ao:=m0.cell 11;have g6:=m0.cell 12;have y1:=r4.cell 1;simp at z9 ao g6 y1;cases hd:xs.d with
  | true=>
   rw[hd] at z9;have HB:H (a0=Av):=by show a0=Av;rw[g0.out];unfold mhR;rw[hd];rfl
   clear hd;go_wp2_with fail
   go_meet
   exact⟨by rw[HB.out],rfl⟩
  | false=>
   rw[hd] at z9;by_cases t1:q2<=(xs.ze.length:Int)
   .have HB:H (a0=Aw):=by show a0=Aw;rw[g0.out];unfold mhR;rw[hd,m2.out,Bf t1];rfl
    clear hd;go_wp2_with fail
    go_meet
    exact⟨by rw[HB.out],rfl⟩
   by_cases t2:q3<=(xs.zr.length:Int)
   .have HB:H (a0=Aw):=by show a0=Aw;rw[g0.out];unfold mhR;rw[hd,g5.out,Bf t2];simp
    clear hd;go_wp2_with fail
    go_meet
    exact⟨by rw[HB.out],rfl⟩
   .have HB:H (a0=Av):=by show a0=Av;rw[g0.out];unfold mhR;rw[hd,m2.out,g5.out,Bh t1,Bh t2];rfl
    clear hd;go_wp2_with fail
    go_meet
    exact⟨by rw[HB.out],rfl⟩
 obtain⟨rfl,c1⟩:=hcut.out;obtain rfl:=c1.symm;clear hcut c1;go_upto_if 155 with fail
 go_cut [6] from 156 to 162 (fun v wx=>H (∃ m Y,MhY p w wx A C D X id f g2 n2 c2 S2 F1 y a9 c9 ux m Y v gs/\hvM id f S2 p y=m/\(m=0\/hvY id S2 p y=Y)))
 case first=>
  cases a0 with
  | false=>
   have KZ:H (MhY p w z1 A C D X id f g2 n2 c2 S2 F1 y a9 c9 ux m3 Y3 u6 gs):=by
    have:=KY.out
    rw[<-r8.out rfl] at this;exact this
   go_wp2_with fail
   go_meet
   exact⟨m3,Y3,KZ,s6 trivial⟩
  | true=>
   obtain rfl:=(s3 rfl).1;obtain rfl:=KY.so rfl;obtain⟨e4,j4⟩:=nmH (z1.setCell (Q X 9 I) Aw);have o5:H (MhY p w e4 A C D X id f g2 n2 c2 S2 F1 y a9 c9 ux 0 Y3 (V gs 0 0) gs):=by
    show MhY _ _ _ _ _ _ _ _ _ _ _ _ _ _ _ _ _ _ _ _ _ _;rw[j4.out,s8.out rfl];exact KY.readied
   have j7:H (Row e4 A 26 #[id,f,V g2 n2 c2]):=o5.nw.r;have m7:H (Row e4 C 31 (syC y (V a9 y.p.m c9))):=o5.k.rc;have q5:H _:=jA9 2 id f (V g2 n2 c2) y.r (zG f) e4 HF (vL HF);have z9:=m0.cell 9;have ar:=m0.free 9;simp at z9;have u3:=m7.cell 3;simp at u3;go_wp2_with (rw[<-j4.out];refine Bg rfl 26 _ rfl A rfl 26 #[id,f,V g2 n2 c2] (0,0) _ ?_ Cg rfl Tryz.infoNd ?_;exact j7)
   refine Ax q5.out ?_;rintro e aj ⟨t5,s5,rfl,l8,t7⟩;have y8:H _:=o5.below t7;have d7:H _:=l8;clear t7 l8 z9 ar u3;go_wp2_with (at_builtin;refine(show True->_ from ?_) trivial)
   intro _;refine jAr aj rfl _ _ rfl y8 2 y.r (zG f) t5 s5 _ _ rfl rfl d7.out ?_ ?_ ?_ ?_
   .have:=vL HF;have:=HF.out;omega
   .have:=vL HF;have:=HF.out;omega
   .have:=d5.1;have:=r1.size;omega
   intro g9 m9 bf u4;have d9:H _:=u4;clear u4;go_wp2_with fail
   go_meet
   exact⟨zG f,syA 2 id y.r,d9,(s3 trivial).2.1,.inr (s3 trivial).2.2⟩
 obtain⟨m4,Y4,hY,x7⟩:=hcut.out;have m6:H (hvM id f S2 p y=m4/\(m4=0\/hvY id S2 p y=Y4)):=x7;obtain⟨a2,f8⟩:∃ x,x=wc:=⟨_,rfl⟩;subst f8;have a3:H (MhY p w a2 A C D X id f g2 n2 c2 S2 F1 y a9 c9 ux m4 Y4 u6 gs):=hY;clear hcut x7 hY KY m0 r4 s6 s3;obtain⟨i6,h0,i0,j6,j0,k0,z0,_,_,_⟩:=a3.rx;have k1:H (Row a2 X 42 (slC ux (V i6 ux.p.m j6) (V h0 ux.ze.length j0) (V i0 ux.zr.length k0))):=z0;have s4:H (Row a2 A 26 #[id,f,V g2 n2 c2]):=a3.nw.r;clear z0;obtain⟨n0,i1⟩:=nmH (decide (2*f+1<=(ux.zr.length:Int)));go_upto_region 21 with fail
 go_cut [170] from 163 to 170 (fun v wx=>H (v=.bool n0/\wx=a2))
 case first=>
  have g6:=k1.cell 12;have y1:=s4.cell 1;simp at g6 y1;by_cases t2:q2<=(ux.zr.length:Int)
  .have HB:H (n0=Aw):=by show n0=Aw;rw[i1.out,m2.out,Bf t2]
   go_wp2_with fail
   go_meet
   exact⟨by rw[HB.out],rfl⟩
  .have HB:H (n0=Av):=by show n0=Av;rw[i1.out,m2.out,Bh t2]
   go_wp2_with fail
   go_meet
   exact⟨by rw[HB.out],rfl⟩
 obtain⟨rfl,c1⟩:=hcut.out;obtain rfl:=c1.symm;clear hcut c1 p9 q9 n9;go_upto_if 170 with fail
 go_cut [] from 171 to 171 (fun wx=>H (MhY p w wx A C D X id f g2 n2 c2 S2 F1 y a9 c9 vx m4 Y4 u6 gs))
 case first=>
  cases n0 with
  | false=>
   have KZ:H (MhY p w a2 A C D X id f g2 n2 c2 S2 F1 y a9 c9 vx m4 Y4 u6 gs):=by
    have e1:vx=ux:=by rw[i5.out];unfold mhV;rw[A5 (Gb i1.out.symm)]
    show MhY _ _ _ _ _ _ _ _ _ _ _ _ _ _ _ _ _ _ _ _ _ _;rw[e1];exact a3
   go_wp2_with fail
   go_meet
   exact KZ
  | true=>
   have KZ:H (MhY p w (a2.setCell (Q X 10 I) Aw) A C D X id f g2 n2 c2 S2 F1 y a9 c9 vx m4 Y4 u6 gs):=by
    have e1:vx={ux with o:=Aw}:=by rw[i5.out];unfold mhV;rw[A6 (Do i1.out.symm)]
    show MhY _ _ _ _ _ _ _ _ _ _ _ _ _ _ _ _ _ _ _ _ _ _;rw[e1];exact a3.done
   have an:=k1.cell 10;have au:=k1.free 10;simp at an;go_wp2_with fail
   go_meet
   exact KZ
 have o4:=hcut.out;obtain⟨f4,h8⟩:∃ x,x=wc:=⟨_,rfl⟩;subst h8;have t3:H (MhY p w f4 A C D X id f g2 n2 c2 S2 F1 y a9 c9 vx m4 Y4 u6 gs):=o4;clear hcut o4 a3 k1 s4;obtain⟨i6,h0,i0,j6,j0,k0,z0,V6,q7,r7,VO⟩:=t3.rx;have o7:H (Row f4 X 42 (slC vx (V i6 vx.p.m j6) (V h0 vx.ze.length j0) (V i0 vx.zr.length k0))):=z0;obtain⟨g4,k4⟩:=nmH (f4.setCells g2 (p*13) (slL vx (V i6 vx.p.m j6) (V h0 vx.ze.length j0) (V i0 vx.zr.length k0)));obtain⟨f6,n4⟩:=nmH (g4.setRow D #[id,f,V g2 n2 c2]);have u0:H _:=t3.fin j9 HL.2.2.1 e6 i6 h0 i0 j6 j0 k0 V6 q7 r7 VO g4 f6 k4 n4;have TH:H (f4.there g2 (p*13) 13):=t3.nw.there e6;have k7:H (Row g4 A 26 #[id,f,V g2 n2 c2]):=u0.ra;have n7:H (Row g4 D 26 #[(),(),V I 0 0]):=u0.rd;have g3:H (Row f6 D 26 #[id,f,V g2 n2 c2]):=u0.rd2;obtain⟨sa,sc,x9⟩:∃ sa sc,u6=V sa m4 sc:=by
  obtain⟨a,c,e,_⟩:=u0.s.rd;exact⟨a,c,e⟩
 subst x9;have KF:H (NhR w f6 id f (hrN S y.r n) (hvS id f (slF S y.r n) (plN S y.r n) y) (hvM id f (slF S y.r n) (plN S y.r n) y) (hvY id (slF S y.r n) (plN S y.r n) y) (Ae (Ah #[ndV id f (V g2 n2 c2),V sa m4 sc]))):=by
  show NhR _ _ _ _ _ _ _ _ _;rw[<-n3.out,<-k2.out,<-e5.out,m6.out.1];refine⟨_,_,_,_,rfl,?_,?_,u0.b,by rw[<-r6.out];exact u0.o⟩
  .rw[<-r6.out];exact u0.l
  .rcases m6.out.2 with k|k
   .subst k;exact fun W' _ _=>⟨sa,sc,rfl,fun i hi=>Bo hi (Bk i)⟩
   .rw[k];exact u0.s
 have y2:=t3.nw.r.cell 2;simp at y2;clear z0 V6 q7 r7;go_wp2_with (first|(refine Bg rfl 42 _ rfl X rfl 42 (slC vx (V i6 vx.p.m j6) (V h0 vx.ze.length j0) (V i0 vx.zr.length k0)) (0,0) _ ?_ C5 rfl Tryz.infoSl ?_;exact o7)|(refine Dd rfl 42 _ _ rfl g2 (p*13) (slC vx (V i6 vx.p.m j6) (V h0 vx.ze.length j0) (V i0 vx.zr.length k0)) rfl rfl ?_ Tryz.infoSl (by simp[Aq]) ?_;exact TH;rw[show (slC vx (V i6 vx.p.m j6) (V h0 vx.ze.length j0) (V i0 vx.zr.length k0)).toList=slL vx (V i6 vx.p.m j6) (V h0 vx.ze.length j0) (V i0 vx.zr.length k0) from rfl,<-k4.out])|(refine Bg rfl 26 _ rfl A rfl 26 #[id,f,V g2 n2 c2] (0,0) _ ?_ Cg rfl Tryz.infoNd ?_;exact k7)|(refine Ca rfl 26 _ _ rfl D #[id,f,V g2 n2 c2] rfl rfl 26 #[(),(),V I 0 0] ?_ Tryz.infoNd rfl (by simp[Aq]) ?_;exact n7;rw[<-n4.out]))
 refine B7 (v:=Ah #[ndV id f (V g2 n2 c2),V sa m4 sc]) (by
  have p0:=g3.cell 0;have p1:=g3.cell 1;have p2:=g3.cell 2;simp at p0 p1 p2;simp[results,results10,go_sem,p0,p1,p2]) rfl KF
end Go.Proofs.YtcaejlalnjnifaaGreat
namespace Go.Proofs.YtcaejlalnjnifaaGreat
theorem jA1 {n:Nat} {S:Nat->Sl} {r:BA} (hn:n<=40):(n<40\/0<=plX S r n)↔plN S r n<40:=by
 unfold plX plN;cases e:plc S r n with
 | none=>simp
 | some x=>
  obtain⟨_,h,_,_⟩:=xA e;have hx:x<40:=by omega
  exact⟨fun _=>hx,fun _=>.inr (Int.natCast_nonneg x)⟩
theorem jB3 (id f:Int) (a:OA) (n cap:Nat) (S:Nat->Sl) (y:Sy) (a9:OA) (c9:Nat) (w:Ad) (hT:Rd w (qG n S) (V a n cap)) (h9:jK w a9 y.p.m y.p.S) (hB:NhB n S y):Ak prog 10 #[ndV id f (V a n cap),syV y (V a9 y.p.m c9)] w fun e w'=>NhR w w' id f (nhN id f n S y) (nhS id f n S y) (nhM id f n S y) (nhY id f n S y) e:=by
 cases e1:ndB id f n S with
 | false=>
  have hb:nhB id f n S y=Av:=by unfold nhB;rw[e1];rfl
  simp only[nhN,nhS,nhM,nhY,hb];exact vB id f a n cap S y a9 c9 w hT hB (.inl e1)
 | true=>
  have hP:=jDg e1;have hf:=XZ hP.1;cases e2:vK id f n S y with
  | false=>
   have hM:¬ jG3 id f n S y:=fun k=>by
    have:vK id f n S y=Aw:=by unfold vK;exact @Bf _ (Classical.propDecidable _) k
    rw[this] at e2;cases e2
   have hb:nhB id f n S y=Av:=by unfold nhB;rw[e1,e2];rfl
   simp only[nhN,nhS,nhM,nhY,hb];by_cases h2:y.t=id
   case neg=>exact vB id f a n cap S y a9 c9 w hT hB (.inr ⟨hf,e1,.inl h2⟩)
   by_cases h3:-1<=y.f/\y.f<=3*f
   case neg=>exact vB id f a n cap S y a9 c9 w hT hB (.inr ⟨hf,e1,.inr ⟨h2,.inl h3⟩⟩)
   by_cases h4:0<=y.k/\y.k<=2
   case neg=>exact vB id f a n cap S y a9 c9 w hT hB (.inr ⟨hf,e1,.inr ⟨h2,.inr ⟨h3,.inl h4⟩⟩⟩)
   by_cases h5:y.r.size=16
   case neg=>exact vB id f a n cap S y a9 c9 w hT hB (.inr ⟨hf,e1,.inr ⟨h2,.inr ⟨h3,.inr ⟨h4,.inl h5⟩⟩⟩⟩)
   by_cases h6:40<=plN S y.r n
   case pos=>exact vB id f a n cap S y a9 c9 w hT hB (.inr ⟨hf,e1,.inr ⟨h2,.inr ⟨h3,.inr ⟨h4,.inr ⟨h5,h6⟩⟩⟩⟩⟩)
   exact Bo ⟨h2,by omega,h4,h5,(jA1 hP.2.1).2 (by omega)⟩ hM
  | true=>
   have hM:=QO e2;have hb:nhB id f n S y=Aw:=by unfold nhB;rw[e1,e2];rfl
   simp only[nhN,nhS,nhM,nhY,hb,C0];exact jB4 id f a n cap S y a9 c9 w hT hB e1 hf hM.1 (by have:=hM.2.1;omega) hM.2.2.1 hM.2.2.2.1 ((jA1 hP.2.1).1 hM.2.2.2.2) h9
end Go.Proofs.YtcaejlalnjnifaaGreat
