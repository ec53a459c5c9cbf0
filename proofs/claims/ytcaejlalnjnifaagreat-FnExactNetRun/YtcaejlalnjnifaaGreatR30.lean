import Derived.Test.YtcaejlalnjnifaaGreatR26
set_option maxHeartbeats 8000000
set_option maxRecDepth 2000
open Go.Value renaming slice->V,pointer->Af,tuple->Ah,agg->Ai,int->Ao,oneCell'->Aq
open Option renaming none->I,some->M
open Go.RowKit renaming Hid->H,Below->Ab
open Go.Addr renaming mk->Q
open Go.Obj renaming cells->J
open Go renaming World->Ad,Calls->Ak,maxLen->Au
open Go.Ending renaming returned->Ae
open Go.IntKind renaming i64->Ar
open Bool renaming false->Av,true->Aw
open Go.Proofs.Tryz
open Go.ChangeShapes Go.WideShapes Go.ChangeAt Go.RowKit
namespace Go.Proofs.YtcaejlalnjnifaaGreat
section
open Go.ChangeShapes Go.WideShapes Go.ChangeAt Go.RowKit Go.Sort
theorem jB8 (id f:Int) (a:OA) (n cap:Nat) (S:Nat->Sl) (y:Sy) (a9:OA) (c9:Nat) (w:Ad) (hT:Rd w (qH n S) (V a n cap)) (hB:NhB n S y) (j1:ndB id f n S=Aw) (hf:1<=f/\f<=3) (h2:y.t=id) (h3:-1<=y.f/\y.f<=3*f) (h4:0<=y.k/\y.k<=2) (h5:y.r.size=16) (h6:plN S y.r n<40) (h9:jL w a9 y.p.m y.p.S):Ak prog 10 #[ndV id f (V a n cap),syV y (V a9 y.p.m c9)] w fun e w'=>NhR w w' id f (hrN S y.r n) (hvS id f (slF S y.r n) (plN S y.r n) y) (hvM id f (slF S y.r n) (plN S y.r n) y) (hvY id (slF S y.r n) (plN S y.r n) y) e:=by
 obtain⟨A,HA⟩:=nmH w.1.size;obtain⟨C,HC⟩:=nmH (w.1.size+1);obtain⟨D,HD⟩:=nmH (w.1.size+1+1);obtain⟨w0,k2⟩:=nmH (((w.alloc (J #[id,f,V a n cap] 26)).alloc (J (syC y (V a9 y.p.m c9)) 31)).alloc (J #[(),(),V I 0 0] 26));have RA:=zS k2 HA;have RC:=xV k2 HC;have RD:=zE k2 HD;have u5:=bl3 k2;have n1:H (Ab w w w0):=u5;have HL:H (w.1.size<=A/\w.1.size<=C/\w.1.size<=D/\A<w0/\C<w0/\D<w0):=⟨by have:=HA.out;omega,by have:=HC.out;omega,by have:=HD.out;omega,RA.out.lt,RC.out.lt,RD.out.lt⟩;have p3:H (A≠C/\A≠D/\C≠D):=⟨by have:=HA.out;have:=HC.out;omega,by have:=HA.out;have:=HD.out;omega,by have:=HC.out;have:=HD.out;omega⟩;have r6:H _:=XM id f a n cap S w0 (hT.below u5) hB.kn (fun i hi=>(hB.k i hi).s);have HB:H (NhB n S y):=hB;have g6:H (ndB id f n S=Aw):=j1;have HF:H (1<=f/\f<=3):=hf;obtain⟨q,HQ⟩:∃ q:Int,H (3*f+1=q):=⟨_,rfl⟩;obtain⟨q1,z4⟩:∃ q1:Int,H (3*f=q1):=⟨_,rfl⟩;have s9:IntKind.i64.wrap (q-1)=q1:=by have:=HQ.out;have:=z4.out;rw[A8];omega
 have H3:H (inB y.f (-1) q1=Aw):=by have:=z4.out;show inB _ _ _=Aw;unfold inB;exact Bf (by omega)
 have H4:H (inB y.k 0 2=Aw):=by show inB _ _ _=Aw;unfold inB;exact Bf (by omega)
 have r8:H (plN S y.r n<40):=h6;have q6:H (-1<=y.f/\y.f<=3*f):=h3;have f5:H (0<=y.k/\y.k<=2):=h4;have az:H (y.r.size=16):=h5;have H9:H (jL w a9 y.p.m y.p.S):=h9;have l9:H (HvK (slF S y.r n) (plN S y.r n) y):=jJp hB (jDk j1);have m6:H (NdP id f n S):=jDk j1;clear h9;obtain⟨x7,c1⟩:=nmH (decide (plN S y.r n=n));clear h3 h4 h6;clear hT hB u5 j1 hf;go_enter func10,ntmps10
 go_wp2_with (rw[<-k2.out,<-HD.out,<-HC.out,<-HA.out];refine Bb rfl 26 _ rfl A rfl 26 #[id,f,V a n cap] (0,0) _ ?_ Ch rfl Tryz.infoNd ?_;exact RA)
 refine Ax r6.out ?_;rintro e w1 ⟨g,c,rfl,O1,b1⟩;obtain⟨w2,o0⟩:=nmH (w1.setRow A #[id,f,V (Q g 0 I) n c]);obtain⟨gs,k1⟩:=nmH w2.1.size;obtain⟨w3,r2⟩:=nmH (w2.alloc (J #[] 31));have R1:H (Row w1 A 26 #[id,f,V a n cap]):=RA.below b1 RA.lt;have K3:H (MhA w w0 w3 A C D id f g n c S y a9 c9 gs):=by
  have b3:Ab w2 w2 w3:=by rw[r2.out];exact(Az _ _).alloc (Ay _) _
  have e2:w2.1.size=w1.1.size:=by rw[o0.out];simp
  have l:=HL.out;have s1:=b1.size;have o8:Row w2 A 26 #[id,f,V (Q g 0 I) n c]:=by rw[o0.out];exact R1.row
  have p8:Row w2 C 31 (syC y (V a9 y.p.m c9)):=by rw[o0.out];exact(RC.below b1 RC.lt).otherRow (fun e=>p3.1 e.symm)
  have rd2:Row w2 D 26 #[(),(),V I 0 0]:=by rw[o0.out];exact(RD.below b1 RD.lt).otherRow (fun e=>p3.2.1 e.symm)
  have o2:Ow w2 w0 (qH n S) (V (Q g 0 I) n c) (rng w0 w1.1.size):=by
   rw[o0.out];exact O1.frame fun x hx _=>Cd _ _ _ _ (fun e=>by have h1:w0.1.size<=x:=hx.1;omega)
  have b2:Ab w w w2:=by rw[o0.out];exact jF (jA n1 b1) l.1 _
  refine⟨o8.below b3 o8.lt,p8.below b3 p8.lt,rd2.below b3 rd2.lt,(o2.below b3).mono (fun x hx=>⟨hx.1,?_⟩),jA b2 b3,?_,?_,?_⟩
  .have h1:x<w1.1.size:=hx.2;rw[k1.out];omega
  .rw[r2.out,k1.out];exact Row.new w2 _ _
  .rw[k1.out];omega
  .rw[k1.out];have:=b3.size
   rw[r2.out];simp
 have i4:H (Row w3 A 26 #[id,f,V (Q g 0 I) n c]):=K3.ra;have j4:H (Row w3 C 31 (syC y (V a9 y.p.m c9))):=K3.rc;have a7:H _:=jBa id f (Q g 0 I) n c S y.r w3 K3.o.rd HB.kn;have u3:=j4.cell 3;simp at u3;clear O1 b1;go_wp2_with (first|(refine Bw rfl 26 _ _ rfl A #[id,f,V (M ⟨g,0,I⟩) n c] rfl rfl 26 #[id,f,V a n cap] ?_ Tryz.infoNd rfl (by simp[Aq]) ?_;exact R1;rw[<-o0.out])|(rw[<-r2.out,<-k1.out];refine Bb rfl 26 _ rfl A rfl 26 #[id,f,V (M ⟨g,0,I⟩) n c] (0,0) _ ?_ Ch rfl Tryz.infoNd ?_;exact i4))
 refine CM a7.out fun w4 b4=>?_
 have K4:H (MhA w w0 w4 A C D id f g n c S y a9 c9 gs):=K3.below b4;obtain⟨pl,m1⟩:∃ x:Int,H (x=((plN S y.r n:Nat):Int)):=⟨_,rfl⟩;rw[<-m1.out];have h7:H (Row w4 A 26 #[id,f,V (Q g 0 I) n c]):=K4.ra;have m7:H (Row w4 C 31 (syC y (V a9 y.p.m c9))):=K4.rc;have t6:¬ 40<=pl:=by have:=r8.out;have:=m1.out;omega
 clear u3 b4 a7 r6 K3 i4 j4 R1 r2 o0 k1;obtain⟨x0,x1,x2⟩:=h7.c3 0 1 2;obtain⟨v0,v1,v2,v3⟩:=m7.c4 0 1 2 3;simp at x0 x1 x2 v0 v1 v2 v3;have X0:∀ d os,(grow (redrawn w4 d) os).cell? (Q A 0 I)=_:=fun d os=>cell_regrown x0 d os
 have X1:∀ d os,(grow (redrawn w4 d) os).cell? (Q A 1 I)=_:=fun d os=>cell_regrown x1 d os
 have X2:∀ d os,(grow (redrawn w4 d) os).cell? (Q A 2 I)=_:=fun d os=>cell_regrown x2 d os
 have V0:∀ d os,(grow (redrawn w4 d) os).cell? (Q C 0 I)=_:=fun d os=>cell_regrown v0 d os
 have V1:∀ d os,(grow (redrawn w4 d) os).cell? (Q C 1 I)=_:=fun d os=>cell_regrown v1 d os
 have V2:∀ d os,(grow (redrawn w4 d) os).cell? (Q C 2 I)=_:=fun d os=>cell_regrown v2 d os
 have V3:∀ d os,(grow (redrawn w4 d) os).cell? (Q C 3 I)=_:=fun d os=>cell_regrown v3 d os
 have N1:∀ d os,Ak prog 14 #[Ai #[id,f,V (Q g 0 I) n c]] (grow (redrawn w4 d) os) fun e w'=>e=Ae Aw/\∃ p:Regrown,w'=grow (redrawn w4 p.d) p.os:=fun d os=>Calls.regrown_of (by have:=QE id f (Q g 0 I) n c S (grow (redrawn w4 d) os) (K4.o.rd.below (below_regrown w4 d os)) HB.kn (fun i hi=>(HB.k i hi).ok);rw[g6.out] at this;exact this)
 have N2:∀ d os,Ak prog 50 #[f] (grow (redrawn w4 d) os) fun e w'=>e=Ae (Ao Ar q)/\∃ p:Regrown,w'=grow (redrawn w4 p.d) p.os:=fun d os=>Calls.regrown_of ((vR f _ HF).mono fun e w' h=>⟨by rw[h.1,HQ.out],by rw[h.2];exact Az _ _⟩)
 have d7:∀ d os,Ak prog 43 #[y.f,(-1:Int),q1] (grow (redrawn w4 d) os) fun e w'=>e=Ae Aw/\∃ p:Regrown,w'=grow (redrawn w4 p.d) p.os:=fun d os=>Calls.regrown_of ((jN y.f (-1) q1 _).mono fun e w' h=>⟨by rw[h.1,H3.out],by rw[h.2];exact Az _ _⟩)
 have N4:∀ d os,Ak prog 43 #[y.k,(),(2:Int)] (grow (redrawn w4 d) os) fun e w'=>e=Ae Aw/\∃ p:Regrown,w'=grow (redrawn w4 p.d) p.os:=fun d os=>Calls.regrown_of ((jN y.k 0 2 _).mono fun e w' h=>⟨by rw[h.1,H4.out],by rw[h.2];exact Az _ _⟩)
 clear g6;go_wp2_with fail
 refine wp_region_quiet_below (by kernel_rfl) (by kernel_rfl) ?_;repeat (go_big_quiet_step (first|(with_reducible exact N1 _ _)|(with_reducible exact N2 _ _)|(with_reducible exact d7 _ _)|(with_reducible exact N4 _ _)))
 refine Ct ?_;intro _ aa;obtain⟨⟨dq,n8⟩,e8⟩:=aa;obtain⟨w5,d5⟩:=nmH (grow (redrawn w4 dq) n8);subst e8;have K5:H (Nw w5 w A id f g n c S (rng w0 gs)/\MhC w w5 C D y a9 c9/\Row w5 gs 31 #[]):=by
  have k:=K4.below (below_regrown w4 dq n8);rw[<-d5.out] at k;have l:=HL.out;refine⟨⟨k.ra,k.o.base n1.size,fun h=>?_,⟨l.1,?_⟩,fun x h=>⟨?_,?_⟩⟩,⟨k.rc,k.rd,k.b⟩,k.s⟩
  .have h1:w0.1.size<=A:=h.1;omega
  .have:=k.ra.lt;omega
  .have h1:w0.1.size<=x:=h.1;have:=n1.size
   omega
  .have h1:x<gs:=h.2;have:=k.l2
   omega
 have y2:=K5.1.r.cell 2;simp at y2;have x4:H (w0.1.size<=gs/\A<w0):=⟨K4.l1,HL.2.2.2.1⟩;clear x0 x1 x2 v0 v1 v2 v3 X0 X1 X2 V0 V1 V2 V3 K4 h7 m7 N1 N2 d7 N4 s9 H3 H4 HQ z4;rw[<-d5.out];clear d5;have ai:(pl==(n:Int))=x7:=by
  rw[c1.out];have:=m1.out
  by_cases e:plN S y.r n=n
  .rw[Bf e];simp;omega
  .rw[Bg e];simp;omega
 clear h5;go_upto_if 58 with fail
 clear t6;go_cut [] from 54 to 66 (fun wx=>H (∃ g c F1,Nw wx w A id f g (hrN S y.r n) c (slF S y.r n) F1/\MhC w wx C D y a9 c9/\Row wx gs 31 #[]/\¬ F1 D/\¬ F1 gs))
 case first=>
  cases x7 with
  | false=>
   have KZ:H (Nw w5 w A id f g (hrN S y.r n) c (slF S y.r n) (rng w0 gs)):=by
    have z0:plN S y.r n≠n:=Ga c1.symm;have en:hrN S y.r n=n:=by
     unfold hrN;unfold plN at z0;cases e:plc S y.r n with
     | none=>rw[e] at z0;exact Bo rfl z0
     | some x=>simp
    show Nw _ _ _ _ _ _ _ _ _ _;rw[en];exact⟨K5.1.r,K5.1.o.congr (fun i q hi _=>by show _=slD (slF S y.r n i) q;unfold slF;rw[A5 (by omega)]),K5.out.1.h1,K5.out.1.b,K5.out.1.l1⟩
   go_wp2_with fail
   go_meet
   exact⟨g,c,rng w0 gs,KZ,K5.2.1,K5.2.2,fun k=>by have h1:w0.1.size<=D:=k.1;have:=HL.2.2.2.2.2;omega,fun k=>by have h1:gs<gs:=k.2;omega⟩
  | true=>
   have HN:H (hrN S y.r n=n+1/\n<=1048576):=by
    have z0:plN S y.r n=n:=Dn c1.symm;refine⟨?_,HB.kn⟩;unfold hrN;cases e:plc S y.r n with
    | none=>simp
    | some x=>
     obtain⟨_,hx,_,_⟩:=xC e;unfold plN at z0;rw[e] at z0;simp at z0;omega
   have i9:H (Row w5 C 31 (syC y (V a9 y.p.m c9))):=K5.2.1.rc;have v3:=i9.cell 3;simp at v3;obtain⟨w6,ay⟩:=nmH (w5.alloc (J (jCb y.r) 42));have K6:H (Nw (w5.alloc (J (jCb y.r) 42)) w A id f g n c S (rng w0 gs)):=K5.1.below ((Az _ _).alloc (Ay _) _);go_wp2_with (at_builtin;refine(show True->_ from ?_) trivial)
   intro _;refine jFs w5 rfl _ _ rfl id f w A g n c S y.r (rng w0 gs) rfl rfl ?_ ?_ ?_
   .exact K6
   .have:=HN.2;omega
   intro g8 c8 w8 F8 r3;have KZ:H (∃ g c F1,Nw (w8.setCell (Q A 2 I) (V g8 (n+1) c8)) w A id f g (hrN S y.r n) c (slF S y.r n) F1/\MhC w (w8.setCell (Q A 2 I) (V g8 (n+1) c8)) C D y a9 c9/\Row (w8.setCell (Q A 2 I) (V g8 (n+1) c8)) gs 31 #[]/\¬ F1 D/\¬ F1 gs):=by
    obtain⟨_,q,b8,t8,d8⟩:=r3;have b6:Ab w5 w5 (w5.alloc (J (jCb y.r) 42)):=(Az _ _).alloc (Ay _) _;have k6:=K5.2.1.below b6;have l:=HL.out;have s0:=n1.size;have lc:=K5.2.1.rc.lt;have ld:=K5.2.1.rd.lt;have ac:Row w8 C 31 (syC y (V a9 y.p.m c9)):=(t8 C (by omega) (fun k=>by have h1:w0.1.size<=C:=k.1;omega)).trans k6.rc;have ae:Row w8 D 26 #[(),(),V I 0 0]:=(t8 D (by omega) (fun k=>by have h1:w0.1.size<=D:=k.1;omega)).trans k6.rd;refine⟨g8,c8,F8,?_,⟨ac.other 2 _ (fun e=>p3.1 e.symm),ae.other 2 _ (fun e=>p3.2.1 e.symm),vE (k6.b.trans b8) l.1 2 _⟩,?_,fun k=>by
     rcases d8 D k with h1|h1
     .have h2:w0.1.size<=D:=h1.1;omega
     .omega,fun k=>by
     have ls:=K5.2.2.lt;rcases d8 gs k with h1|h1
     .have h2:gs<gs:=h1.2;omega
     .omega⟩
    .rw[HN.out.1];exact q
    .have af:=K5.2.2.below b6 K5.2.2.lt;have ls:=K5.2.2.lt;have ag:Row w8 gs 31 #[]:=(t8 gs (by omega) (fun k=>by have h1:gs<gs:=k.2;omega)).trans af;exact ag.other 2 _ (fun e=>by have:=x4.out;omega)
   have z2:=r3.1.cell 2;have zf:=r3.1.free 2;simp at z2;clear r3;go_wp2_with fail
   go_meet
   exact KZ
 obtain⟨g2,c2,F1,hN,hC,s3,r5,s5⟩:=hcut.out;clear hcut K5 y2 ai c1;obtain⟨p,i2⟩:=nmH (plN S y.r n);obtain⟨n2,y4⟩:=nmH (hrN S y.r n);obtain⟨S2,g3⟩:=nmH (slF S y.r n);have y5:p<n2:=by rw[i2.out,y4.out];exact jKs S y.r n
 rw[<-y4.out,<-g3.out] at hN;rw[<-i2.out] at m1;obtain rfl:=m1.out;clear m1;have bc:(p:Int)<(n2:Int):=by omega
 obtain⟨a6,b0,c0,c6,d0,e0,G6,a2,f2,R8,o6,j8,k8,hG,r4,s4⟩:=jNl hN.o y5;obtain⟨X,HX⟩:=nmH wc.1.size;obtain⟨w7,e5⟩:=nmH (wc.alloc (J (slC (S2 p) (V a6 (S2 p).p.m c6) (V b0 (S2 p).ze.length d0) (V c0 (S2 p).zr.length e0)) 42));have K7:H (MhX p w w7 A C D X id f g2 n2 c2 S2 F1 y a9 c9 (S2 p) a6 b0 c0 c6 d0 e0 G6 a2 f2 gs):=by
  have b7:Ab wc wc w7:=by rw[e5.out];exact(Az _ _).alloc (Ay _) _
  have sw:=hC.b.size;have hx:=HX.out;have t5:∀ x,F1 x->x<X:=fun x k=>by have:=(hN.l1 x k).2;omega
  have lA:=hN.r.lt;have lC:=hC.rc.lt;have lD:=hC.rd.lt;have t9:=hN.h1;have u2:F1 g2:=by obtain⟨_,_,_,_,e,_,hs,_⟩:=hN.o;cases e;exact hs.head _ rfl
  have bb:g2<X:=t5 _ u2;have nE:∀ b,G6 b\/a2 b\/f2 b->¬ mhG w g2 X A D gs b:=fun b k e=>by
   have h1:=hG b k;have h2:=t5 b h1.1;rcases e with (e|e|e|e)|e
   .exact h1.2 e
   .omega
   .exact t9 (e▸h1.1)
   .rcases e with e|e
    .exact r5 (e▸h1.1)
    .have:=(hN.l1 b h1.1).1;omega
   .exact s5 (e▸h1.1)
  have ah:Row w7 X 42 (slC (S2 p) (V a6 (S2 p).p.m c6) (V b0 (S2 p).ze.length d0) (V c0 (S2 p).zr.length e0)):=by rw[e5.out,HX.out];exact Row.new wc _ _
  refine⟨hN.below b7,hC.below b7,ah,o6.below b7,j8.below b7,k8.below b7,nE,s5,r4,s4,⟨by omega,by omega,by omega,by omega,fun k=>by have:=t5 _ k;omega,by omega⟩,s3.below b7 s3.lt,(by have:=s3.lt;omega),?_⟩;have cg:∀ q v,(slL (S2 p) (V a6 (S2 p).p.m c6) (V b0 (S2 p).ze.length d0) (V c0 (S2 p).zr.length e0))[q]?=M v->w7.cell? (Q g2 (p*13+q) I)=M v:=fun q v hq=>by
   have h1:wc.cell? (Q g2 (p*13+q) I)=M v:=R8 q v hq;exact(b7.cell (p:=Q g2 _ I) (A7 h1)).trans h1
  exact⟨cg 6 _ rfl,cg 11 _ rfl,cg 12 _ rfl,rfl⟩
 have c7:H (wc.rangeAt g2 (p*13) (slL (S2 p) (V a6 (S2 p).p.m c6) (V b0 (S2 p).ze.length d0) (V c0 (S2 p).zr.length e0))):=R8;have q2:=hN.r.cell 2;simp at q2;have k9:H (¬ F1 D):=r5;clear hN hC s3 r5 s5 R8 o6 j8 k8 hG r4 s4;go_upto_region 8 with fail
 go_cut [8] from 67 to 71 (fun v wx=>H (v=Af X/\wx=w7))
 case first=>
  go_wp2_with (refine Bv rfl 42 _ rfl g2 (p*13) rfl (slL (S2 p) (V a6 (S2 p).p.m c6) (V b0 (S2 p).ze.length d0) (V c0 (S2 p).zr.length e0)) _ ?_ C5 rfl Tryz.infoSl ?_;exact c7)
  rw[<-e5.out,<-HX.out];go_meet
  exact⟨rfl,rfl⟩
 obtain⟨rfl,y0⟩:=hcut.out;obtain rfl:=y0.symm;clear hcut y0;clear q2 c7;go_step
 go_step
 obtain⟨f0,f3⟩:=nmH ((decide (y.k=0)&&(!(S2 p).e&&vU y.r id f y.p.r y.p.k y.p.n y.p.i y.p.b y.p.m y.p.S)));have x6:H (∀ W,Ab w w W->CB 51 #[pcV y.p.r y.p.k y.p.n y.p.i y.p.b (V a9 y.p.m c9),y.r,id,f] W (vU y.r id f y.p.r y.p.k y.p.n y.p.i y.p.b y.p.m y.p.S)):=fun W hW=>jDv y.r id f y.p.r y.p.k y.p.n y.p.i y.p.b a9 y.p.m c9 y.p.S W (H9.below hW) HF HB.m (fun i hi=>By (HB.ps i hi) (by unfold Au;omega))
 have n5:H (Row w7 C 31 (syC y (V a9 y.p.m c9))):=K7.k.rc;have j7:H (Row w7 A 26 #[id,f,V g2 n2 c2]):=K7.nw.r;have q7:H (Row w7 X 42 (slC (S2 p) (V a6 (S2 p).p.m c6) (V b0 (S2 p).ze.length d0) (V c0 (S2 p).zr.length e0))):=K7.rx;have r0:H (HvK S2 p y):=by show HvK _ _ _;rw[g3.out,i2.out];exact l9
 go_cut [6] from 72 to 133 (fun v wx=>H (∃ m Y,MhY p w wx A C D X id f g2 n2 c2 S2 F1 y a9 c9 (mhx f0 S2 p y) m Y v gs/\((f0=Aw/\m=zH f/\Y=syA 1 id y.r)\/(f0=Av/\m=0))))
 case first=>
  go_upto_region 9 with fail
  go_cut [72] from 73 to 91 (fun v wx=>H (v=.bool f0/\Ab w7 w7 wx))
  case first=>
   obtain⟨v0,v3,v4,v5,v6,v7⟩:=n5.c6 0 3 4 5 6 7;obtain⟨v8,v9⟩:=n5.c2 8 9;obtain⟨x0,x1⟩:=j7.c2 0 1;have z8:=q7.cell 8;simp at v0 v3 v4 v5 v6 v7 v8 v9 x0 x1 z8;have s6:H _:=x6 w7 K7.k.b;by_cases hk:y.k=0
   .have x9:(y.k==0)=Aw:=by simpa using hk
    cases he:(S2 p).e with
    | true=>
     have n0:H (f0=Av):=by show f0=Av;rw[f3.out,he];simp
     clear hk;go_wp2_with fail
     go_meet
     exact⟨by rw[n0.out],Az _ _⟩
    | false=>
     have n0:H (f0=vU y.r id f y.p.r y.p.k y.p.n y.p.i y.p.b y.p.m y.p.S):=by show f0=_;rw[f3.out,he,Bf hk];simp
     rw[<-n0.out] at s6;clear hk;go_wp2_with fail
     refine CM s6.out fun w8 b8=>?_
     have f9:H (Ab w7 w7 w8):=b8;clear b8;go_wp2_with fail
     go_meet
     exact⟨rfl,f9⟩
   .have x9:(y.k==0)=Av:=by simpa using hk
    have n0:H (f0=Av):=by show f0=Av;rw[f3.out,Bg hk];rfl
    clear hk;go_wp2_with fail
    go_meet
    exact⟨by rw[n0.out],Az _ _⟩
  obtain⟨rfl,q4⟩:=hcut.out;clear hcut;have K8:H (MhX p w wc A C D X id f g2 n2 c2 S2 F1 y a9 c9 (S2 p) a6 b0 c0 c6 d0 e0 G6 a2 f2 gs):=K7.below q4;clear q4;have o5:H (Row wc C 31 (syC y (V a9 y.p.m c9))):=K8.k.rc;have o1:H (Row wc X 42 (slC (S2 p) (V a6 (S2 p).p.m c6) (V b0 (S2 p).ze.length d0) (V c0 (S2 p).zr.length e0))):=K8.rx;obtain⟨v0,v1⟩:=o5.c2 0 1;simp at v0 v1;cases f0 with
  | true=>
   have j9:H _:=XN y.p.r y.p.k y.p.n y.p.i y.p.b a9 y.p.m c9 y.p.S wc (H9.below K8.k.b) HB.m;obtain⟨v3,v4,v5,v6,v7,v8⟩:=o5.c6 3 4 5 6 7 8;have v9:=o5.cell 9;simp at v3 v4 v5 v6 v7 v8 v9;go_wp2_with fail
   refine Ax j9.out ?_;rintro e w9 ⟨g',c',rfl,o9,b9⟩;have K9:H (MhX p w w9 A C D X id f g2 n2 c2 S2 F1 y a9 c9 (S2 p) a6 b0 c0 c6 d0 e0 G6 a2 f2 gs):=K8.below b9;have u0:H (Row w9 X 42 (slC (S2 p) (V a6 (S2 p).p.m c6) (V b0 (S2 p).ze.length d0) (V c0 (S2 p).zr.length e0))):=K9.rx;clear v0 v1 v3 v4 v5 v6 v7 v8 v9;have KV:H (Rf w9 (mhG w g2 X A D gs) (txD y.p.m y.p.S) (V g' y.p.m c')):=by
    have l1:=K8.nw.r.lt;have l2:=K8.k.rd.lt;have l3:=K8.rx.lt;have l4:=K8.s.lt;have u2:F1 g2:=by obtain⟨_,_,_,_,e,_,hs,_⟩:=K8.nw.o;cases e;exact hs.head _ rfl
    have l5:=(K8.nw.l1 g2 u2).2;refine Rf.of_ow (xQ (F:=fun b=>b=g') o9 (fun b e=>by cases e;rfl)) (fun b e k=>?_);have h1:b=g':=e;have l6:=K8.k.b.size;rcases jX o9 with ⟨e1,_⟩|⟨g1,_,e1,hb,_⟩
    .cases e1
    .cases e1;rcases k with (k|k|k|k)|k <;> omega
   have m9:H (MhO p w w9 A D X g2 gs F1 S2 {S2 p with p:=y.p} (V g' y.p.m c') (V b0 (S2 p).ze.length d0) (V c0 (S2 p).zr.length e0)):=by
    have l1:=K8.nw.r.lt;have l2:=K8.k.rd.lt;have l3:=K8.rx.lt;have l4:=K8.s.lt;have u2:F1 g2:=by obtain⟨_,_,_,_,e,_,hs,_⟩:=K8.nw.o;cases e;exact hs.head _ rfl
    have l5:=(K8.nw.l1 g2 u2).2;have l6:=K8.k.b.size;have be:wc.1.size<=g':=by
     rcases jX o9 with ⟨e1,_⟩|⟨g1,_,e1,hb,_⟩
     .cases e1
     .cases e1;exact hb
    refine⟨fun b=>b=g',fun _=>False,fun _=>False,.inr ⟨(xQ (F:=fun b=>b=g') o9 (fun b e=>by cases e;rfl)).base (by omega),fun b e=>?_⟩,.inl ⟨rfl,K9.out.og.2.1,fun _ k=>k⟩,.inl ⟨rfl,K9.og.2.2.1,fun _ k=>k⟩,fun _ _ k=>k,fun _ _ k=>k,fun _ k=>k.elim⟩;have h1:b=g':=e;refine⟨fun hF=>by have:=(K8.nw.l1 b hF).2;omega,fun k=>?_⟩;rcases k with (k|k|k|k)|k <;> omega
   obtain⟨q8,m2⟩:=nmH (w9.setCells X 1 [y.p.r,y.p.k,y.p.n,y.p.i,y.p.b,V g' y.p.m c']);obtain⟨t3,a4⟩:=nmH ((q8.setCell (Q X 7 I) Aw).setCell (Q X 8 I) Aw);have TH:H (w9.there X 1 6):=u0.there (by simp);have m5:H (Row q8 X 42 (slC {S2 p with p:=y.p} (V g' y.p.m c') (V b0 (S2 p).ze.length d0) (V c0 (S2 p).zr.length e0))):=by show Row _ _ _ _;rw[m2.out];exact jK0 u0 y.p _ _
   have g5:H (MhY p w t3 A C D X id f g2 n2 c2 S2 F1 y a9 c9 {S2 p with p:=y.p,h:=Aw,e:=Aw} 0 (syA 1 id y.r) (V gs 0 0) gs):=by
    show MhY _ _ _ _ _ _ _ _ _ _ _ _ _ _ _ _ _ _ _ _ _ _;rw[a4.out,m2.out];exact(K9.y _).got y.p _ _ KV a6 b0 c0 c6 d0 e0 K9.rx (Rf.of_ow K9.e (fun b k=>K9.d b (.inr (.inl k)))) (Rf.of_ow K9.z (fun b k=>K9.d b (.inr (.inr k)))) m9
   have e7:H (Row t3 A 26 #[id,f,V g2 n2 c2]):=g5.nw.r;have k7:H (Row t3 C 31 (syC y (V a9 y.p.m c9))):=g5.k.rc;have k5:H _:=jBc 1 id f (V g2 n2 c2) y.r (zH f) t3 HF (vM HF);have EX:H (mhx Aw S2 p y={S2 p with p:=y.p,h:=Aw,e:=Aw}):=by show mhx _ _ _ _=_;unfold mhx;simp[xJ]
   obtain⟨z7,z8⟩:=m5.c2 7 8;have aq:=m5.free 7;have ar:=m5.free 8;simp at z7 z8;have u3:=k7.cell 3;simp at u3;clear o9 b9;go_wp2_with (first|(refine C7 rfl 29 _ _ rfl X 1 #[y.p.r,y.p.k,y.p.n,y.p.i,y.p.b,V g' y.p.m c'] rfl rfl ?_ (by kernel_rfl) (by simp[Aq]) ?_;exact TH;rw[<-m2.out])|(rw[<-a4.out];refine Bb rfl 26 _ rfl A rfl 26 #[id,f,V g2 n2 c2] (0,0) _ ?_ Ch rfl Tryz.infoNd ?_;exact e7))
   refine Ax k5.out ?_;rintro e aj ⟨q5,p5,rfl,l8,t7⟩;have x8:H _:=g5.below t7;have y6:H _:=l8;clear t7 l8 z7 z8 aq ar u3;go_wp2_with (at_builtin;refine(show True->_ from ?_) trivial)
   intro _;refine jAv aj rfl _ _ rfl x8 1 y.r (zH f) q5 p5 _ _ rfl rfl y6.out ?_ ?_ ?_ ?_
   .have:=vM HF;have:=HF.out;omega
   .have:=vM HF;have:=HF.out;omega
   .have:=x4.1;have:=n1.size;omega
   intro g9 n9 bf o4;have y8:H _:=o4;clear o4;go_wp2_with fail
   go_meet
   exact⟨zH f,syA 1 id y.r,by rw[EX.out];exact y8,.inl ⟨trivial,rfl,rfl⟩⟩
  | false=>
  by_cases hk1:y.k=1
  .have t4:(y.k==1)=Aw:=by simpa using hk1
   have HK:H (y.k=1):=hk1;have u4:(y.k==2)=Av:=by simp;omega
   have am:=o1.cell 11;simp at am;clear hk1;by_cases hf0:0<=y.f
   .have j5:H _:=jGt w b0 d0 (S2 p).ze y.f a2 wc K8.e (by have:=r0.ze;omega) r0.out.se (by omega);have a8:y.f≥0:=hf0;go_wp2_with fail
    refine Ax j5.out ?_;rintro e w9 ⟨a',c',rfl,a3,b9⟩;have K9:H _:=K8.echo (syA 1 id y.r) a' c' _ b9 a3;have u0:H (Row w9 X 42 (slC (S2 p) (V a6 (S2 p).p.m c6) (V b0 (S2 p).ze.length d0) (V c0 (S2 p).zr.length e0))):=o1.below b9 o1.lt;have zx:=u0.cell 11;have zf:=u0.free 11;simp at zx;have EX:H (mhx Av S2 p y={S2 p with ze:=xM (S2 p).ze y.f}):=by show mhx _ _ _ _=_;unfold mhx;simp[HK.out,jCm]
    clear b9 a3;go_wp2_with fail
    go_meet
    exact⟨0,syA 1 id y.r,by rw[EX.out];exact K9,.inr ⟨trivial,rfl⟩⟩
   .have u9:y.f<0:=by omega
    have EX:H (mhx Av S2 p y=S2 p):=by
     have e1:y.f = -1:=by have:=q6.out;omega
     have e2:xM (S2 p).ze y.f=(S2 p).ze:=by unfold xM;rw[A6 (.inl e1)]
     show mhx _ _ _ _=_;unfold mhx;simp[HK.out,jCm,e2]
    go_wp2_with fail
    go_meet
    exact⟨0,syA 1 id y.r,by rw[EX.out];exact K8.y _,.inr ⟨trivial,rfl⟩⟩
  by_cases hk2:y.k=2
  .have t4:(y.k==1)=Av:=by simpa using hk1
   have u4:(y.k==2)=Aw:=by simpa using hk2
   have HK:H (y.k=2):=hk2;have an:=o1.cell 12;simp at an;clear hk1 hk2;by_cases hf0:0<=y.f
   .have j5:H _:=jGt w c0 e0 (S2 p).zr y.f f2 wc K8.z (by have:=r0.zr;omega) r0.out.sr (by omega);have a8:y.f≥0:=hf0;go_wp2_with fail
    refine Ax j5.out ?_;rintro e w9 ⟨a',c',rfl,a3,b9⟩;have K9:H _:=K8.ready (syA 1 id y.r) a' c' _ b9 a3;have u0:H (Row w9 X 42 (slC (S2 p) (V a6 (S2 p).p.m c6) (V b0 (S2 p).ze.length d0) (V c0 (S2 p).zr.length e0))):=o1.below b9 o1.lt;have zx:=u0.cell 12;have zf:=u0.free 12;simp at zx;have EX:H (mhx Av S2 p y={S2 p with zr:=xM (S2 p).zr y.f}):=by show mhx _ _ _ _=_;unfold mhx;simp[HK.out,jEk]
    clear b9 a3;go_wp2_with fail
    go_meet
    exact⟨0,syA 1 id y.r,by rw[EX.out];exact K9,.inr ⟨trivial,rfl⟩⟩
   .have u9:y.f<0:=by omega
    have EX:H (mhx Av S2 p y=S2 p):=by
     have e1:y.f = -1:=by have:=q6.out;omega
     have e2:xM (S2 p).zr y.f=(S2 p).zr:=by unfold xM;rw[A6 (.inl e1)]
     show mhx _ _ _ _=_;unfold mhx;simp[HK.out,jEk,e2]
    go_wp2_with fail
    go_meet
    exact⟨0,syA 1 id y.r,by rw[EX.out];exact K8.y _,.inr ⟨trivial,rfl⟩⟩
  .have t4:(y.k==1)=Av:=by simpa using hk1
   have u4:(y.k==2)=Av:=by simpa using hk2
   have EX:H (mhx Av S2 p y=S2 p):=by show mhx _ _ _ _=_;unfold mhx;simp[hk1,hk2]
   clear hk1 hk2;go_wp2_with fail
   go_meet
   exact⟨0,syA 1 id y.r,by rw[EX.out];exact K8.y _,.inr ⟨trivial,rfl⟩⟩
 obtain⟨m3,Y3,hY,x5⟩:=hcut.out;clear hcut K7 n5 j7 q7 x6;obtain⟨r1,f8⟩:∃ x,x=wc:=⟨_,rfl⟩;subst f8;obtain⟨xs,k3⟩:=nmH (mhx f0 S2 p y);rw[<-k3.out] at hY;have KY:H (MhY p w r1 A C D X id f g2 n2 c2 S2 F1 y a9 c9 xs m3 Y3 u6 gs):=hY;have aw:H (xs.ze.length<=1048576/\xs.zr.length<=1048576):=by show _/\_;rw[k3.out];exact jP5 r0
 have i3:H (SlT f (S2 p)/\(S2 p).r=y.r):=by show _/\_;rw[g3.out,i2.out];exact jGw m6
 have z1:H (f0=mhB id f S2 p y):=f3.out;obtain⟨a0,g0⟩:=nmH (mhR f xs);have f6:H (mhR f (mhx (mhB id f S2 p y) S2 p y)=a0):=by show _=_;rw[<-z1.out,<-k3.out,g0.out]
 obtain⟨ux,j3⟩:=nmH (mhU f xs);obtain⟨vx,b5⟩:=nmH (mhV f ux);have n3:H (a0=Aw->m3=0/\hvM id f S2 p y=zH f/\hvY id S2 p y=syA 2 id y.r):=fun e=>by
  obtain⟨e1,e2,e3⟩:=jJ5 HF.1 f5 i3.1 (f6.trans e);rw[i3.out.2] at e3;rcases x5 with k|k
  .exact Bo (k.1.symm.trans (z1.trans e1)) (by simp)
  .exact⟨k.2,e2,e3⟩
 have p6:H (a0=Av->hvM id f S2 p y=m3/\(m3=0\/hvY id S2 p y=Y3)):=fun e=>by
  rcases x5 with k|k
  .obtain⟨e1,e2⟩:=jMs (id:=id) (f:=f) (S:=S2) (p:=p) (y:=y) (z1.symm.trans k.1);rw[i3.out.2] at e2;exact⟨e1.trans k.2.1.symm,.inr (e2.trans k.2.2.symm)⟩
  .exact⟨(jMt HF.1 f5 (z1.symm.trans k.1) (f6.trans e)).trans k.2.symm,.inl k.2⟩
 have n6:H ((fun i=>if i=p then vx else S2 i)=hvS id f S2 p y):=by
  show _=_;rw[b5.out,j3.out,k3.out,z1.out];exact jJ6 HF.1 f5 i3.1
 have ax:H (ux.ze.length=xs.ze.length/\ux.zr.length=xs.zr.length):=by
  show _/\_;rw[j3.out];unfold mhU;split <;> exact⟨rfl,rfl⟩
 have s8:H (a0=Av->ux=xs):=fun e=>by rw[j3.out];unfold mhU;rw[<-g0.out,e];rfl
 have u8:H (a0=Aw->ux={xs with d:=Aw}):=fun e=>by rw[j3.out];unfold mhU;rw[<-g0.out,e];rfl
 clear hY x5;obtain⟨i6,h0,i0,j6,j0,k0,t0,_,_,_⟩:=KY.rx;have f1:H (Row r1 X 42 (slC xs (V i6 xs.p.m j6) (V h0 xs.ze.length j0) (V i0 xs.zr.length k0))):=t0;have k4:H (Row r1 A 26 #[id,f,V g2 n2 c2]):=KY.nw.r;clear t0;obtain⟨q2,j2⟩:∃ q:Int,H (2*f+1=q):=⟨_,rfl⟩;obtain⟨q3,a5⟩:∃ q:Int,H (f+1=q):=⟨_,rfl⟩;have q9:IntKind.i64.wrap (2*f)=2*f:=by have:=HF.out;rw[A8];omega
 have r9:IntKind.i64.wrap (2*f+1)=q2:=by have:=HF.out;have:=j2.out;rw[A8];omega
 have p9:IntKind.i64.wrap (f+1)=q3:=by have:=HF.out;have:=a5.out;rw[A8];omega
 go_upto_region 18 with fail
 go_cut [155] from 134 to 155 (fun v wx=>H (v=.bool a0/\wx=r1))
 case first=>
  obtain⟨z9,ap,d6⟩:=f1.c3 9 11 12;have y1:=k4.cell 1;simp at z9 ap d6 y1;cases hd:xs.d with
  | true=>
   rw[hd] at z9;have HB:H (a0=Av):=by show a0=Av;rw[g0.out];unfold mhR;rw[hd];rfl
   clear hd;go_wp2_with fail
   go_meet
   exact⟨by rw[HB.out],rfl⟩
  | false=>
   rw[hd] at z9;by_cases t1:q2<=(xs.ze.length:Int)
   .have HB:H (a0=Aw):=by show a0=Aw;rw[g0.out];unfold mhR;rw[hd,j2.out,Bf t1];rfl
    clear hd;go_wp2_with fail
    go_meet
    exact⟨by rw[HB.out],rfl⟩
   by_cases t2:q3<=(xs.zr.length:Int)
   .have HB:H (a0=Aw):=by show a0=Aw;rw[g0.out];unfold mhR;rw[hd,a5.out,Bf t2];simp
    clear hd;go_wp2_with fail
    go_meet
    exact⟨by rw[HB.out],rfl⟩
   .have HB:H (a0=Av):=by show a0=Av;rw[g0.out];unfold mhR;rw[hd,j2.out,a5.out,Bg t1,Bg t2];rfl
    clear hd;go_wp2_with fail
    go_meet
    exact⟨by rw[HB.out],rfl⟩
 obtain⟨rfl,y0⟩:=hcut.out;obtain rfl:=y0.symm;clear hcut y0;go_upto_if 155 with fail
 go_cut [6] from 156 to 162 (fun v wx=>H (∃ m Y,MhY p w wx A C D X id f g2 n2 c2 S2 F1 y a9 c9 ux m Y v gs/\hvM id f S2 p y=m/\(m=0\/hvY id S2 p y=Y)))
 case first=>
  cases a0 with
  | false=>
   have KZ:H (MhY p w r1 A C D X id f g2 n2 c2 S2 F1 y a9 c9 ux m3 Y3 u6 gs):=by
    have:=KY.out
    rw[<-s8.out rfl] at this;exact this
   go_wp2_with fail
   go_meet
   exact⟨m3,Y3,KZ,p6 trivial⟩
  | true=>
   obtain rfl:=(n3 rfl).1;obtain rfl:=KY.so rfl;obtain⟨x3,d4⟩:=nmH (r1.setCell (Q X 9 I) Aw);have i5:H (MhY p w x3 A C D X id f g2 n2 c2 S2 F1 y a9 c9 ux 0 Y3 (V gs 0 0) gs):=by
    show MhY _ _ _ _ _ _ _ _ _ _ _ _ _ _ _ _ _ _ _ _ _ _;rw[d4.out,u8.out rfl];exact KY.readied
   have f7:H (Row x3 A 26 #[id,f,V g2 n2 c2]):=i5.nw.r;have l7:H (Row x3 C 31 (syC y (V a9 y.p.m c9))):=i5.k.rc;have k5:H _:=jBc 2 id f (V g2 n2 c2) y.r (zH f) x3 HF (vM HF);have z9:=f1.cell 9;have au:=f1.free 9;simp at z9;have u3:=l7.cell 3;simp at u3;go_wp2_with (rw[<-d4.out];refine Bb rfl 26 _ rfl A rfl 26 #[id,f,V g2 n2 c2] (0,0) _ ?_ Ch rfl Tryz.infoNd ?_;exact f7)
   refine Ax k5.out ?_;rintro e ak ⟨q5,p5,rfl,m8,u7⟩;have d9:H _:=i5.below u7;have z6:H _:=m8;clear u7 m8 z9 au u3;go_wp2_with (at_builtin;refine(show True->_ from ?_) trivial)
   intro _;refine jAv ak rfl _ _ rfl d9 2 y.r (zH f) q5 p5 _ _ rfl rfl z6.out ?_ ?_ ?_ ?_
   .have:=vM HF;have:=HF.out;omega
   .have:=vM HF;have:=HF.out;omega
   .have:=x4.1;have:=n1.size;omega
   intro g9 n9 bg p4;have e9:H _:=p4;clear p4;go_wp2_with fail
   go_meet
   exact⟨zH f,syA 2 id y.r,e9,(n3 trivial).2.1,.inr (n3 trivial).2.2⟩
 obtain⟨m4,Y4,hY,y7⟩:=hcut.out;have e6:H (hvM id f S2 p y=m4/\(m4=0\/hvY id S2 p y=Y4)):=y7;obtain⟨u1,h8⟩:∃ x,x=wc:=⟨_,rfl⟩;subst h8;have s2:H (MhY p w u1 A C D X id f g2 n2 c2 S2 F1 y a9 c9 ux m4 Y4 u6 gs):=hY;clear hcut y7 hY KY f1 k4 p6 n3;obtain⟨i6,h0,i0,j6,j0,k0,t0,_,_,_⟩:=s2.rx;have i1:H (Row u1 X 42 (slC ux (V i6 ux.p.m j6) (V h0 ux.ze.length j0) (V i0 ux.zr.length k0))):=t0;have n4:H (Row u1 A 26 #[id,f,V g2 n2 c2]):=s2.nw.r;clear t0;obtain⟨m0,a1⟩:=nmH (decide (2*f+1<=(ux.zr.length:Int)));go_upto_region 21 with fail
 go_cut [170] from 163 to 170 (fun v wx=>H (v=.bool m0/\wx=u1))
 case first=>
  have d6:=i1.cell 12;have y1:=n4.cell 1;simp at d6 y1;by_cases t2:q2<=(ux.zr.length:Int)
  .have HB:H (m0=Aw):=by show m0=Aw;rw[a1.out,j2.out,Bf t2]
   go_wp2_with fail
   go_meet
   exact⟨by rw[HB.out],rfl⟩
  .have HB:H (m0=Av):=by show m0=Av;rw[a1.out,j2.out,Bg t2]
   go_wp2_with fail
   go_meet
   exact⟨by rw[HB.out],rfl⟩
 obtain⟨rfl,y0⟩:=hcut.out;obtain rfl:=y0.symm;clear hcut y0 q9 r9 p9;go_upto_if 170 with fail
 go_cut [] from 171 to 171 (fun wx=>H (MhY p w wx A C D X id f g2 n2 c2 S2 F1 y a9 c9 vx m4 Y4 u6 gs))
 case first=>
  cases m0 with
  | false=>
   have KZ:H (MhY p w u1 A C D X id f g2 n2 c2 S2 F1 y a9 c9 vx m4 Y4 u6 gs):=by
    have e1:vx=ux:=by rw[b5.out];unfold mhV;rw[A5 (Ga a1.out.symm)]
    show MhY _ _ _ _ _ _ _ _ _ _ _ _ _ _ _ _ _ _ _ _ _ _;rw[e1];exact s2
   go_wp2_with fail
   go_meet
   exact KZ
  | true=>
   have KZ:H (MhY p w (u1.setCell (Q X 10 I) Aw) A C D X id f g2 n2 c2 S2 F1 y a9 c9 vx m4 Y4 u6 gs):=by
    have e1:vx={ux with o:=Aw}:=by rw[b5.out];unfold mhV;rw[A6 (Dn a1.out.symm)]
    show MhY _ _ _ _ _ _ _ _ _ _ _ _ _ _ _ _ _ _ _ _ _ _;rw[e1];exact s2.done
   have ao:=i1.cell 10;have av:=i1.free 10;simp at ao;go_wp2_with fail
   go_meet
   exact KZ
 have g4:=hcut.out;obtain⟨y3,i8⟩:∃ x,x=wc:=⟨_,rfl⟩;subst i8;have o3:H (MhY p w y3 A C D X id f g2 n2 c2 S2 F1 y a9 c9 vx m4 Y4 u6 gs):=g4;clear hcut g4 s2 i1 n4;obtain⟨i6,h0,i0,j6,j0,k0,t0,V6,r7,s7,VO⟩:=o3.rx;have p7:H (Row y3 X 42 (slC vx (V i6 vx.p.m j6) (V h0 vx.ze.length j0) (V i0 vx.zr.length k0))):=t0;obtain⟨z3,e4⟩:=nmH (y3.setCells g2 (p*13) (slL vx (V i6 vx.p.m j6) (V h0 vx.ze.length j0) (V i0 vx.zr.length k0)));obtain⟨z5,f4⟩:=nmH (z3.setRow D #[id,f,V g2 n2 c2]);have q0:H _:=o3.fin k9 HL.2.2.1 y5 i6 h0 i0 j6 j0 k0 V6 r7 s7 VO z3 z5 e4 f4;have TH:H (y3.there g2 (p*13) 13):=o3.nw.there y5;have i7:H (Row z3 A 26 #[id,f,V g2 n2 c2]):=q0.ra;have n7:H (Row z3 D 26 #[(),(),V I 0 0]):=q0.rd;have o7:H (Row z5 D 26 #[id,f,V g2 n2 c2]):=q0.rd2;obtain⟨sa,sc,y9⟩:∃ sa sc,u6=V sa m4 sc:=by
  obtain⟨a,c,e,_⟩:=q0.s.rd;exact⟨a,c,e⟩
 subst y9;have KF:H (NhR w z5 id f (hrN S y.r n) (hvS id f (slF S y.r n) (plN S y.r n) y) (hvM id f (slF S y.r n) (plN S y.r n) y) (hvY id (slF S y.r n) (plN S y.r n) y) (Ae (Ah #[ndV id f (V g2 n2 c2),V sa m4 sc]))):=by
  show NhR _ _ _ _ _ _ _ _ _;rw[<-g3.out,<-i2.out,<-y4.out,e6.out.1];refine⟨_,_,_,_,rfl,?_,?_,q0.b,by rw[<-n6.out];exact q0.o⟩
  .rw[<-n6.out];exact q0.l
  .rcases e6.out.2 with k|k
   .subst k;exact fun W' _ _=>⟨sa,sc,rfl,fun i hi=>Bo hi (Bk i)⟩
   .rw[k];exact q0.s
 have y2:=o3.nw.r.cell 2;simp at y2;clear t0 V6 r7 s7;go_wp2_with (first|(refine Bb rfl 42 _ rfl X rfl 42 (slC vx (V i6 vx.p.m j6) (V h0 vx.ze.length j0) (V i0 vx.zr.length k0)) (0,0) _ ?_ C5 rfl Tryz.infoSl ?_;exact p7)|(refine C7 rfl 42 _ _ rfl g2 (p*13) (slC vx (V i6 vx.p.m j6) (V h0 vx.ze.length j0) (V i0 vx.zr.length k0)) rfl rfl ?_ Tryz.infoSl (by simp[Aq]) ?_;exact TH;rw[show (slC vx (V i6 vx.p.m j6) (V h0 vx.ze.length j0) (V i0 vx.zr.length k0)).toList=slL vx (V i6 vx.p.m j6) (V h0 vx.ze.length j0) (V i0 vx.zr.length k0) from rfl,<-e4.out])|(refine Bb rfl 26 _ rfl A rfl 26 #[id,f,V g2 n2 c2] (0,0) _ ?_ Ch rfl Tryz.infoNd ?_;exact i7)|(refine Bw rfl 26 _ _ rfl D #[id,f,V g2 n2 c2] rfl rfl 26 #[(),(),V I 0 0] ?_ Tryz.infoNd rfl (by simp[Aq]) ?_;exact n7;rw[<-f4.out]))
 refine B7 (v:=Ah #[ndV id f (V g2 n2 c2),V sa m4 sc]) (by
  obtain⟨p0,p1,p2⟩:=o7.c3 0 1 2;simp at p0 p1 p2;simp[results,results10,go_sem,p0,p1,p2]) rfl KF
end
theorem jA5 {n:Nat} {S:Nat->Sl} {r:BA} (hn:n<=40):(n<40\/0<=plX S r n)↔plN S r n<40:=by
 unfold plX plN;cases e:plc S r n with
 | none=>simp
 | some x=>
  obtain⟨_,h,_,_⟩:=xC e;have hx:x<40:=by omega
  exact⟨fun _=>hx,fun _=>.inr (Int.natCast_nonneg x)⟩
theorem jB7 (id f:Int) (a:OA) (n cap:Nat) (S:Nat->Sl) (y:Sy) (a9:OA) (c9:Nat) (w:Ad) (hT:Rd w (qH n S) (V a n cap)) (h9:jL w a9 y.p.m y.p.S) (hB:NhB n S y):Ak prog 10 #[ndV id f (V a n cap),syV y (V a9 y.p.m c9)] w fun e w'=>NhR w w' id f (nhN id f n S y) (nhS id f n S y) (nhM id f n S y) (nhY id f n S y) e:=by
 cases e1:ndB id f n S with
 | false=>
  have hb:nhB id f n S y=Av:=by unfold nhB;rw[e1];rfl
  simp only[nhN,nhS,nhM,nhY,hb];exact vC id f a n cap S y a9 c9 w hT hB (.inl e1)
 | true=>
  have hP:=jDk e1;have hf:=ZG hP.1;cases e2:vL id f n S y with
  | false=>
   have hM:¬ jHd id f n S y:=fun k=>by
    have:vL id f n S y=Aw:=by unfold vL;exact @Bf _ (Classical.propDecidable _) k
    rw[this] at e2;cases e2
   have hb:nhB id f n S y=Av:=by unfold nhB;rw[e1,e2];rfl
   simp only[nhN,nhS,nhM,nhY,hb];by_cases h2:y.t=id
   case neg=>exact vC id f a n cap S y a9 c9 w hT hB (.inr ⟨hf,e1,.inl h2⟩)
   by_cases h3:-1<=y.f/\y.f<=3*f
   case neg=>exact vC id f a n cap S y a9 c9 w hT hB (.inr ⟨hf,e1,.inr ⟨h2,.inl h3⟩⟩)
   by_cases h4:0<=y.k/\y.k<=2
   case neg=>exact vC id f a n cap S y a9 c9 w hT hB (.inr ⟨hf,e1,.inr ⟨h2,.inr ⟨h3,.inl h4⟩⟩⟩)
   by_cases h5:y.r.size=16
   case neg=>exact vC id f a n cap S y a9 c9 w hT hB (.inr ⟨hf,e1,.inr ⟨h2,.inr ⟨h3,.inr ⟨h4,.inl h5⟩⟩⟩⟩)
   by_cases h6:40<=plN S y.r n
   case pos=>exact vC id f a n cap S y a9 c9 w hT hB (.inr ⟨hf,e1,.inr ⟨h2,.inr ⟨h3,.inr ⟨h4,.inr ⟨h5,h6⟩⟩⟩⟩⟩)
   exact Bo ⟨h2,by omega,h4,h5,(jA5 hP.2.1).2 (by omega)⟩ hM
  | true=>
   have hM:=QR e2;have hb:nhB id f n S y=Aw:=by unfold nhB;rw[e1,e2];rfl
   simp only[nhN,nhS,nhM,nhY,hb,C0];exact jB8 id f a n cap S y a9 c9 w hT hB e1 hf hM.1 (by have:=hM.2.1;omega) hM.2.2.1 hM.2.2.2.1 ((jA5 hP.2.1).1 hM.2.2.2.2) h9
end Go.Proofs.YtcaejlalnjnifaaGreat
