import Derived.Test.YtcaejlalnjnifaaGreatR26
import Derived.Test.YtcaejlalnjnifaaGreatR25
set_option maxHeartbeats 8000000
set_option maxRecDepth 2000
open Go.Value renaming slice->V,pointer->Af,tuple->Ah,agg->Ai,oneCell'->Aq
open Option renaming none->I,some->M
open Go.RowKit renaming Hid->H,Below->Ab
open Go.Addr renaming mk->Q
open Go.Obj renaming cells->J
open Go renaming World->Ad,Value->Aj,Calls->Ak
open Go.Ending renaming returned->Ae
open Bool renaming false->Av,true->Aw
open Go.Proofs.Tryz
open Go.ChangeShapes Go.WideShapes Go.ChangeAt Go.RowKit
namespace Go.Proofs.YtcaejlalnjnifaaGreat
abbrev seV (id f:Int) (v:Aj) (bi bf:Int):Aj:=Ai #[id,f,v,bi,bf]
def HdA (w W:Ad) (id f:Int) (n:Nat) (S:Nat->Sl) (bi bf:Int) (m:Nat) (Y:Nat->Sy) (e:Ending):Prop:=
 ∃ g cap sa sc F1 F2,e=Ae (Ah #[seV id f (V (Q g 0 I) n cap) bi bf,V sa m sc])/\Ow W w (qH n S) (V (Q g 0 I) n cap) F1/\Ow W w (qI m Y) (V sa m sc) F2/\(∀ x,F1 x->¬ F2 x)/\Ab w w W
theorem jMi (id f bi bf:Int) (a:OA) (n cap:Nat) (S:Nat->Sl) (y:Sy) (a9:OA) (c9:Nat) (w:Ad) (hT:Rd w (qH n S) (V a n cap)) (hB:NhB n S y) (hf:1<=f/\f<=3) (n0:vL id f n S y=Av):Ak prog 169 #[seV id f (V a n cap) bi bf,syV y (V a9 y.p.m c9)] w fun e w'=>∃ g,e=Ae (Ah #[seV id f (V a n cap) bi bf,V (Q g 0 I) 0 0])/\Ab w w w':=by
 obtain⟨A,HA⟩:=nmH w.1.size;obtain⟨C,HC⟩:=nmH (w.1.size+1);obtain⟨D,HD⟩:=nmH (w.1.size+1+1);obtain⟨w0,a0⟩:=nmH (((w.alloc (J #[id,f,V a n cap,bi,bf] 124)).alloc (J (syC y (V a9 y.p.m c9)) 31)).alloc (J #[(),(),V I 0 0,(),()] 124));have RA:=(zS a0 HA).out;have RC:=(xV a0 HC).out;have RD:=(zE a0 HD).out;have b0:=bl3 a0;have f0:=hd RA;have j0:=hd RA.mid;have k0:=hd RC;have c0:=hd RD;have h0:=hd b0;have lD:w.1.size<=D:=by have:=HD.out;omega
 have i0:H (CB 46 #[ndV id f (V a n cap),syV y (V a9 y.p.m c9)] w0 Av):=by
  have:=jDh id f a n cap S y a9 y.p.m c9 w0 (hT.below b0) hB.kn hf
  rw[n0] at this;exact this
 go_enter func169,ntmps169
 go_wp2_with (first|(rw[<-a0.out,<-HD.out,<-HC.out,<-HA.out];refine Bv rfl 26 _ rfl A 0 rfl [id,f,V a n cap] _ ?_ Ch rfl Tryz.infoNd ?_;exact j0)|(refine Bb rfl 31 _ rfl C rfl 31 (syC y (V a9 y.p.m c9)) (0,0) _ ?_ Ci rfl Tryz.infoSy ?_;exact k0))
 refine CM i0.out fun w1 b1=>?_
 have m0:=hd (f0.below b1 f0.lt);obtain⟨w2,e0⟩:=nmH (w1.alloc (J #[] 31));have b2:=bl1 e0;have g0:=hd ((c0.below b1 c0.lt).below b2 (c0.below b1 c0.lt).lt);obtain⟨w3,d0⟩:=nmH (w2.setRow D #[id,f,V a n cap,bi,bf]);have R3:=rr d0 g0;have KF:H (Ab w w w3):=by rw[d0.out];exact jF (jA h0 (jA b1 b2)) lD _
 go_wp2_with (first|(refine Bb rfl 124 _ rfl A rfl 124 #[id,f,V a n cap,bi,bf] (0,0) _ ?_ Fd rfl Tryz.infoSt ?_;exact m0)|(rw[<-e0.out];refine Bw rfl 124 _ _ rfl D #[id,f,V a n cap,bi,bf] rfl rfl 124 #[(),(),V I 0 0,(),()] ?_ Tryz.infoSt rfl (by simp[Aq]) ?_;exact g0;rw[<-d0.out]))
 exact B7 (v:=Ah #[seV id f (V a n cap) bi bf,V (Q w1.1.size 0 I) 0 0]) (by
  obtain⟨p0,p1,p2,p3,p4⟩:=R3.c5 0 1 2 3 4;simp at p0 p1 p2 p3 p4;simp[results,results169,go_sem,p0,p1,p2,p3,p4]) rfl ⟨_,rfl,KF⟩
theorem jJn (id f bi bf:Int) (a:OA) (n cap:Nat) (S:Nat->Sl) (y:Sy) (a9:OA) (c9:Nat) (w:Ad) (hT:Rd w (qH n S) (V a n cap)) (h9:jL w a9 y.p.m y.p.S) (hB:NhB n S y) (hf:1<=f/\f<=3) (r1:vL id f n S y=Aw) (hk:0<=y.k/\y.k<=2) (hK:HvK (slF S y.r n) (plN S y.r n) y):Ak prog 169 #[seV id f (V a n cap) bi bf,syV y (V a9 y.p.m c9)] w fun e w'=>HdA w w' id f (hrN S y.r n) (hvS id f (slF S y.r n) (plN S y.r n) y) bi bf (hvM id f (slF S y.r n) (plN S y.r n) y) (hvY id (slF S y.r n) (plN S y.r n) y) e:=by
 obtain⟨A,HA⟩:∃ x,H (x=w.1.size):=⟨_,rfl⟩;obtain⟨C,HC⟩:∃ x,H (x=w.1.size+1):=⟨_,rfl⟩;obtain⟨D,HD⟩:∃ x,H (x=w.1.size+1+1):=⟨_,rfl⟩;obtain⟨w0,f0⟩:∃ x,H (x=((w.alloc (J #[id,f,V a n cap,bi,bf] 124)).alloc (J (syC y (V a9 y.p.m c9)) 31)).alloc (J #[(),(),V I 0 0,(),()] 124)):=⟨_,rfl⟩;have RA:Row w0 A 124 #[id,f,V a n cap,bi,bf]:=by rw[f0.out,HA.out];exact Row.alloc (Row.alloc (Row.new w _ _) _) _
 have RC:Row w0 C 31 (syC y (V a9 y.p.m c9)):=by
  rw[f0.out,HC.out];have:=Row.new (w.alloc (J #[id,f,V a n cap,bi,bf] 124)) (syC y (V a9 y.p.m c9)) 31
  exact Row.alloc (by simpa using this) _
 have RD:Row w0 D 124 #[(),(),V I 0 0,(),()]:=by
  rw[f0.out,HD.out];have:=Row.new ((w.alloc (J #[id,f,V a n cap,bi,bf] 124)).alloc (J (syC y (V a9 y.p.m c9)) 31)) #[(),(),V I 0 0,(),()] 124
  simpa using this
 have b0:Ab w w w0:=by rw[f0.out];exact(((Az _ _).alloc (Ay _) _).alloc (by simp) _).alloc (by simp;omega) _
 have g1:H (Row w0 A 124 #[id,f,V a n cap,bi,bf]):=RA;have f1:H (w0.rangeAt A 0 [id,f,V a n cap]):=RA.mid;have e0:H (Row w0 C 31 (syC y (V a9 y.p.m c9))):=RC;have h0:H (Row w0 D 124 #[(),(),V I 0 0,(),()]):=RD;have z0:H (Ab w w w0):=b0;have lD:w.1.size<=D/\w.1.size<=A/\A<D/\D<w0/\A<w0:=⟨by have:=HD.out;omega,by have:=HA.out;omega,by have h1:=HD.out;have h2:=HA.out;omega,RD.lt,RA.lt⟩;have e1:H (CB 46 #[ndV id f (V a n cap),syV y (V a9 y.p.m c9)] w0 Aw):=by
  have:=jDh id f a n cap S y a9 y.p.m c9 w0 (hT.below b0) hB.kn hf
  rw[r1] at this;exact this
 have x1:H (∀ W,Ab w0 w0 W->Ak prog 45 #[ndV id f (V a n cap)] W fun e w'=>∃ g,e=Ae (ndV id f (V (Q g 0 I) n n))/\Ow w' W.1.size (qH n S) (V (Q g 0 I) n n) (rng W.1.size w'.1.size)/\Ab W.1.size W w'):=fun W hW=>ZT id f a n cap S W ((hT.below b0).below hW) hB.kn hB.k
 have c1:H (∀ Nb g F1 W,Ab w w W->NwT 124 [bi,bf] W w Nb id f g n n S F1->Ak prog 47 #[Af (Q Nb 0 I),syV y (V a9 y.p.m c9)] W fun e w'=>∃ v,e=Ae v/\jFu 124 [bi,bf] W w' w Nb id f (hrN S y.r n) (hvS id f (slF S y.r n) (plN S y.r n) y) (hvM id f (slF S y.r n) (plN S y.r n) y) (hvY id (slF S y.r n) (plN S y.r n) y) F1 v):=fun Nb g F1 W hW hN=>jMh id f w Nb g n n S y a9 c9 F1 W w hN hB.kn hB.r hk hf hW (fun W' z1=>h9.below z1) hK
 obtain⟨nn,y0⟩:∃ x,H (hrN S y.r n=x):=⟨_,rfl⟩;obtain⟨mm,x0⟩:∃ x,H (hvM id f (slF S y.r n) (plN S y.r n) y=x):=⟨_,rfl⟩;rw[y0.out,x0.out] at c1;rw[y0.out,x0.out];clear RA RC RD b0 hT hB hf r1 h9 hk hK;go_enter func169,ntmps169
 go_wp2_with (first|(rw[<-f0.out,<-HD.out,<-HC.out,<-HA.out];refine Bv rfl 26 _ rfl A 0 rfl [id,f,V a n cap] _ ?_ Ch rfl Tryz.infoNd ?_;exact f1)|(refine Bb rfl 31 _ rfl C rfl 31 (syC y (V a9 y.p.m c9)) (0,0) _ ?_ Ci rfl Tryz.infoSy ?_;exact e0))
 refine CM e1.out fun w1 b1=>?_
 have d0:H (Ab w0 w0 w1):=b1;have r0:Row w1 A 124 #[id,f,V a n cap,bi,bf]:=g1.below b1 g1.lt;have k0:H (w1.rangeAt A 0 [id,f,V a n cap]):=r0.mid;have q0:H (Row w1 A 124 #[id,f,V a n cap,bi,bf]):=r0;clear b1 r0 e1 f1;go_wp2_with (refine Bv rfl 26 _ rfl A 0 rfl [id,f,V a n cap] _ ?_ Ch rfl Tryz.infoNd ?_;exact k0)
 refine Ax (x1 w1 d0) ?_;rintro e w2 ⟨g,rfl,O2,b2⟩;have j0:Row w2 A 124 #[id,f,V a n cap,bi,bf]:=q0.below b2 q0.lt;have TH:H (w2.there A 0 3):=fun j hj=>by
  rw[Bt];refine⟨?_,j0.free j⟩;rw[j0.cell j];match j,hj with
  | 0,_|1,_|2,_=>rfl
 obtain⟨w3,c0⟩:∃ x,H (x=w2.setCells A 0 (#[id,f,V (Q g 0 I) n n]:Array Aj).toList):=⟨_,rfl⟩;have j1:Row w3 A 124 #[id,f,V (Q g 0 I) n n,bi,bf]:=by rw[c0.out];exact((j0.set 0 _).set 1 _).set 2 _
 have b3:Ab w w w3:=by rw[c0.out];exact jR (jA z0 (jA d0 b2)) lD.2.1 _ _
 have s1:=d0.size;have s2:=b2.size;have s0:=z0.size;have z3:w3.1.size=w2.1.size:=by rw[c0.out];exact jQ _ _ _ _
 have i0:H (NwT 124 [bi,bf] w3 w A id f g n n S (rng w1.1.size w2.1.size)):=by
  refine⟨j1,?_,fun k=>?_,⟨lD.2.1,by omega⟩,fun x k=>⟨?_,?_⟩⟩
  .rw[c0.out];exact(O2.base (by omega)).frame fun x hx _=>jG A _ _ w2 x (fun e=>by have h1:w1.1.size<=x:=hx.1;omega)
  .have h1:w1.1.size<=A:=k.1;omega
  .have h1:w1.1.size<=x:=k.1;omega
  .have h1:x<w2.1.size:=k.2;omega
 have k1:Row w2 C 31 (syC y (V a9 y.p.m c9)):=(e0.below d0 e0.lt).below b2 (e0.below d0 e0.lt).lt;have t1:C≠A:=by have h1:=HC.out;have h2:=HA.out;omega
 have i1:H (Row w3 C 31 (syC y (V a9 y.p.m c9))):=by
  show Row _ _ _ _;rw[c0.out];exact(jG A _ _ w2 C t1).trans k1
 have m1:Row w2 D 124 #[(),(),V I 0 0,(),()]:=(h0.below d0 h0.lt).below b2 (h0.below d0 h0.lt).lt;have m0:H (Row w3 D 124 #[(),(),V I 0 0,(),()]):=by
  show Row _ _ _ _;rw[c0.out];exact(jG A _ _ w2 D (by omega)).trans m1
 have a1:H (Ab w w w3):=b3;have HL:H (w0.1.size<=w1.1.size/\w1.1.size<=w2.1.size/\w3.1.size=w2.1.size):=⟨s1,s2,z3⟩;clear j0 O2 b2 j1 b3 k1 m1 h0 e0 q0 k0 s1 s2 s0 z3 t1;go_wp2_with (first|(refine C7 rfl 26 _ _ rfl A 0 #[id,f,V (M ⟨g,0,I⟩) n n] rfl rfl ?_ Tryz.infoNd (by simp[Aq]) ?_;exact TH;rw[<-c0.out])|(refine Bb rfl 31 _ rfl C rfl 31 (syC y (V a9 y.p.m c9)) (0,0) _ ?_ Ci rfl Tryz.infoSy ?_;exact i1))
 refine Ax (c1 A g (rng w1.1.size w2.1.size) w3 a1 i0) ?_;rintro e w5 ⟨v,rfl,g5,a0,u0,v0,u1,v1,rfl,t0,o1,q1,a2,t5,n0,o0⟩;have y1:H (Row w5 A 124 #[id,f,V g5 nn a0,bi,bf]):=t0.r;have n1:H (Row w5 D 124 #[(),(),V I 0 0,(),()]):=(t5.block D m0.lt (fun k=>by
  have hl:=HL.out;rcases k with k|k
  .omega
  .have h1:w1.1.size<=D:=k.1;omega)).trans m0.out
 obtain⟨w6,g0⟩:∃ x,H (x=w5.setRow D #[id,f,V g5 nn a0,bi,bf]):=⟨_,rfl⟩;have R6:H (Row w6 D 124 #[id,f,V g5 nn a0,bi,bf]):=by show Row _ _ _ _;rw[g0.out];exact n1.row
 have KF:H (HdA w w6 id f nn (hvS id f (slF S y.r n) (plN S y.r n) y) bi bf mm (hvY id (slF S y.r n) (plN S y.r n) y) (Ae (Ah #[seV id f (V g5 nn a0) bi bf,V u0 mm v0]))):=by
  have hl:=HL.out;refine⟨g5,a0,u0,v0,u1,v1,rfl,?_,?_,q1,?_⟩
  .rw[g0.out];exact t0.o.frame fun x hx _=>Cd _ _ _ _ (fun e=>by
    rcases n0 x hx with k|k
    .have h1:w1.1.size<=x:=k.1;omega
    .omega)
  .rw[g0.out];exact o1.frame fun x hx _=>Cd _ _ _ _ (fun e=>by have:=(o0 x hx).1;omega)
  .rw[g0.out];refine jF (a1.trans (t5.below (fun x k=>?_) i0.b.2)) lD.1 _;rcases k with k|k
   .rw[k];exact i0.b.1
   .exact(i0.l1 x k).1
 clear t0 o1 q1 a2 t5 n0 o0;go_wp2_with (first|(refine Bb rfl 124 _ rfl A rfl 124 #[id,f,V g5 nn a0,bi,bf] (0,0) _ ?_ Fd rfl Tryz.infoSt ?_;exact y1)|(refine Bw rfl 124 _ _ rfl D #[id,f,V g5 nn a0,bi,bf] rfl rfl 124 #[(),(),V I 0 0,(),()] ?_ Tryz.infoSt rfl (by simp[Aq]) ?_;exact n1;rw[<-g0.out]))
 exact B7 (v:=Ah #[seV id f (V g5 nn a0) bi bf,V u0 mm v0]) (by
  obtain⟨p0,p1,p2,p3,p4⟩:=R6.c5 0 1 2 3 4;simp at p0 p1 p2 p3 p4;simp[results,results169,go_sem,p0,p1,p2,p3,p4]) rfl KF
end Go.Proofs.YtcaejlalnjnifaaGreat
