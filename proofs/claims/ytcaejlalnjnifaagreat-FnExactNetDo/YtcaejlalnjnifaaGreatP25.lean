import Derived.Test.YtcaejlalnjnifaaGreatP23
import Derived.Test.YtcaejlalnjnifaaGreatP17
set_option maxHeartbeats 8000000
set_option maxRecDepth 2000
open Go.Value renaming slice->V,pointer->Af,string->Ag,agg->Ai,int->Ao,oneCell'->Aq
open Option renaming none->I,some->M
open Go.RowKit renaming Hid->H,Below->Ab
open Go.Addr renaming mk->Q
open Go renaming undef->O,World->Ad,Value->Aj,Calls->Ak,Addr->Al,maxLen->Au
open Go.Obj renaming cells->J
open Go.Ending renaming returned->Ae
open ByteArray renaming empty->Ap
open Go.IntKind renaming i64->Ar
open Bool renaming false->Av,true->Aw
open Go.Proofs.Tryz
open Go.ChangeShapes Go.WideShapes Go.ChangeAt Go.RowKit
namespace Go.Proofs.YtcaejlalnjnifaaGreat
def SlS (s:Sl):Prop:=s.p.m<=1048576/\s.ze.length<=1048576/\s.zr.length<=1048576
theorem jI0 (s:Sl) (a6 b6 d0 g0 e0 h0:OA) (c6 d6 k0 n0 m0 o0:Nat) (w:Ad) (h6:jK w a6 s.p.m s.p.S) (k6:jK w b6 s.p.m s.p.S) (p0:jH w d0 s.ze.length s.ze) (r0:jH w g0 s.ze.length s.ze) (q0:jH w e0 s.zr.length s.zr) (s0:jH w h0 s.zr.length s.zr) (hs:SlS s):CB 194 #[slV s (V a6 s.p.m c6) (V d0 s.ze.length k0) (V e0 s.zr.length m0),slV s (V b6 s.p.m d6) (V g0 s.ze.length n0) (V h0 s.zr.length o0)] w Aw:=by
 obtain⟨r,p,fh,fe,fd,fo,ze,zr⟩:=s;obtain⟨rr,kk,nn,ii,bb,m,S⟩:=p;obtain⟨hm,he,hz⟩:=hs;simp only at h6 k6 p0 r0 q0 s0 hm he hz;obtain⟨A,HA⟩:=nmH w.1.size;obtain⟨B,HB⟩:=nmH (w.1.size+1);obtain⟨w0,j0⟩:=nmH ((w.alloc (J (slC ⟨r,⟨rr,kk,nn,ii,bb,m,S⟩,fh,fe,fd,fo,ze,zr⟩ (V a6 m c6) (V d0 ze.length k0) (V e0 zr.length m0)) 42)).alloc (J (slC ⟨r,⟨rr,kk,nn,ii,bb,m,S⟩,fh,fe,fd,fo,ze,zr⟩ (V b6 m d6) (V g0 ze.length n0) (V h0 zr.length o0)) 42));have RA:=zP j0 HA;have RB:=JO j0 HB;have a0:=bl2 j0;have t0:=hd a0;have KP:H _:=jCw rr kk nn ii bb a6 b6 m c6 d6 S w0 (h6.below a0) (k6.below a0) hm;have KE:H (∀ W,Ab w0 w0 W->CB 88 #[V d0 ze.length k0,V g0 ze.length n0] W Aw):=fun W hW=>JT d0 g0 ze.length k0 n0 ze W ((p0.below a0).below hW) ((r0.below a0).below hW) he
 have KZ:H (∀ W,Ab w0 w0 W->CB 88 #[V e0 zr.length m0,V h0 zr.length o0] W Aw):=fun W hW=>JT e0 h0 zr.length m0 o0 zr W ((q0.below a0).below hW) ((s0.below a0).below hW) hz
 generalize ze.length=le at *;generalize zr.length=lr at *;have f0:(r.toList !=r.toList)=Av:=by simp
 have g1:=vC r;have f1:(fh !=fh)=Av:=by simp
 have f2:(fe !=fe)=Av:=by simp
 have f3:(fd !=fd)=Av:=by simp
 have f4:(fo !=fo)=Av:=by simp
 go_enter func194,ntmps194
 go_wp2_with fail
 rw[<-j0.out,<-HB.out,<-HA.out];refine Ax KP.out ?_;rintro e w1 ⟨rfl,b1⟩;have b0:=RA.out.below b1 RA.out.lt;have c0:=RB.out.below b1 RB.out.lt;have x7:=b0.cell 7;have x8:=b0.cell 8;have x9:=b0.cell 9;have y0:=b0.cell 10;have z0:=b0.cell 11;have y7:=c0.cell 7;have y8:=c0.cell 8;have y9:=c0.cell 9;have a1:=c0.cell 10;have c1:=c0.cell 11;simp at x7 x8 x9 y0 z0 y7 y8 y9 a1 c1;have B1:=hd b1;have i0:H (Row w1 A 42 _/\Row w1 B 42 _):=⟨b0,c0⟩;go_wp2_with fail
 refine Ax (KE.out _ B1.out) ?_;rintro e w2 ⟨rfl,b2⟩;have u0:=i0.out.1.below b2 i0.out.1.lt;have v0:=i0.out.2.below b2 i0.out.2.lt;have B2:=hd (jA B1.out b2);have e1:=u0.cell 12;have x0:=v0.cell 12;simp at e1 x0;go_wp2_with fail
 refine Ax (KZ.out _ B2.out) ?_;rintro e w3 ⟨rfl,b3⟩;have B3:=hd (jA t0.out (jA B2.out b3));go_wp2
 go_ret
 exact⟨rfl,B3.out⟩
theorem zU {w:Ad} {b off i sz:Nat} {y:Nat->Aj} (W:Ad) (hW:Ab w w W) (h:∀ q,q<sz+1->w.cell? (Q b (off+(i*(sz+1)+q)) I)=M (y q)):W.cell? (Q b (off+i*(sz+1)) I)=M (y 0)/\(∀ q,q<sz+1->W.cell? (Q b (off+i*(sz+1)+q) I)=M (y q)):=by
 have k:∀ q,q<sz+1->W.cell? (Q b (off+i*(sz+1)+q) I)=M (y q):=fun q hq=>by
  have:=h q hq
  rw[<-Ee] at this;exact(hW.cell (p:=Q b (off+i*(sz+1)+q) I) (A7 this)).trans this
 exact⟨k 0 (by omega),k⟩
theorem jGt {w:Ad} {b off b' a0 i sz:Nat} {y y':Nat->Aj} (W:Ad) (hW:Ab w w W) (h:∀ q,q<sz+1->w.cell? (Q b (off+(i*(sz+1)+q)) I)=M (y q)) (h':∀ q,q<sz+1->w.cell? (Q b' (a0+(i*(sz+1)+q)) I)=M (y' q)):W.cell? (Q b (off+i*(sz+1)) I)=M (y 0)/\(∀ q,q<sz+1->W.cell? (Q b (off+i*(sz+1)+q) I)=M (y q))/\W.cell? (Q b' (a0+i*(sz+1)) I)=M (y' 0)/\(∀ q,q<sz+1->W.cell? (Q b' (a0+i*(sz+1)+q) I)=M (y' q)):=by
 obtain⟨h1,h2⟩:=zU W hW h;obtain⟨h3,h4⟩:=zU W hW h';exact⟨h1,h2,h3,h4⟩
theorem jG7 (a b:OA) (n ca cb:Nat) (S:Nat->Sl) (w:Ad) (ha:Rd w (qG n S) (V a n ca)) (hb:Rd w (qG n S) (V b n cb)) (hn:n<=1048576) (hs:∀ i,i<n->SlS (S i)):CB 175 #[V a n ca,V b n cb] w Aw:=by
 have KH:H (Rd w (qG n S) (V a n ca)/\Rd w (qG n S) (V b n cb)):=⟨ha,hb⟩;have HS:H (∀ i,i<n->SlS (S i)):=hs;have w0:((n:Int) !=(n:Int))=Av:=by simp
 clear ha hb hs;go_enter func175,ntmps175
 go_wp2
 go_loopw [5] (fun vi wr=>∃ c:Nat,c<=n/\vi=Ao Ar (c:Int)/\Ab w w wr) (fun vi _=>n-(intOf vi).toNat)
 case atStart=>exact⟨0,Bi _,rfl,Az _ _⟩
 case round=>
  obtain⟨c,u0,rfl,a0⟩:=hrel;by_cases hlt:c<n
  .have v0:(c:Int)<(n:Int):=by omega
   obtain⟨b1,f1,y1,p6,m0,n0,q6,o0,p0,rfl,c0,e1,h0,e0,j0⟩:=vI (KH.1.below a0) hlt;obtain⟨b2,f2,y2,s6,q0,r0,t6,s0,t0,rfl,d0,e2,i0,f0,k0⟩:=vI (KH.2.below a0) hlt;have g0:=HS c hlt;have KT:H (∀ W,Ab wr.1.size wr W->CB 194 #[jIl y1,jIl y2] W Aw):=fun W hW=>by
    rw[e1,e2];exact jI0 (S c) p6 s6 m0 q0 n0 r0 q6 t6 o0 s0 p0 t0 W (h0.below hW) (i0.below hW) (e0.below hW) (f0.below hW) (j0.below hW) (k0.below hW) g0
   have KS:H (∀ W,Ab wr.1.size wr W->W.cell? (Q b1 (f1+c*13) I)=M (y1 0)/\(∀ q,q<13->W.cell? (Q b1 (f1+c*13+q) I)=M (y1 q))/\W.cell? (Q b2 (f2+c*13) I)=M (y2 0)/\(∀ q,q<13->W.cell? (Q b2 (f2+c*13+q) I)=M (y2 q))):=fun W hW=>jGt W hW c0 d0
   have KB:=hd a0;have hdr:=jD wr;clear c0 d0 h0 i0 e0 f0 j0 k0 a0 e1 e2 g0;go_wp2_with fail
   go_region_held3 (fun w'=>w'.cell? (Q b1 (f1+c*13) I)=M (y1 0)/\(∀ q,q<13->w'.cell? (Q b1 (f1+c*13+q) I)=M (y1 q))/\w'.cell? (Q b2 (f2+c*13) I)=M (y2 0)/\(∀ q,q<13->w'.cell? (Q b2 (f2+c*13+q) I)=M (y2 q))) (exact KS _ (by assumption)) ((go_at_call 194;refine Ax (KT _ hdr) ?_;rintro e w7 ⟨rfl,b0⟩;have b7:=jC b0;clear b0))
   all_goals
    have HB7:=hd (jA KB b7);clear b7;go_wp2
    go_roundw
    case rel=>exact⟨c+1,by omega,by go_num,HB7.out⟩
    case measure=>simp[intOf];omega
  .go_wp2
   go_ret
   exact⟨rfl,a0⟩
theorem jIx (id f:Int) (a b:OA) (n ca cb:Nat) (S:Nat->Sl) (w:Ad) (ha:Rd w (qG n S) (V a n ca)) (hb:Rd w (qG n S) (V b n cb)) (hn:n<=1048576) (hs:∀ i,i<n->SlS (S i)):CB 146 #[Ai #[id,f,V a n ca],Ai #[id,f,V b n cb]] w Aw:=by
 obtain⟨w0,b0⟩:=nmH ((w.alloc (J #[id,f,V a n ca] 26)).alloc (J #[id,f,V b n cb] 26));have a0:=bl2 b0;have c0:=hd a0;have KE:H _:=jG7 a b n ca cb S w0 (ha.below a0) (hb.below a0) hn hs;have f0:(id !=id)=Av:=by simp
 have f1:(f !=f)=Av:=by simp
 go_enter func146,ntmps146
 go_wp2_with fail
 rw[<-b0.out];refine Ax KE.out ?_;rintro e w1 ⟨rfl,b1⟩;go_wp2
 go_ret
 exact⟨rfl,jA c0 b1⟩
theorem jCx (s:Sy) (a9 b9:OA) (c9 d9:Nat) (w:Ad) (h9:jK w a9 s.p.m s.p.S) (k9:jK w b9 s.p.m s.p.S) (hs:s.p.m<=1048576):CB 90 #[syV s (V a9 s.p.m c9),syV s (V b9 s.p.m d9)] w Aw:=by
 obtain⟨sk,sf,st,sr,p⟩:=s;obtain⟨rr,kk,nn,ii,bb,m,S⟩:=p;simp only at h9 k9 hs;obtain⟨w0,b0⟩:=nmH ((w.alloc (J (syC ⟨sk,sf,st,sr,⟨rr,kk,nn,ii,bb,m,S⟩⟩ (V a9 m c9)) 31)).alloc (J (syC ⟨sk,sf,st,sr,⟨rr,kk,nn,ii,bb,m,S⟩⟩ (V b9 m d9)) 31));have a0:=bl2 b0;have c0:=hd a0;have KP:H _:=jCw rr kk nn ii bb a9 b9 m c9 d9 S w0 (h9.below a0) (k9.below a0) hs;have f0:(sr.toList !=sr.toList)=Av:=by simp
 have d0:=vC sr;have f1:(sk !=sk)=Av:=by simp
 have f2:(sf !=sf)=Av:=by simp
 have f3:(st !=st)=Av:=by simp
 go_enter func90,ntmps90
 go_wp2_with fail
 rw[<-b0.out];refine Ax KP.out ?_;rintro e w1 ⟨rfl,b1⟩;go_wp2
 go_ret
 exact⟨rfl,jA c0 b1⟩
theorem jG8 (a b:OA) (n ca cb:Nat) (S:Nat->Sy) (w:Ad) (ha:Rd w (qJ n S) (V a n ca)) (hb:Rd w (qJ n S) (V b n cb)) (hn:n<=1048576) (hs:∀ i,i<n->(S i).p.m<=1048576):CB 89 #[V a n ca,V b n cb] w Aw:=by
 have KH:H (Rd w (qJ n S) (V a n ca)/\Rd w (qJ n S) (V b n cb)):=⟨ha,hb⟩;have HS:H (∀ i,i<n->(S i).p.m<=1048576):=hs;have j0:((n:Int) !=(n:Int))=Av:=by simp
 clear ha hb hs;go_enter func89,ntmps89
 go_wp2
 go_loopw [5] (fun vi wr=>∃ c:Nat,c<=n/\vi=Ao Ar (c:Int)/\Ab w w wr) (fun vi _=>n-(intOf vi).toNat)
 case atStart=>exact⟨0,Bi _,rfl,Az _ _⟩
 case round=>
  obtain⟨c,h0,rfl,a0⟩:=hrel;by_cases hlt:c<n
  .have i0:(c:Int)<(n:Int):=by omega
   obtain⟨b1,f1,y1,p9,q9,rfl,c0,e1,f0⟩:=jB6 (KH.1.below a0) hlt;obtain⟨b2,f2,y2,s9,t9,rfl,d0,e2,g0⟩:=jB6 (KH.2.below a0) hlt;have e0:=HS c hlt;have KT:H (∀ W,Ab wr.1.size wr W->CB 90 #[jQu y1,jQu y2] W Aw):=fun W hW=>by
    rw[e1,e2];exact jCx (S c) p9 s9 q9 t9 W (f0.below hW) (g0.below hW) e0
   have KS:H (∀ W,Ab wr.1.size wr W->W.cell? (Q b1 (f1+c*10) I)=M (y1 0)/\(∀ q,q<10->W.cell? (Q b1 (f1+c*10+q) I)=M (y1 q))/\W.cell? (Q b2 (f2+c*10) I)=M (y2 0)/\(∀ q,q<10->W.cell? (Q b2 (f2+c*10+q) I)=M (y2 q))):=fun W hW=>jGt W hW c0 d0
   have KB:=hd a0;have hdr:=jD wr;clear c0 d0 f0 g0 a0 e1 e2 e0;go_wp2_with fail
   go_region_held3 (fun w'=>w'.cell? (Q b1 (f1+c*10) I)=M (y1 0)/\(∀ q,q<10->w'.cell? (Q b1 (f1+c*10+q) I)=M (y1 q))/\w'.cell? (Q b2 (f2+c*10) I)=M (y2 0)/\(∀ q,q<10->w'.cell? (Q b2 (f2+c*10+q) I)=M (y2 q))) (exact KS _ (by assumption)) ((go_at_call 90;refine Ax (KT _ hdr) ?_;rintro e w7 ⟨rfl,b0⟩;have b7:=jC b0;clear b0))
   all_goals
    have HB7:=hd (jA KB b7);clear b7;go_wp2
    go_roundw
    case rel=>exact⟨c+1,by omega,by go_num,HB7.out⟩
    case measure=>simp[intOf];omega
  .go_wp2
   go_ret
   exact⟨rfl,a0⟩
def seB (id f:Int):Bool:=decide (1<=f/\f<=3/\0<=id/\id<3*f+1)
def fB (f:Int):Bool:=decide (1<=f/\f<=3)
abbrev ndV (id f:Int) (v:Aj):Aj:=Ai #[id,f,v]
theorem jBc {f:Int} (h:1<=f/\f<=3):IntKind.i64.wrap (3*f)=3*f/\IntKind.i64.wrap (3*f+1)=3*f+1:=by
 constructor <;> (rw[A8];omega)
theorem jEo (f:Int) (w:Ad):CS 71 #[f] w (fB f):=by
 by_cases h1:1<=f
 .by_cases h2:f<=3
  .have e:fB f=Aw:=Bf ⟨h1,h2⟩;rw[e];go_enter func71,ntmps71
   go_wp2
   go_ret
   exact⟨rfl,rfl⟩
  .have e:fB f=Av:=Bh (fun h=>h2 h.2);rw[e];go_enter func71,ntmps71
   go_wp2
   go_ret
   exact⟨rfl,rfl⟩
 .have e:fB f=Av:=Bh (fun h=>h1 h.1);rw[e];go_enter func71,ntmps71
  go_wp2
  go_ret
  exact⟨rfl,rfl⟩
theorem vG (f:Int) (w:Ad) (h:1<=f/\f<=3):CS 72 #[f] w (3*f+1:Int):=by
 obtain⟨e1,e2⟩:=jBc h;go_enter func72,ntmps72
 go_wp2
 go_ret
 exact⟨rfl,rfl⟩
theorem QS (f:Int) (w:Ad) (h:1<=f/\f<=3):CS 158 #[f] w (f+1:Int):=by
 have e1:IntKind.i64.wrap (f+1)=f+1:=by rw[A8];omega
 go_enter func158,ntmps158
 go_wp2
 go_ret
 exact⟨rfl,rfl⟩
theorem vQ (f:Int) (w:Ad) (h:1<=f/\f<=3):CS 50 #[f] w (3*f+1:Int):=by
 obtain⟨e1,e2⟩:=jBc h;go_enter func50,ntmps50
 go_wp2
 go_ret
 exact⟨rfl,rfl⟩
theorem ZW (id f x:Int) (v:Aj) (w:Ad) (h:1<=f/\f<=3):CB 107 #[ndV id f v,x] w (decide (0<=x/\x<3*f+1)):=by
 have KN:H (∀ W,CS 72 #[f] W (3*f+1:Int)):=fun W=>vG f W h
 have KB:H (Ab w w (w.alloc (J #[id,f,v] 26))):=(Az _ _).alloc (Ay _) _;obtain⟨m,HM⟩:=nnH (3*f+1);rw[HM.out] at KN |-;by_cases h1:0<=x
 .have a0:x≥0:=h1;by_cases h2:x<m
  .have e:decide (0<=x/\x<m)=Aw:=Bf ⟨h1,h2⟩;rw[e];go_enter func107,ntmps107
   go_wp2_with (go_at_call 72;refine Ax (KN _) ?_;rintro e w' ⟨rfl,hw⟩;obtain rfl:=hw.symm;clear hw)
   go_ret
   exact⟨rfl,KB⟩
  .have e:decide (0<=x/\x<m)=Av:=Bh (fun h=>h2 h.2);rw[e];go_enter func107,ntmps107
   go_wp2_with (go_at_call 72;refine Ax (KN _) ?_;rintro e w' ⟨rfl,hw⟩;obtain rfl:=hw.symm;clear hw)
   go_ret
   exact⟨by simp[h2],KB⟩
 .have a0:¬ x≥0:=h1;have e:decide (0<=x/\x<m)=Av:=Bh (fun h=>h1 h.1);rw[e];go_enter func107,ntmps107
  go_wp2_with (go_at_call 72;refine Ax (KN _) ?_;rintro e w' ⟨rfl,hw⟩;obtain rfl:=hw.symm;clear hw)
  go_ret
  exact⟨rfl,KB⟩
theorem jC5 (id f:Int) (v:Aj) (w:Ad):CB 57 #[ndV id f v] w (seB id f):=by
 obtain⟨w0,a0⟩:=nmH (w.alloc (J #[id,f,v] 26));have KB:H (Ab w w w0):=by show Ab _ _ _;rw[a0.out];exact(Az _ _).alloc (Ay _) _
 obtain⟨A,HA⟩:=nmH w.1.size;have HR:=jZ a0 HA;have KF:H (∀ W,CS 71 #[f] W (fB f)):=jEo f;by_cases hf:1<=f/\f<=3
 .have e:fB f=Aw:=Bf hf;have HE:H (decide (0<=id/\id<3*f+1)=seB id f):=by
   show _=_;unfold seB;simp[hf.1,hf.2]
  have KK:H (CB 107 #[ndV id f v,id] w0 (seB id f)):=by
   have:=ZW id f id v w0 hf
   rw[HE.out] at this;exact this
  rw[e] at KF;have x0:=HR.out.cell 0;have x1:=HR.out.cell 1;have x2:=HR.out.cell 2;simp at x0 x1 x2;go_enter func57,ntmps57
  go_wp2_with fail
  rw[<-a0.out,<-HA.out];refine Ax (KF.out _) ?_;rintro e w' ⟨rfl,hw⟩;obtain rfl:=hw.symm;clear hw;go_wp2_with fail
  refine Ax KK.out ?_;rintro e w1 ⟨rfl,b1⟩;go_wp2
  go_ret
  exact⟨rfl,jA KB.out b1⟩
 .have e:fB f=Av:=Bh hf;have e2:seB id f=Av:=Bh (fun h=>hf ⟨h.1,h.2.1⟩);rw[e] at KF;rw[e2];go_enter func57,ntmps57
  go_wp2_with fail
  rw[<-a0.out,<-HA.out];refine Ax (KF.out _) ?_;rintro e w' ⟨rfl,hw⟩;obtain rfl:=hw.symm;clear hw;go_wp2
  go_ret
  exact⟨rfl,KB.out⟩
def szN (l x:Nat):Int:=if x<=l then ((l-x:Nat):Int) else -1
theorem qF {l x:Nat} (h:x<=l):szN l x=((l-x:Nat):Int):=A6 h
theorem qD {l x:Nat} (h:¬ x<=l):szN l x = -1:=A5 h
def wtP (p:Pc):Nat:=p.r.size+p.b.size+(p.m+tot (fun i=>(p.S i).size) p.m)
def wtS (s:Sl):Nat:=s.r.size+wtP s.p+s.ze.length+s.zr.length
theorem jLc (p:Pc) (l:Nat):jQb p.r p.b p.m p.S l=szN l (wtP p):=by
 by_cases h:wtP p<=l
 .rw[qF h];exact jNe h
 .rw[qD h];exact jQc h
structure SlI (w:Ad) (s:Sl) (a6:OA):Prop where
 r:s.r.size<=Au
 pr:s.p.r.size<=Au
 pb:s.p.b.size<=Au
 tx:jOx w a6 s.p.m s.p.S
 ne:s.ze.length<=Au
 nr:s.zr.length<=Au
theorem jFf (a:OA) (n cap l:Nat) (w:Ad) (hn:n<=Au) (hl:l<=1048576):CS 80 #[V a n cap,(l:Int)] w (szN l n):=by
 unfold Au at hn;by_cases h:n<=l
 .rw[qF h];obtain⟨d,hd⟩:∃ d,l-n=d:=⟨_,rfl⟩;rw[hd];have e:IntKind.i64.wrap ((l:Int)-(n:Int))=(d:Int):=by rw[A8];omega
  have h0:¬ ((d:Int)<0):=by omega
  go_enter func80,ntmps80
  go_wp2
  go_ret
  exact⟨rfl,rfl⟩
 .rw[qD h];have e:IntKind.i64.wrap ((l:Int)-(n:Int))=(l:Int)-(n:Int):=by rw[A8];omega
  have h0:(l:Int)-(n:Int)<0:=by omega
  go_enter func80,ntmps80
  go_wp2
  go_ret
  exact⟨rfl,rfl⟩
theorem jNf (s:Sl) (a6 h0 i0:OA) (c6 j0 k0 l:Nat) (w:Ad) (h:SlI w s a6) (hl:l<=1048576):CB 192 #[slV s (V a6 s.p.m c6) (V h0 s.ze.length j0) (V i0 s.zr.length k0),(l:Int)] w (szN l (wtS s)):=by
 obtain⟨r,p,fh,fe,fd,fo,ze,zr⟩:=s;obtain⟨hr,s0,r0,e0,p0,q0⟩:=h;simp only at hr s0 r0 e0 p0 q0;have u0:H (wtS ⟨r,p,fh,fe,fd,fo,ze,zr⟩=r.size+wtP p+ze.length+zr.length):=rfl;rw[u0.out];simp only
 obtain⟨A,HA⟩:=nmH w.1.size;obtain⟨w0,a0⟩:=nmH (w.alloc (J (slC ⟨r,p,fh,fe,fd,fo,ze,zr⟩ (V a6 p.m c6) (V h0 ze.length j0) (V i0 zr.length k0)) 228));have RA:=jZ a0 HA;have n0:=bl1 a0;have c0:H (Ab w w w0):=n0;have KP:H (∀ l1:Nat,l1<=1048576->CB 143 #[pcV p.r p.k p.n p.i p.b (V a6 p.m c6),(l1:Int)] w0 (szN l1 (wtP p))):=fun l1 h1=>by
  rw[<-jLc];exact jGn p.r p.k p.n p.i p.b a6 p.m c6 p.S l1 w0 (e0.1.below n0) h1 e0.2.1 e0.2.2 s0 r0
 have KE:H (∀ (l1:Nat) W,l1<=1048576->CS 80 #[V h0 ze.length j0,(l1:Int)] W (szN l1 ze.length)):=fun l1 W h1=>jFf h0 _ j0 l1 W p0 h1
 have KZ:H (∀ (l1:Nat) W,l1<=1048576->CS 80 #[V i0 zr.length k0,(l1:Int)] W (szN l1 zr.length)):=fun l1 W h1=>jFf i0 _ k0 l1 W q0 h1
 obtain⟨pr,pk,pn,pi,pb,m,S⟩:=p;simp only at *;obtain⟨x,hx⟩:∃ x,r.size=x:=⟨_,rfl⟩;rw[hx] at hr |-;unfold Au at hr;generalize ze.length=le at *;generalize zr.length=lr at *;generalize wtP ⟨pr,pk,pn,pi,pb,m,S⟩=wp at *;clear s0 r0 e0 p0 q0 n0 u0;by_cases h1:x<=l
 case neg=>
  rw[qD (by omega)];have e1:IntKind.i64.wrap ((l:Int)-(x:Int))=(l:Int)-(x:Int):=by rw[A8];omega
  have n1:(l:Int)-(x:Int)<0:=by omega
  go_enter func192,ntmps192
  go_wp2
  go_ret
  exact⟨rfl,by rw[<-a0.out];exact c0.out⟩
 obtain⟨l1,m0⟩:∃ l1,l=x+l1:=⟨l-x,by omega⟩;have e1:IntKind.i64.wrap ((l:Int)-(x:Int))=(l1:Int):=by rw[A8];omega
 have n1:¬ ((l1:Int)<0):=by omega
 have b0:H _:=KP.out l1 (by omega);by_cases h2:wp<=l1
 case neg=>
  rw[qD (by omega)];rw[qD h2] at b0;clear m0;go_enter func192,ntmps192
  go_wp2_with fail
  rw[<-a0.out];refine Ax b0.out ?_;rintro e w1 ⟨rfl,b1⟩;go_wp2
  go_ret
  exact⟨rfl,jA c0.out b1⟩
 obtain⟨l2,o0⟩:∃ l2,l1=wp+l2:=⟨l1-wp,by omega⟩;have n2:¬ ((l2:Int)<0):=by omega
 rw[qF h2,show l1-wp=l2 by omega] at b0;have d0:H (∀ W,_):=fun W=>KE.out l2 W (by omega)
 by_cases h3:le<=l2
 case neg=>
  rw[qD (by omega)];rw[qD h3] at d0;clear m0 o0;go_enter func192,ntmps192
  go_wp2_with fail
  rw[<-a0.out,<-HA.out];refine Ax b0.out ?_;rintro e w1 ⟨rfl,b1⟩;have f0:=(RA.out.below b1 RA.out.lt).cell 11;simp at f0;go_wp2_with fail
  refine Ax (d0.out _) ?_;rintro e w2 ⟨rfl,hw⟩;obtain rfl:=hw.symm;clear hw;go_wp2
  go_ret
  exact⟨rfl,jA c0.out b1⟩
 obtain⟨l3,v0⟩:∃ l3,l2=le+l3:=⟨l2-le,by omega⟩;have n3:¬ ((l3:Int)<0):=by omega
 rw[qF h3,show l2-le=l3 by omega] at d0;have g0:H (∀ W,_):=fun W=>KZ.out l3 W (by omega)
 by_cases h4:lr<=l3
 case neg=>
  rw[qD (by omega)];rw[qD h4] at g0;clear m0 o0 v0;go_enter func192,ntmps192
  go_wp2_with fail
  rw[<-a0.out,<-HA.out];refine Ax b0.out ?_;rintro e w1 ⟨rfl,b1⟩;have f0:=(RA.out.below b1 RA.out.lt).cell 11;have t0:=(RA.out.below b1 RA.out.lt).cell 12;simp at f0 t0;go_wp2_with fail
  refine Ax (d0.out _) ?_;rintro e w2 ⟨rfl,hw⟩;obtain rfl:=hw.symm;clear hw;go_wp2_with fail
  refine Ax (g0.out _) ?_;rintro e w3 ⟨rfl,hw⟩;obtain rfl:=hw.symm;clear hw;go_wp2
  go_ret
  exact⟨rfl,jA c0.out b1⟩
 obtain⟨l4,x0⟩:∃ l4,l3=lr+l4:=⟨l3-lr,by omega⟩;have n4:¬ ((l4:Int)<0):=by omega
 rw[qF h4,show l3-lr=l4 by omega] at g0;rw[qF (by omega),show l-(x+wp+le+lr)=l4 by omega];clear m0 o0 v0 x0;go_enter func192,ntmps192
 go_wp2_with fail
 rw[<-a0.out,<-HA.out];refine Ax b0.out ?_;rintro e w1 ⟨rfl,b1⟩;have f0:=(RA.out.below b1 RA.out.lt).cell 11;have t0:=(RA.out.below b1 RA.out.lt).cell 12;simp at f0 t0;go_wp2_with fail
 refine Ax (d0.out _) ?_;rintro e w2 ⟨rfl,hw⟩;obtain rfl:=hw.symm;clear hw;go_wp2_with fail
 refine Ax (g0.out _) ?_;rintro e w3 ⟨rfl,hw⟩;obtain rfl:=hw.symm;clear hw;go_wp2
 go_ret
 exact⟨rfl,jA c0.out b1⟩
structure SlB (s:Sl):Prop where
 r:s.r.size<=Au
 pr:s.p.r.size<=Au
 pb:s.p.b.size<=Au
 m:s.p.m<=Au
 tx:∀ i,i<s.p.m->(s.p.S i).size<=Au
 ne:s.ze.length<=Au
 nr:s.zr.length<=Au
theorem SlB.i {s:Sl} (h:SlB s) {w:Ad} {a6:OA} (ht:jK w a6 s.p.m s.p.S):SlI w s a6:=⟨h.r,h.pr,h.pb,⟨ht,h.m,h.tx⟩,h.ne,h.nr⟩
def wtL (n:Nat) (S:Nat->Sl):Nat:=n+tot (fun i=>wtS (S i)) n
theorem Tryz.infoSlL:(Tryz.prog.info? 228).map (·.size)=M 13:=by kernel_rfl
theorem jLd (a:OA) (n cap:Nat) (S:Nat->Sl) (l:Nat) (w:Ad) (h:Rd w (qG n S) (V a n cap)) (hl:l<=1048576) (hn:n<=Au) (hL:∀ i,i<n->SlB (S i)):CB 171 #[V a n cap,(l:Int)] w (szN l (wtL n S)):=by
 unfold Au at hn;by_cases h1:n<=l
 .obtain⟨d,hd⟩:∃ d,l-n=d:=⟨_,rfl⟩;have hw:IntKind.i64.wrap ((l:Int)-(n:Int))=(d:Int):=by rw[A8];omega
  have h0:¬ ((d:Int)<0):=by omega
  have KL:H (∀ i,i<n->SlB (S i)):=hL;have KH:H (Rd w (qG n S) (V a n cap)):=h;clear hL h;go_enter func171,ntmps171
  go_wp2
  go_loopw [1,5] (fun p i wr=>∃ c q:Nat,c<=n/\q<=1048576/\H (tot (fun i=>wtS (S i)) c+q=d)/\p=Ao Ar (q:Int)/\i=Ao Ar (c:Int)/\Ab w w wr) (fun _ i _=>n-(intOf i).toNat)
  case atStart=>exact⟨0,d,Bi _,by omega,by show 0+d=d;omega,rfl,rfl,Az _ _⟩
  case round=>
   obtain⟨c,q,hc,hq,HT,rfl,rfl,a0⟩:=hrel;clear hw h0;by_cases hlt:c<n
   .obtain⟨b1,f1,y1,p6,n0,o0,q6,p0,q0,rfl,f0,e1,g0,j0,m0⟩:=vI (KH.below a0) hlt;have i0:=jGs (fun i=>wtS (S i)) hlt;have r0:(c:Int)<(n:Int):=by omega
    have e0:=HT.out;obtain⟨lc,c0⟩:=nnH (wtS (S c));have d0:H (tot (fun i=>wtS (S i)) (c+1)=tot (fun i=>wtS (S i)) c+lc):=by rw[<-c0.out];rfl
    have b0:tot (fun i=>wtS (S i)) c+lc<=tot (fun i=>wtS (S i)) n:=by rw[<-c0.out];exact i0
    have KZ:H (CB 192 #[jIl y1,(q:Int)] wr (szN q lc)):=by
     rw[e1,<-c0.out];exact jNf (S c) p6 n0 o0 q6 p0 q0 q wr ((KL c hlt).i g0) hq
    obtain⟨_,x⟩:=zU (sz:=12) wr (Az _ _) f0;have R1:H (wr.rangeAt b1 (f1+c*13) [y1 0,y1 1,y1 2,y1 3,y1 4,y1 5,y1 6,y1 7,y1 8,y1 9,y1 10,y1 11,y1 12]):=jAh x;have KB:H (Ab w w wr):=a0;clear i0 f0 e1 g0 j0 m0 x a0;by_cases h2:lc<=q
    .obtain⟨q',k0⟩:∃ q',q-lc=q':=⟨_,rfl⟩;have h3:¬ ((q':Int)<0):=by omega
     have HT2:H (tot (fun i=>wtS (S i)) (c+1)+q'=d):=by show _=_;rw[d0.out];omega
     have hq2:q'<=1048576:=by omega
     rw[qF h2,k0] at KZ;clear HT e0 b0 d0;go_wp2_with (refine Bv rfl 228 _ rfl b1 (f1+c*13) rfl _ _ R1 underlying228 rfl Tryz.infoSlL ?_)
     refine Ax KZ.out ?_;rintro e w1 ⟨rfl,bb⟩;have KB1:H (Ab w w w1):=jA KB bb;clear bb KZ R1;go_wp2
     go_roundw
     case rel=>exact⟨c+1,q',by omega,hq2,HT2,rfl,by go_num,KB1.out⟩
     case measure=>simp[intOf] <;> omega
    .have HR:H (szN l (wtL n S) = -1):=qD (by unfold wtL;omega);rw[qD h2] at KZ;clear HT e0 b0 d0;go_wp2_with (refine Bv rfl 228 _ rfl b1 (f1+c*13) rfl _ _ R1 underlying228 rfl Tryz.infoSlL ?_)
     refine Ax KZ.out ?_;rintro e w1 ⟨rfl,bb⟩;have KB1:H (Ab w w w1):=jA KB bb;clear bb KZ R1;go_wp2
     go_ret
     exact⟨jS HR.symm,KB1⟩
   .obtain rfl:c=n:=by omega
    have HR:H (szN l (wtL c S)=(q:Int)):=by
     have:=HT.out
     have e:l-(c+tot (fun i=>wtS (S i)) c)=q:=by omega
     exact(qF (by unfold wtL;omega)).trans (by unfold wtL;rw[e])
    clear KH;go_wp2
    go_ret
    exact⟨jS HR.symm,a0⟩
 .have h0:(l:Int)-(n:Int)<0:=by omega
  have hw:IntKind.i64.wrap ((l:Int)-(n:Int))=(l:Int)-(n:Int):=by rw[A8];omega
  have HR:H (szN l (wtL n S) = -1):=qD (by unfold wtL;omega);clear h hL;go_enter func171,ntmps171
  go_wp2
  go_ret
  exact⟨jS HR.symm,Az _ _⟩
theorem jNb (id f:Int) (a:OA) (n cap:Nat) (S:Nat->Sl) (l:Nat) (w:Ad) (h:Rd w (qG n S) (V a n cap)) (hl:l<=1048576) (hn:n<=Au) (hL:∀ i,i<n->SlB (S i)):CB 142 #[Ai #[id,f,V a n cap],(l:Int)] w (szN l (wtL n S)):=by
 obtain⟨w0,a0⟩:=nmH (w.alloc (J #[id,f,V a n cap] 190));have b0:=bl1 a0;have c0:=hd b0;have KZ:H _:=jLd a n cap S l w0 (h.below b0) hl hn hL;by_cases h1:wtL n S<=l
 obtain⟨d,hd⟩:∃ d,l-wtL n S=d:=⟨_,rfl⟩;rw[qF h1,hd] at KZ;rw[qF h1,hd];have h0:¬ ((d:Int)<0):=by omega
 rotate_left;rw[qD h1] at KZ;rw[qD h1];rotate_left;all_goals
  go_enter func142,ntmps142
  go_wp2_with fail
  rw[<-a0.out];refine Ax KZ.out ?_;rintro e w1 ⟨rfl,b1⟩;go_wp2
  go_ret
  exact⟨rfl,jA c0 b1⟩
def XX (f:Int) (zs:List Int):Prop:=∀ i,i<zs.length->(0<=zs.getD i 0/\zs.getD i 0<3*f+1)/\(0<i->zs.getD (i-1) 0<zs.getD i 0)
noncomputable def JH (f:Int) (zs:List Int):Bool:=@decide (XX f zs) (Classical.propDecidable _)
theorem JI {f:Int} {zs:List Int} (h:XX f zs):JH f zs=Aw:=by unfold JH;exact @Bf _ (Classical.propDecidable _) h
theorem ZY {f:Int} {zs:List Int} (h:¬ XX f zs):JH f zs=Av:=by unfold JH;exact @Bh _ (Classical.propDecidable _) h
theorem zQ (id f:Int) (v:Aj) (a:OA) (n cap:Nat) (zs:List Int) (w:Ad) (h:jH w a n zs) (hf:1<=f/\f<=3) (hn:n<=1048576):CB 117 #[ndV id f v,V a n cap] w (JH f zs):=by
 obtain⟨A,HA⟩:=nmH w.1.size;obtain⟨w0,e0⟩:=nmH (w.alloc (J #[id,f,v] 26));have HR:=jZ e0 HA;have g0:=bl1 e0;have f0:H (Ab w w w0):=g0;have KI:H (jH w0 a n zs):=h.below g0;have hl:zs.length=n:=h.1;have KK:H (∀ x W,CB 107 #[ndV id f v,Ao Ar x] W (decide (0<=x/\x<3*f+1))):=fun x W=>ZW id f x v W hf
 clear h g0 hf;go_enter func117,ntmps117
 go_wp2
 rw[<-e0.out,<-HA.out];go_loopw [9] (fun vi wr=>∃ k:Nat,k<=n/\vi=Ao Ar (k:Int)/\H (∀ i,i<k->(0<=zs.getD i 0/\zs.getD i 0<3*f+1)/\(0<i->zs.getD (i-1) 0<zs.getD i 0))/\Ab w0 w0 wr) (fun vi _=>n-(intOf vi).toNat)
 case atStart=>exact⟨0,Bi _,rfl,fun i hi=>Bo hi (Bk _),Az _ _⟩
 case round=>
  obtain⟨k,hk,rfl,HP,a0⟩:=hrel;by_cases hlt:k<n
  .have n0:(k:Int)<(n:Int):=by omega
   obtain⟨b,off,rfl,hc⟩:=(KI.out.below a0).some (by omega);have b0:=hc k hlt;have R1:=HR.out.below a0 HR.out.lt;have x0:=R1.cell 0;have x1:=R1.cell 1;have x2:=R1.cell 2;simp at x0 x1 x2;have KB:H (Ab w0 w0 wr):=a0;have lb:=A7 b0;obtain⟨z,HZ⟩:=nnH (zs.getD k 0);rw[HZ.out] at b0;have KN:H _:=KK.out z wr;by_cases hz:0<=z/\z<3*f+1
   .rw[Bf hz] at KN;by_cases k0:k=0
    .subst k0;have HP2:H (∀ i,i<0+1->(0<=zs.getD i 0/\zs.getD i 0<3*f+1)/\(0<i->zs.getD (i-1) 0<zs.getD i 0)):=fun i hi=>by
      obtain rfl:i=0:=by omega
      rw[HZ.out];exact⟨hz,fun h=>Bo h (by omega)⟩
     simp only[Cp] at b0;clear hc R1 a0 hz HP;go_wp2_with fail
     refine Ax KN.out ?_;rintro e w1 ⟨rfl,b1⟩;have KB1:H (Ab w0 w0 w1):=jA KB.out b1;clear b1 KN x0 x1 x2;go_wp2
     go_roundw
     case rel=>exact⟨0+1,by omega,by go_num,HP2,KB1.out⟩
     case measure=>simp[intOf];omega
    .have o0:(k:Int)>0:=by omega
     have c0:=hc (k-1) (by omega);obtain⟨k1,d0⟩:∃ k1,H (k=k1+1):=⟨k-1,by show k=_;omega⟩;have e1:IntKind.i64.wrap ((k:Int)-1)=(k1:Int):=by have:=d0.out;rw[A8];omega
     have j0:(k1:Int)<(n:Int):=by have:=d0.out;omega
     have m0:(0:Int)<=(k1:Int):=by omega
     rw[show k-1=k1 by have:=d0.out;omega] at c0;obtain⟨y,HY⟩:=nnH (zs.getD k1 0);rw[HY.out] at c0;by_cases hyz:y<z
     .have i0:¬ (y≥z):=by omega
      have HP2:H (∀ i,i<k+1->(0<=zs.getD i 0/\zs.getD i 0<3*f+1)/\(0<i->zs.getD (i-1) 0<zs.getD i 0)):=fun i hi=>by
       by_cases ei:i=k
       .subst ei;rw[show i-1=k1 by have:=d0.out;omega,HZ.out,HY.out];exact⟨hz,fun _=>hyz⟩
       .exact HP.out i (by omega)
      clear hc R1 a0 hz HP hyz;go_wp2_with fail
      refine Ax KN.out ?_;rintro e w1 ⟨rfl,b1⟩;have h0:=(b1.cell (p:=Q b (off+k1) I) lb).trans c0;have KB1:H (Ab w0 w0 w1):=jA KB.out b1;clear b1 KN x0 x1 x2 c0 b0;go_wp2
      go_roundw
      case rel=>exact⟨k+1,by omega,by go_num,HP2,KB1.out⟩
      case measure=>simp[intOf];omega
     .have i0:y≥z:=by omega
      have HN:H (JH f zs=Av):=ZY fun h=>by
       have:=(h k (by omega)).2 (by omega)
       rw[show k-1=k1 by have:=d0.out;omega,HZ.out,HY.out] at this;omega
      clear hc R1 a0 hz HP hyz;go_wp2_with fail
      refine Ax KN.out ?_;rintro e w1 ⟨rfl,b1⟩;have h0:=(b1.cell (p:=Q b (off+k1) I) lb).trans c0;have KB1:H (Ab w w w1):=jA f0.out (jA KB.out b1);clear b1 KN x0 x1 x2 c0 b0;go_wp2
      go_ret
      exact⟨jQ HN.out.symm,KB1.out⟩
   .rw[Bh hz] at KN;have HN:H (JH f zs=Av):=ZY fun h=>hz (by have:=(h k (by omega)).1;rw[HZ.out] at this;exact this)
    clear hc R1 a0 hz HP;go_wp2_with fail
    refine Ax KN.out ?_;rintro e w1 ⟨rfl,b1⟩;have KB1:H (Ab w w w1):=jA f0.out (jA KB.out b1);clear b1 KN x0 x1 x2 b0;go_wp2
    go_ret
    exact⟨jQ HN.out.symm,KB1.out⟩
  .obtain rfl:k=n:=by omega
   have HN:H (JH f zs=Aw):=JI fun i hi=>HP.out i (by omega)
   have KB1:H (Ab w w wr):=jA f0.out a0;clear a0;go_wp2
   go_ret
   exact⟨jQ HN.out.symm,KB1.out⟩
theorem jAb {H:Type} {enc:TypeId×Aj->H} {w:Ad} {base:Nat} {c0:Nat->Bool} {e0:Bool} {α:Type} (z:α) {T e sz:Nat} (t':Nat) (D:α->Nat->Dt) (Bd:α->Prop) (hu:Tryz.prog.underlying T=M (.slice e)) (hc:Tryz.prog.cellsOf e=sz) (m0:0<sz) (each:∀ {a0:Nat} {cs:List Aj} {x:DataW H×List MemPlace},DataW.trod enc prog w base c0 e0 a0 e cs=M x->∃ y:α,cs.length=sz/\(∀ q,q<sz->Rd w (D y q) (cs.getD q O))/\Bd y) {a0:Nat} {a:OA} {n c:Nat} {x:DataW H×List MemPlace} (h:DataW.trod enc prog w base c0 e0 a0 T [V a n c]=M x):∃ P:Nat->α,Rd w (.lst t' sz n fun i=>D (P i)) (V a n c)/\n<=Au/\∀ i,i<n->Bd (P i):=by
 rcases Go.Deep.open_slice hu h with ⟨b0,_⟩|⟨ad,len,cap,m,n',D',Pl,b0,hb,hl,hm,r0,_,hx⟩
 .simp at b0;obtain⟨rfl,rfl,rfl⟩:=b0;exact⟨fun _=>z,Rd.nil _ _ _ _ _ _,Bi _,fun i hi=>Bo hi (Bk _)⟩
 .simp at b0;obtain⟨rfl,rfl,rfl⟩:=b0;rw[hc] at hx;have w0:n<=m:=by rw[r0];split <;> omega
  obtain⟨b,off,f0⟩:=ad;have ea:∀ (b off i:Nat),((Q b off I):Al).add i=(Q b (off+i) I):=fun b off i=>by unfold Addr.add;split <;> simp_all
  have g0:∀ i,∃ p:α,i<n->f0=I/\(∀ q,q<sz->∃ y,w.cell? (Q b (off+(i*sz+q)) I)=M y/\Rd w (D p q) y)/\Bd p:=fun i=>by
   by_cases hi:i<n
   .obtain⟨n0,h1,h2⟩:=hx i (by omega);obtain⟨p,p0,s0,o0⟩:=each h2;obtain⟨_,u0,i0⟩:=World.cells?_some h1;have j0:f0=I:=by
     obtain⟨k0,g1,g2⟩:=hx 0 (by omega);obtain⟨_,q0,d0⟩:=World.cells?_some g1;have h0:=d0 0 m0;obtain⟨v0,t0⟩:∃ v,k0[0]?=M v:=⟨k0[0],Bj (by omega)⟩;rw[t0] at h0;simpa [Addr.add] using World.cell?_spot h0
    subst j0;refine⟨p,fun _=>⟨rfl,fun q hq=>⟨n0.getD q O,?_,s0 q hq⟩,o0⟩⟩;have h3:=i0 q hq;rw[ea,ea] at h3;rw[<-Ee,h3,Bw,Bj (by omega)];rfl
   .exact⟨z,fun h=>Bo h hi⟩
  obtain⟨P,hP⟩:=Ex g0;refine⟨P,⟨_,_,rfl,fun i hi=>?_⟩,by omega,fun i hi=>(hP i hi).2.2⟩;obtain⟨hs,h1,_⟩:=hP i hi;subst hs;exact⟨b,off,rfl,h1⟩
theorem zV {H:Type} {enc:TypeId×Aj->H} {w:Ad} {base:Nat} {c0:Nat->Bool} {e0:Bool} {d0:Nat} {v:Aj} {x:DataW H×List MemPlace} (h:DataW.trod enc prog w base c0 e0 d0 40 [v]=M x):∃ (a:OA) (zs:List Int) (c:Nat),v=V a zs.length c/\jH w a zs.length zs/\zs.length<=Au:=by
 rcases open_ints Ec Db (by kernel_rfl) h with ⟨a0,_⟩|⟨ad,l,c,zs,a0,_,hl,hm,hz,_,b0,f0⟩
 .simp at a0;subst a0;exact⟨I,[],0,rfl,⟨rfl,fun i hi=>Bo hi (Bk _)⟩,Bi _⟩
 .simp at a0;subst a0;have hR:jOw Ar w (M ad) l zs.length zs:=.inr ⟨_,rfl,by rw[hz];split <;> omega,by rw[hz];split <;> omega,rfl,b0,f0⟩;obtain⟨_,hi,_⟩:=hR.ints;have e:=hi.1;refine⟨M ad,zs.take l,c,by rw[e],?_,by rw[e];omega⟩;rw[e];exact hi
theorem jRa {α:Type} (l:List α) (h:l.length=13):∃ c0 c1 c2 c3 c4 c5 c6 c7 c8 c9 c10 c11 c12,l=[c0,c1,c2,c3,c4,c5,c6,c7,c8,c9,c10,c11,c12]:=by
 match l,h with
 | [c0,c1,c2,c3,c4,c5,c6,c7,c8,c9,c10,c11,c12],_=>exact⟨c0,c1,c2,c3,c4,c5,c6,c7,c8,c9,c10,c11,c12,rfl⟩
theorem jSi {α:Type} (l:List α) (h:l.length=8):∃ c0 c1 c2 c3 c4 c5 c6 c7,l=[c0,c1,c2,c3,c4,c5,c6,c7]:=by
 match l,h with
 | [c0,c1,c2,c3,c4,c5,c6,c7],_=>exact⟨c0,c1,c2,c3,c4,c5,c6,c7,rfl⟩
theorem jRb {α:Type} (l:List α) (h:l.length=3):∃ c0 c1 c2,l=[c0,c1,c2]:=by
 match l,h with
 | [c0,c1,c2],_=>exact⟨c0,c1,c2,rfl⟩
theorem jJ7 {H:Type} {enc:TypeId×Aj->H} {w:Ad} {base:Nat} {a0:Nat->Bool} {d0:Bool} {b0:Nat} {cs:List Aj} {x:DataW H×List MemPlace} (h:DataW.trod enc prog w base a0 d0 b0 228 cs=M x):∃ s:Sl,cs.length=13/\(∀ q,q<13->Rd w (slD s q) (cs.getD q O))/\SlB s:=by
 have h0:Tryz.prog.cellsOf 228=13:=by kernel_rfl
 have k0:Tryz.prog.cellsOf 64=6:=by kernel_rfl
 have m0:Tryz.prog.cellsOf 9=1:=by kernel_rfl
 have i0:Tryz.prog.cellsOf 4=1:=by kernel_rfl
 have j0:Tryz.prog.cellsOf 40=1:=by kernel_rfl
 obtain⟨xs,f,_,_,hl,f0,hf⟩:=Ey underlying228 h;rw[h0] at hl;obtain⟨c0,c1,c2,c3,c4,c5,c6,c7,c8,c9,p0,q0,r0,rfl⟩:=jRa cs hl;obtain⟨y0,y1,y2,y3,y4,y5,y6,y7,rfl⟩:=jSi xs f0;have g0:=hf 0 _ rfl;have g1:=hf 1 _ rfl;have g2:=hf 2 _ rfl;have g3:=hf 3 _ rfl;have g4:=hf 4 _ rfl;have g5:=hf 5 _ rfl;have g6:=hf 6 _ rfl;have g7:=hf 7 _ rfl;simp[m0,k0,i0,j0] at g0 g1 g2 g3 g4 g5 g6 g7;obtain⟨r,e0,_,hr⟩:=Fk C6 g0;obtain⟨pr,pk,pn,pi,pb,pa,pm,pc,pS,e1,_,o0,n0,ht⟩:=XF g1;obtain⟨bh,e2,_⟩:=DataW.trod_bool underlying4 g2;obtain⟨be,e3,_⟩:=DataW.trod_bool underlying4 g3;obtain⟨bd,e4,_⟩:=DataW.trod_bool underlying4 g4;obtain⟨bo,e5,_⟩:=DataW.trod_bool underlying4 g5;obtain⟨a1,ze,z1,e6,i1,n1⟩:=zV g6;obtain⟨a2,zr,z2,e7,i2,n2⟩:=zV g7;simp at e0 e1 e2 e3 e4 e5;obtain⟨rfl,rfl,rfl,rfl,rfl,rfl⟩:=e1;subst e0 e2 e3 e4 e5 e6 e7;refine⟨⟨r,⟨pr,pk,pn,pi,pb,pm,pS⟩,bh,be,bd,bo,ze,zr⟩,rfl,fun q hq=>?_,⟨hr,o0,n0,ht.2.1,ht.2.2,n1,n2⟩⟩;match q,hq with
 | 0,_|1,_|2,_|3,_|4,_|5,_|7,_|8,_|9,_|10,_=>rfl
 | 6,_=>exact zW.2 ht.1
 | 11,_=>exact qK.2 i1
 | 12,_=>exact qK.2 i2
theorem jHp {H:Type} {enc:TypeId×Aj->H} {w:Ad} {base:Nat} {a0:Nat->Bool} {c0:Bool} {b0:Nat} {a:OA} {n c:Nat} {x:DataW H×List MemPlace} (h:DataW.trod enc prog w base a0 c0 b0 188 [V a n c]=M x):∃ S:Nat->Sl,Rd w (qG n S) (V a n c)/\n<=Au/\∀ i,i<n->SlB (S i):=
 jAb ⟨Ap,⟨Ap,0,0,0,Ap,0,fun _=>Ap⟩,Av,Av,Av,Av,[],[]⟩ 42 slD SlB underlying188 (by kernel_rfl) (by omega) jJ7 h
theorem jJ5 {H:Type} {enc:TypeId×Aj->H} {w:Ad} {base:Nat} {b0:Nat->Bool} {f0:Bool} {d0:Nat} {cs:List Aj} {x:DataW H×List MemPlace} (h:DataW.trod enc prog w base b0 f0 d0 190 cs=M x):∃ (id f:Int) (a:OA) (n c:Nat) (S:Nat->Sl),cs=[Ao Ar id,Ao Ar f,V a n c]/\Rd w (qG n S) (V a n c)/\n<=Au/\∀ i,i<n->SlB (S i):=by
 have c3:Tryz.prog.cellsOf 190=3:=by kernel_rfl
 have i0:Tryz.prog.cellsOf 3=1:=by kernel_rfl
 have j0:Tryz.prog.cellsOf 188=1:=by kernel_rfl
 obtain⟨xs,f,_,_,hl,h0,hf⟩:=Ey underlying190 h;rw[c3] at hl;obtain⟨c0,c1,c2,rfl⟩:=jRb cs hl;obtain⟨y0,y1,y2,rfl⟩:=jRb xs h0;have g0:=hf 0 _ rfl;have g1:=hf 1 _ rfl;have g2:=hf 2 _ rfl;simp[i0,j0] at g0 g1 g2;obtain⟨id,e0,_,u0⟩:=Dr Db g0;obtain⟨ff,e1,_,u1⟩:=Dr Db g1;simp at e0 e1;subst e0 e1;obtain⟨a,n,c,rfl⟩:∃ a n c,c2=V a n c:=by
  rcases Go.Deep.open_slice underlying188 g2 with ⟨a0,_⟩|⟨ad,len,cap,m,n',D',Pl,a0,_⟩
  .simp at a0;exact⟨I,0,0,a0⟩
  .simp at a0;exact⟨M ad,len,cap,a0⟩
 obtain⟨S,h1,h2,h3⟩:=jHp g2;exact⟨id,ff,a,n,c,S,rfl,h1,h2,h3⟩
def plF (S:Nat->Sl) (root:BA):Nat->Nat->Option Nat
 | 0,_=>I
 | f+1,k=>if (S k).r=root then M k else plF S root f (k+1)
def plc (S:Nat->Sl) (root:BA) (n:Nat):Option Nat:=plF S root n 0
theorem xA {S:Nat->Sl} {a0:BA}:∀ {f k x:Nat},plF S a0 f k=M x->k<=x/\x<k+f/\(S x).r=a0/\∀ i,k<=i->i<x->(S i).r≠a0
 | 0,_,_,h=>by cases h
 | f+1,k,x,h=>by
  unfold plF at h;by_cases e:(S k).r=a0
  .rw[A6 e] at h;cases h;exact⟨Ay _,by omega,e,fun i h1 h2=>by omega⟩
  .rw[A5 e] at h;obtain⟨h1,h2,h3,h4⟩:=xA h;refine⟨by omega,by omega,h3,fun i hi hx=>?_⟩;by_cases ei:i=k
   .rw[ei];exact e
   .exact h4 i (by omega) hx
theorem ZD {S:Nat->Sl} {a0:BA}:∀ {f k:Nat},plF S a0 f k=I->∀ i,k<=i->i<k+f->(S i).r≠a0
 | 0,_,_,i,h1,h2=>by omega
 | f+1,k,h,i,h1,h2=>by
  unfold plF at h;by_cases e:(S k).r=a0
  .rw[A6 e] at h;cases h
  .rw[A5 e] at h;by_cases ei:i=k
   .rw[ei];exact e
   .exact ZD h i (by omega) (by omega)
def plX (S:Nat->Sl) (root:BA) (n:Nat):Int:=match plc S root n with
 | some x=>(x:Int)
 | none=>-1
def eqR (s root:BA):Bool:=decide (s=root)
theorem jIz {s a0:BA} (h:s=a0):eqR s a0=Aw:=Bf h
theorem jNt {s a0:BA} (h:s≠a0):eqR s a0=Av:=Bh h
theorem jEz (s:Sl) (v6 b0 c0:Aj) (R:Nat) (a0:BA) (w:Ad) (hR:w.cell? R=M (Ag a0)):CB 116 #[slV s v6 b0 c0,Af R] w (eqR s.r a0):=by
 have lR:=A7 hR;have KB:H (Ab w w (w.alloc (J (slC s v6 b0 c0) 42))):=(Az _ _).alloc (Ay _) _;by_cases h:s.r=a0
 .rw[jIz h];have hb:(s.r.toList==a0.toList)=Aw:=by rw[h];simp
  go_enter func116,ntmps116
  go_wp2
  go_ret
  exact⟨rfl,KB⟩
 .rw[jNt h];have hb:=jEe h;go_enter func116,ntmps116
  go_wp2
  go_ret
  exact⟨rfl,KB⟩
theorem jJf (a:OA) (n cap:Nat) (S:Nat->Sl) (R:Nat) (a0:BA) (w:Ad) (h:Rd w (qG n S) (V a n cap)) (hn:n<=1048576) (hR:w.cell? R=M (Ag a0)):CB 115 #[V a n cap,.func (.func 116) #[] #[Af R]] w (plX S a0 n):=by
 have KH:=hd h;have KR:=hd hR;clear h hR;go_enter func115,ntmps115
 go_wp2
 go_loopw [8] (fun vi wr=>∃ k:Nat,k<=n/\vi=Ao Ar (k:Int)/\H (plF S a0 (n-k) k=plc S a0 n)/\Ab w w wr) (fun vi _=>n-(intOf vi).toNat)
 case atStart=>exact⟨0,Bi _,rfl,rfl,Az _ _⟩
 case round=>
  obtain⟨k,hk,rfl,HP,c0⟩:=hrel;by_cases hlt:k<n
  .have k0:(k:Int)<(n:Int):=by omega
   obtain⟨b1,f1,y1,p6,g0,h0,q6,i0,j0,rfl,f0,e1,_,_,_⟩:=vI (KH.below c0) hlt;have e0:=(c0.cell (p:=R) (A7 KR)).trans KR;have KC:=jEz (S k) (V p6 (S k).p.m q6) (V g0 (S k).ze.length i0) (V h0 (S k).zr.length j0) R a0 wr e0;rw[<-e1] at KC;have KF:H _:=KC;obtain⟨_,x⟩:=zU (sz:=12) wr (Az _ _) f0;have R1:=hd (jAh x);have KB:=hd c0;have e2:n-k=(n-(k+1))+1:=by omega
   have b0:=HP.out;rw[e2] at b0;unfold plF at b0;clear KC f0 e1 x c0 e0 HP e2;by_cases hr:(S k).r=a0
   .rw[A6 hr] at b0;have HI:H (plX S a0 n=(k:Int)):=by show _=_;unfold plX;rw[<-b0]
    rw[jIz hr] at KF;clear b0 hr;go_wp2_with (refine Bv rfl 42 _ rfl b1 (f1+k*13) rfl [y1 0,y1 1,y1 2,y1 3,y1 4,y1 5,y1 6,y1 7,y1 8,y1 9,y1 10,y1 11,y1 12] _ ?_ C5 rfl Tryz.infoSl ?_;exact R1)
    refine Ax KF.out ?_;rintro e w1 ⟨rfl,d0⟩;have KB1:=hd (jA KB d0);clear d0;go_wp2
    go_ret
    exact⟨jS HI.symm,KB1⟩
   .rw[A5 hr] at b0;have HP2:=hd b0;rw[jNt hr] at KF;clear b0 hr;go_wp2_with (refine Bv rfl 42 _ rfl b1 (f1+k*13) rfl [y1 0,y1 1,y1 2,y1 3,y1 4,y1 5,y1 6,y1 7,y1 8,y1 9,y1 10,y1 11,y1 12] _ ?_ C5 rfl Tryz.infoSl ?_;exact R1)
    refine Ax KF.out ?_;rintro e w1 ⟨rfl,d0⟩;have KB1:=hd (jA KB d0);clear d0 KF R1;go_wp2
    go_roundw
    case rel=>exact⟨k+1,by omega,by go_num,HP2,KB1.out⟩
    case measure=>simp[intOf];omega
  .obtain rfl:k=n:=by omega
   have HI:H (plX S a0 k = -1):=by
    have:=HP.out
    rw[Nat.sub_self] at this;show _=_;unfold plX;rw[<-this];rfl
   go_wp2
   go_ret
   exact⟨jS HI.symm,c0⟩
theorem JW (id f:Int) (a:OA) (n cap:Nat) (S:Nat->Sl) (a0:BA) (w:Ad) (h:Rd w (qG n S) (V a n cap)) (hn:n<=1048576):CB 58 #[ndV id f (V a n cap),a0] w (plX S a0 n):=by
 have e0:∀ (fn:Fn) (first cap:Array Aj) (w:Ad),(Instr.makeFunc fn first cap).run prog w=.ok (.func fn first cap) w:=fun _ _ _ _=>rfl
 obtain⟨R,HR⟩:=nmH (w.1.size+1);obtain⟨w0,b0⟩:=nmH ((w.alloc (J #[id,f,V a n cap] 26)).alloc (J #[a0] 9));have c0:=bl2 b0;have d0:=hd c0;have hc:w0.cell? R=M (Ag a0):=by rw[b0.out,HR.out];simp
 have KI:H _:=jJf a n cap S R a0 w0 (h.below c0) hn hc;go_enter func58,ntmps58
 go_wp2_with fail
 rw[<-b0.out,<-HR.out];refine Ax KI.out ?_;rintro e w1 ⟨rfl,b1⟩;go_wp2
 go_ret
 exact⟨rfl,jA d0 b1⟩
def ofy (k:Nat) (S:Nat->Sy):Nat->Nat
 | 0=>k
 | i+1=>ofy k S i+9+(S i).p.m
theorem jF6 (k:Nat) (S:Nat->Sy) {i j:Nat} (h:i<=j):ofy k S i<=ofy k S j:=by
 induction j with
 | zero => obtain rfl : i = 0 := by omega
           exact Ay _
 | succ j ih=>
  by_cases e:i=j+1
  .subst e;exact Ay _
  .have:=ih (by omega)
   show _<=ofy k S j+9+(S j).p.m;omega
def zF (k:Nat) (S:Nat->Sy) (i:Nat):Sy:=⟨((ofy k S i:Nat):Int),((ofy k S i+1:Nat):Int),((ofy k S i+2:Nat):Int),xC (ofy k S i+3),⟨xC (ofy k S i+4),((ofy k S i+5:Nat):Int),((ofy k S i+6:Nat):Int),((ofy k S i+7:Nat):Int),xC (ofy k S i+8),(S i).p.m,fun j=>xC (ofy k S i+9+j)⟩⟩
theorem vT {w:Ad} {B:Nat} {a:OA} {cap:Nat} {zs:List Int} {F:Nat->Prop} (h:w.ownsRow B 3 1 (V a zs.length cap) zs.length (zs.map (Ao Ar))) (hF:∀ x,a=M x->F x.block):Ow w B (inD zs) (V a zs.length cap) F:=by
 refine⟨a,cap,fun i _=>Ao Ar (zs.getD i 0),fun _ _ _=>False,rfl,?_,⟨hF,fun _ _ _ _ _ h=>h.elim,fun _ _ _ _ _ _ h=>h,fun _ _ _ _ _ _ _ _ _ h=>h.elim⟩,fun _ _ _ _=>rfl⟩;have:cL 1 (fun i _=>Ao Ar (zs.getD i 0)) zs.length=zs.map (Ao Ar):=by
  apply Cn
  intro i;by_cases hi:i<zs.length
  .have:=jT 1 (fun i _=>Ao Ar (zs.getD i 0)) zs.length i 0 hi (by omega)
   rw[G5,Cp] at this;rw[this];simp[hi]
  .rw[Bb (by rw[jY];omega),Bb (by simp;omega)]
 rw[this];exact h
theorem JU {w:Ad} {B:Nat} {v:Aj} {zs:List Int} {F:Nat->Prop} (h:Ow w B (inD zs) v F):∃ a cap,v=V a zs.length cap/\w.ownsRow B 3 1 (V a zs.length cap) zs.length (zs.map (Ao Ar))/\∀ x,a=M x->F x.block:=by
 obtain⟨a,cap,c,G,e,ho,hs,hr⟩:=h;refine⟨a,cap,e,?_,hs.head⟩;have:cL 1 c zs.length=zs.map (Ao Ar):=by
  apply Cn
  intro i;by_cases hi:i<zs.length
  .have:=jT 1 c zs.length i 0 hi (by omega)
   rw[G5,Cp] at this;rw[this];have h2:=hr i 0 hi (by omega);rw[h2];simp[hi]
  .rw[Bb (by rw[jY];omega),Bb (by simp;omega)]
 rw[<-this];exact ho
theorem qR (w:Ad) (g:Nat) (cs:Array Aj):w.grownBy (w.setRow g cs) (M g):=⟨rfl,rfl,rfl,by simp,fun i _ hi=>Cj _ _ _ _ (fun e=>hi (by simp[e]))⟩
theorem World.size_setCells (b:Nat):∀ (vs:List Aj) (o:Nat) (w:Ad),(w.setCells b o vs).1.size=w.1.size
 | [],_,_=>rfl
 | v::r,o,w=>by rw[World.setCells,World.size_setCells b r (o+1) _];simp
theorem jNk (s:Sl) (a6 j0 k0:OA) (c6 o0 p0:Nat) (w:Ad) (h6:jK w a6 s.p.m s.p.S) (o1:jH w j0 s.ze.length s.ze) (p1:jH w k0 s.zr.length s.zr) (hs:SlS s):Ak prog 193 #[slV s (.slice a6 s.p.m c6) (.slice j0 s.ze.length o0) (.slice k0 s.zr.length p0)] w fun e w'=>∃ g6 b0 c0:Nat,e=Ae (slV s (.slice g6 s.p.m s.p.m) (.slice b0 s.ze.length s.ze.length) (.slice c0 s.zr.length s.zr.length))/\w.1.size<=g6/\g6<b0/\b0<c0/\c0<w'.1.size/\Ow w' w (txD s.p.m s.p.S) (.slice g6 s.p.m s.p.m) (fun g=>g=g6)/\Ow w' w (inD s.ze) (.slice b0 s.ze.length s.ze.length) (fun g=>g=b0)/\Ow w' w (inD s.zr) (.slice c0 s.zr.length s.zr.length) (fun g=>g=c0)/\Ab w w w':=by
 obtain⟨r,p,fh,fe,fd,fo,ze,zr⟩:=s;obtain⟨pr,pk,pn,pi,pb,m,S⟩:=p;obtain⟨hm,he,hz⟩:=hs;simp only at h6 o1 p1 hm he hz |-;obtain⟨A,HA⟩:=nmH w.1.size;obtain⟨D,HD⟩:=nmH (w.1.size+1);obtain⟨V,HV⟩:=nmH (w.1.size+1+1);obtain⟨w0,f0⟩:=nmH (((w.alloc (J (slC ⟨r,⟨pr,pk,pn,pi,pb,m,S⟩,fh,fe,fd,fo,ze,zr⟩ (.slice a6 m c6) (.slice j0 ze.length o0) (.slice k0 zr.length p0)) 228)).alloc (J #[Zs,Zs,(),(),(),Zs,.slice I 0 0,Av,Av,Av,Av,.slice I 0 0,.slice I 0 0] 42)).alloc (J #[r,Zs,(),(),(),Zs,.slice I 0 0,Av,Av,Av,Av,.slice I 0 0,.slice I 0 0] 42));have RA:=zD f0 HA;have RD:=xL f0 HD;have RV:=xR f0 HV;have q1:=bl3 f0;have a0:H (V≠D/\A≠V/\A≠D/\w.1.size<=D/\w.1.size<=V/\V<w0/\D<w0):=by
  have h1:=HV.out;have h2:=HD.out;have h3:=HA.out;exact⟨by omega,by omega,by omega,by omega,by omega,RV.out.lt,RD.out.lt⟩
 have s0:=hd q1;have KP:H _:=jGp pr pk pn pi pb a6 m c6 S w0 (h6.below q1) hm;have c1:H (∀ W,Ab w w W->Ak prog 84 #[.slice j0 ze.length o0] W fun e w'=>e=Ae (.slice (Q W.1.size 0 I) ze.length ze.length)/\w'.ownsRow W.1.size 3 1 (.slice (Q W.1.size 0 I) ze.length ze.length) ze.length (ze.map (Ao Ar))/\Ab W.1.size W w'):=fun W hW=>XL j0 _ o0 ze W (o1.below hW) he
 have e1:H (∀ W,Ab w w W->Ak prog 84 #[.slice k0 zr.length p0] W fun e w'=>e=Ae (.slice (Q W.1.size 0 I) zr.length zr.length)/\w'.ownsRow W.1.size 3 1 (.slice (Q W.1.size 0 I) zr.length zr.length) zr.length (zr.map (Ao Ar))/\Ab W.1.size W w'):=fun W hW=>XL k0 _ p0 zr W (p1.below hW) hz
 obtain⟨le,z0⟩:=nnH ze.length;obtain⟨lr,a1⟩:=nnH zr.length;have OI:H (∀ (B:Nat) (W:Ad) (g:Nat),W.ownsRow B 3 1 (.slice (Q g 0 I) le le) le (ze.map (Ao Ar))->Ow W B (inD ze) (.slice (Q g 0 I) le le) (fun x=>x=g)):=fun B W g ho=>by
  rw[<-z0.out] at ho |-;exact vT ho (fun x e=>by cases e;rfl)
 have OZ:H (∀ (B:Nat) (W:Ad) (g:Nat),W.ownsRow B 3 1 (.slice (Q g 0 I) lr lr) lr (zr.map (Ao Ar))->Ow W B (inD zr) (.slice (Q g 0 I) lr lr) (fun x=>x=g)):=fun B W g ho=>by
  rw[<-a1.out] at ho |-;exact vT ho (fun x e=>by cases e;rfl)
 rw[z0.out] at c1 RA f0 |-;rw[a1.out] at e1 RA f0 |-;go_enter func193,ntmps193
 go_wp2_with fail
 rw[<-f0.out,<-HV.out,<-HD.out,<-HA.out];refine Ax KP.out ?_;rintro e w1 ⟨g6,rfl,O6,b1⟩;have S6:=hd (A0 O6 g6 rfl);have A1:=RA.out.below b1 RA.out.lt;have D1:=hd (RD.out.below b1 RD.out.lt);have V1:=RV.out.below b1 RV.out.lt;have x7:=A1.cell 7;have x8:=A1.cell 8;have x9:=A1.cell 9;have v0:=A1.cell 10;have x0:=A1.cell 11;have y1:=V1.cell 1;have y2:=V1.cell 2;have y3:=V1.cell 3;have y4:=V1.cell 4;have y5:=V1.cell 5;have y6:=V1.cell 6;have y7:=V1.cell 7;have y8:=V1.cell 8;have y9:=V1.cell 9;have y0:=V1.cell 10;have f1:=V1.free 1;have f2:=V1.free 2;have f3:=V1.free 3;have f4:=V1.free 4;have f5:=V1.free 5;have f6:=V1.free 6;have f7:=V1.free 7;have f8:=V1.free 8;have f9:=V1.free 9;have g2:=V1.free 10;simp at x7 x8 x9 v0 x0 y1 y2 y3 y4 y5 y6 y7 y8 y9 y0;have TH:H (w1.there V 1 6):=fun j hj=>by
  match j,hj with
  | 0,_=>exact⟨by rw[y1];rfl,f1⟩
  | 1,_=>exact⟨by rw[y2];rfl,f2⟩
  | 2,_=>exact⟨by rw[y3];rfl,f3⟩
  | 3,_=>exact⟨by rw[y4];rfl,f4⟩
  | 4,_=>exact⟨by rw[y5];rfl,f5⟩
  | 5,_=>exact⟨by rw[y6];rfl,f6⟩
 obtain⟨wa,i0⟩:=nmH (w1.setCells V 1 (pcC pr pk pn pi pb (.slice g6 m m)).toList);have Va:H (Row wa V 42 #[r,pr,pk,pn,pi,pb,.slice g6 m m,Av,Av,Av,Av,.slice I 0 0,.slice I 0 0]):=by show Row _ _ _ _;rw[i0.out];exact((((((V1.set 1 _).set 2 _).set 3 _).set 4 _).set 5 _).set 6 _)
 have Aa:H (Row wa A 228 (slC ⟨r,⟨pr,pk,pn,pi,pb,m,S⟩,fh,fe,fd,fo,ze,zr⟩ (.slice a6 m c6) (.slice j0 le o0) (.slice k0 lr p0))):=by show Row _ _ _ _;rw[i0.out];exact((((((A1.other 1 _ a0.out.2.1).other 2 _ a0.out.2.1).other 3 _ a0.out.2.1).other 4 _ a0.out.2.1).other 5 _ a0.out.2.1).other 6 _ a0.out.2.1)
 have Da:H (Row wa D 42 #[Zs,Zs,(),(),(),Zs,.slice I 0 0,Av,Av,Av,Av,.slice I 0 0,.slice I 0 0]):=by show Row _ _ _ _;rw[i0.out];exact((((((D1.out.other 1 _ (Ci a0.out.1)).other 2 _ (Ci a0.out.1)).other 3 _ (Ci a0.out.1)).other 4 _ (Ci a0.out.1)).other 5 _ (Ci a0.out.1)).other 6 _ (Ci a0.out.1))
 have b2:H (jI wa w0 g6 m m S):=by show jI _ _ _ _ _ _;rw[i0.out];exact(jI.setFar (jI.setFar (jI.setFar (jI.setFar (jI.setFar (jI.setFar O6 a0.out.2.2.2.2.2.1) a0.out.2.2.2.2.2.1) a0.out.2.2.2.2.2.1) a0.out.2.2.2.2.2.1) a0.out.2.2.2.2.2.1) a0.out.2.2.2.2.2.1)
 have Ba:H (Ab w w wa):=by show Ab _ _ _;rw[i0.out];exact(Bn (Bn (Bn (Bn (Bn (Bn (jA s0.out b1) a0.out.2.2.2.2.1 _) a0.out.2.2.2.2.1 _) a0.out.2.2.2.2.1 _) a0.out.2.2.2.2.1 _) a0.out.2.2.2.2.1 _) a0.out.2.2.2.2.1 _)
 have k2:H (w1.1.size=wa.1.size):=by show _=_;rw[i0.out];exact(World.size_setCells _ _ _ _).symm
 have x7:=Aa.out.cell 7;have x8:=Aa.out.cell 8;have x9:=Aa.out.cell 9;have v0:=Aa.out.cell 10;have x0:=Aa.out.cell 11;have y7:=Va.out.cell 7;have y8:=Va.out.cell 8;have y9:=Va.out.cell 9;have y0:=Va.out.cell 10;have f7:=Va.out.free 7;have f8:=Va.out.free 8;have f9:=Va.out.free 9;have g2:=Va.out.free 10;simp at x7 x8 x9 v0 x0 y7 y8 y9 y0;obtain⟨w2,g0⟩:=nmH (((((wa.setCell (Q V 7 I) fh).setCell (Q V 8 I) fe).setCell (Q V 9 I) fd).setCell (Q V 10 I) fo));have V2:H (Row w2 V 42 #[r,pr,pk,pn,pi,pb,.slice g6 m m,fh,fe,fd,fo,.slice I 0 0,.slice I 0 0]):=by show Row _ _ _ _;rw[g0.out];exact((((Va.out.set 7 _).set 8 _).set 9 _).set 10 _)
 have A2:H (Row w2 A 228 (slC ⟨r,⟨pr,pk,pn,pi,pb,m,S⟩,fh,fe,fd,fo,ze,zr⟩ (.slice a6 m c6) (.slice j0 le o0) (.slice k0 lr p0))):=by show Row _ _ _ _;rw[g0.out];exact((((Aa.out.other 7 _ a0.out.2.1).other 8 _ a0.out.2.1).other 9 _ a0.out.2.1).other 10 _ a0.out.2.1)
 have D2:H (Row w2 D 42 #[Zs,Zs,(),(),(),Zs,.slice I 0 0,Av,Av,Av,Av,.slice I 0 0,.slice I 0 0]):=by show Row _ _ _ _;rw[g0.out];exact((((Da.out.other 7 _ (Ci a0.out.1)).other 8 _ (Ci a0.out.1)).other 9 _ (Ci a0.out.1)).other 10 _ (Ci a0.out.1))
 have x1:H (jI w2 w0 g6 m m S):=by show jI _ _ _ _ _ _;rw[g0.out];exact(jI.setFar (jI.setFar (jI.setFar (jI.setFar b2.out a0.out.2.2.2.2.2.1) a0.out.2.2.2.2.2.1) a0.out.2.2.2.2.2.1) a0.out.2.2.2.2.2.1)
 have r0:H (Ab w w w2):=by show Ab _ _ _;rw[g0.out];exact(Bn (Bn (Bn (Bn Ba.out a0.out.2.2.2.2.1 _) a0.out.2.2.2.2.1 _) a0.out.2.2.2.2.1 _) a0.out.2.2.2.2.1 _)
 have u1:=hd (c1.out w2 r0.out);have r1:H (w1.1.size=w2.1.size):=by show _=_;rw[k2.out,g0.out];simp
 go_wp2_with (refine Dd rfl 29 _ _ rfl V 1 (pcC pr pk pn pi pb (.slice g6 m m)) rfl rfl ?_ Tryz.infoPc (by simp[Aq]) ?_;exact TH.out;rw[<-i0.out])
 rw[<-g0.out];refine Ax u1.out ?_;obtain⟨b0,d0⟩:=nmH w2.1.size;rw[<-d0.out];rintro e w3 ⟨rfl,g1,b3⟩;rw[d0.out] at b3;have A3:=A2.out.below b3 A2.out.lt;have D3:=hd (D2.out.below b3 D2.out.lt);have V3:=V2.out.below b3 V2.out.lt;have m2:=A3.cell 12;have n2:=V3.cell 11;have o2:=V3.free 11;simp at m2 n2;obtain⟨w4,m0⟩:=nmH (w3.setCell (Q V 11 I) (.slice b0 le le));have V4:H (Row w4 V 42 #[r,pr,pk,pn,pi,pb,.slice g6 m m,fh,fe,fd,fo,.slice b0 le le,.slice I 0 0]):=by show Row _ _ _ _;rw[m0.out];exact V3.set 11 _
 have D4:H (Row w4 D 42 #[Zs,Zs,(),(),(),Zs,.slice I 0 0,Av,Av,Av,Av,.slice I 0 0,.slice I 0 0]):=by show Row _ _ _ _;rw[m0.out];exact D3.out.other 11 _ (Ci a0.out.1)
 have q2:=V2.out.lt;have z1:H (jI w4 w0 g6 m m S):=by show jI _ _ _ _ _ _;rw[m0.out];exact jI.setFar (jI.below x1.out b3) a0.out.2.2.2.2.2.1
 have q0:H (w4.ownsRow w2 3 1 (.slice b0 le le) le (ze.map (Ao Ar))):=by
  show World.ownsRow _ _ _ _ _ _ _;rw[m0.out];rw[d0.out] at g1 |-;exact jL g1 (jN _ _ _ _) (fun x e=>by cases e;show w2.1.size≠V;omega)
 have B4:H (Ab w w w4):=by show Ab _ _ _;rw[m0.out];exact Bn (jA r0.out b3) a0.out.2.2.2.2.1 _
 have s1:H (w2.1.size<w4.1.size):=by
  show _<_;have:=(A0 q0.out b0 rfl)
  have e:=d0.out;omega
 have v1:=hd (e1.out w4 B4.out);go_wp2_with fail
 rw[<-m0.out];refine Ax v1.out ?_;obtain⟨c0,e0⟩:=nmH w4.1.size;rw[<-e0.out];rintro e w5 ⟨rfl,j1,b5⟩;rw[e0.out] at b5;have D5:=hd (D4.out.below b5 D4.out.lt);have V5:=V4.out.below b5 V4.out.lt;have t1:=V5.cell 12;have i2:=V5.free 12;simp at t1;obtain⟨w6,h0⟩:=nmH (w5.setCell (Q V 12 I) (.slice c0 lr lr));have V6:H (Row w6 V 42 #[r,pr,pk,pn,pi,pb,.slice g6 m m,fh,fe,fd,fo,.slice b0 le le,.slice c0 lr lr]):=by show Row _ _ _ _;rw[h0.out];exact V5.set 12 _
 have D6:H (Row w6 D 42 #[Zs,Zs,(),(),(),Zs,.slice I 0 0,Av,Av,Av,Av,.slice I 0 0,.slice I 0 0]):=by show Row _ _ _ _;rw[h0.out];exact D5.out.other 12 _ (Ci a0.out.1)
 have r2:=V4.out.lt;have a2:H (jI w6 w0 g6 m m S):=by show jI _ _ _ _ _ _;rw[h0.out];exact jI.setFar (jI.below z1.out b5) a0.out.2.2.2.2.2.1
 have i1:H (w6.ownsRow w2 3 1 (.slice b0 le le) le (ze.map (Ao Ar))):=by
  show World.ownsRow _ _ _ _ _ _ _;rw[h0.out];exact jL (jF q0.out b5) (jN _ _ _ _) (fun x e=>by cases e;show b0≠V;rw[d0.out];omega)
 have k1:H (w6.ownsRow w4 3 1 (.slice c0 lr lr) lr (zr.map (Ao Ar))):=by
  show World.ownsRow _ _ _ _ _ _ _;rw[h0.out];rw[e0.out] at j1 |-;exact jL j1 (jN _ _ _ _) (fun x e=>by cases e;show w4.1.size≠V;omega)
 have B6:H (Ab w w w6):=by show Ab _ _ _;rw[h0.out];exact Bn (jA B4.out b5) a0.out.2.2.2.2.1 _
 obtain⟨w7,n0⟩:=nmH (w6.setRow D #[r,pr,pk,pn,pi,pb,.slice g6 m m,fh,fe,fd,fo,.slice b0 le le,.slice c0 lr lr]);have ZR:=rr n0 D6;have ZB:H (Ab w w w7):=by show Ab _ _ _;rw[n0.out];exact jG B6.out a0.out.2.2.2.1 _
 have n1:∀ x,(M (Q g6 0 I):OA)=M x->x.block≠D:=fun x e=>by cases e;have h1:=S6.out.1;have h2:=a0.out.2.2.2.2.2.2;show g6≠D;omega
 have p2:D<w2:=by have h1:=r1.out;have h2:=S6.out;have h3:=a0.out.2.2.2.2.2.2;omega
 have t0:∀ x,(M (Q b0 0 I):OA)=M x->x.block≠D:=fun x e=>by cases e;show b0≠D;rw[d0.out];omega
 have u0:∀ x,(M (Q c0 0 I):OA)=M x->x.block≠D:=fun x e=>by cases e;show c0≠D;rw[e0.out];have:=s1.out;omega
 have Z6:H (jI w7 w0 g6 m m S):=by show jI _ _ _ _ _ _;rw[n0.out];exact jL a2.out (qR _ _ _) n1
 have e2:H (World.ownsRow w7 w2 3 1 (.slice b0 le le) le (ze.map (Ao Ar))):=by show World.ownsRow _ _ _ _ _ _ _;rw[n0.out];exact jL i1.out (qR _ _ _) t0
 have m1:H (World.ownsRow w7 w4 3 1 (.slice c0 lr lr) lr (zr.map (Ao Ar))):=by show World.ownsRow _ _ _ _ _ _ _;rw[n0.out];exact jL k1.out (qR _ _ _) u0
 have j2:=(A0 m1.out c0 rfl).2;go_wp2_with (first|(rw[<-h0.out];refine Bg rfl 42 _ rfl V rfl 42 _ (0,0) _ V6.out C5 rfl Tryz.infoSl ?_;clear t1 i2)|(refine Ca rfl 42 _ _ rfl D #[r,pr,pk,pn,pi,pb,.slice g6 m m,fh,fe,fd,fo,.slice b0 le le,.slice c0 lr lr] rfl rfl 42 #[Zs,Zs,(),(),(),Zs,.slice I 0 0,Av,Av,Av,Av,.slice I 0 0,.slice I 0 0] ?_ Tryz.infoSl rfl (by simp[Aq]) ?_;exact D6.out;rw[<-n0.out]))
 refine B7 (v:=Ai #[r,pr,pk,pn,pi,pb,.slice g6 m m,fh,fe,fd,fo,.slice b0 le le,.slice c0 lr lr]) (Cs results193 _ _ D 42 _ (0,0) _ rfl ZR.out C5 rfl Tryz.infoSl) rfl ⟨g6,b0,c0,rfl,?_,?_,?_,j2,?_,?_,?_,ZB.out⟩
 .have h1:=S6.out.1;have h2:=s0.out.size;omega
 .have h1:=S6.out.2;have h2:=r1.out;have h3:=d0.out;omega
 .have h1:=d0.out;have h2:=e0.out;have h3:=s1.out;omega
 .exact xP (jI.base Z6.out s0.out.size) (fun x e=>by cases e;rfl)
 .exact OI.out _ _ _ (jX e2.out r0.out.size)
 .exact OZ.out _ _ _ (jX m1.out B4.out.size)
end Go.Proofs.YtcaejlalnjnifaaGreat
