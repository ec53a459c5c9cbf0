import Derived.Test.YtcaejlalnjnifaaGreatR24
import Derived.Test.YtcaejlalnjnifaaGreatR25
set_option maxHeartbeats 8000000
set_option maxRecDepth 2000
open Go.Value renaming slice->V,string->Ag,agg->Ai,int->Ao,oneCell'->Aq
open Option renaming none->I,some->M
open Go.RowKit renaming Hid->H,Below->Ab
open Go.Addr renaming mk->Q
open Go renaming undef->O,World->Ad,Value->Aj,Calls->Ak,maxLen->Au
open Go.Obj renaming cells->J
open Go.Ending renaming returned->Ae
open Go.IntKind renaming i64->Ar
open Bool renaming false->Av
open Go.Proofs.Tryz
open Go.ChangeShapes Go.WideShapes Go.ChangeAt Go.RowKit
namespace Go.Proofs.YtcaejlalnjnifaaGreat
theorem jKj {W:Ad} {B t sz g n k:Nat} {P:Nat->Nat->Dt} {Z:Nat->Dt} {vs:List Aj} {H:Nat->Nat->Prop} {F:Nat->Prop} (h:Ow W B (.lst t sz n (fun i=>if i<k then P i else Z)) (V g n n) F) (hk:k<n) (hl:vs.length=sz) (hv:∀ q,q<sz->Ow W B (P k q) (vs.getD q O) (H q)) (h1:∀ q x,q<sz->H q x->¬ F x) (h2:∀ q q' x,q<sz->q'<sz->H q x->H q' x->q=q'):Ow (W.setCells g (k*sz) vs) B (.lst t sz n (fun i=>if i<k+1 then P i else Z)) (V g n n) (fun x=>F x\/∃ q,q<sz/\H q x):=by
 refine Ow.congr (Ow.store (d:=P k) h hk hl hv h1 h2 (fun x hx=>.inl hx) (fun q x hq hx=>.inr ⟨q,hq,hx⟩)) ?_;intro i q _ _;by_cases e:i=k
 .subst e;simp
 .by_cases e2:i<k
  .simp[e,e2,show i<k+1 by omega]
  .simp[e,e2,show ¬ i<k+1 by omega]
theorem jGk {W:Ad} {B t sz g n k:Nat} {fd:Nat->Nat->Dt} {F:Nat->Prop} (h:Ow W B (.lst t sz n fd) (V g n n) F) (hk:k<n):W.there g (k*sz) sz:=by
 obtain⟨a',b0,c',G',e',a0,_⟩:=h;cases e';intro j hj;refine⟨?_,B0 a0 _⟩;rw[Br a0 _ (qM hk hj),jU _ _ _ _ _ hk hj];rfl
structure CtI (w0:Ad) (g1 g3 n m k1 k3:Nat) (N:Nat->Nd) (Y:Nat->Sy) (W:Ad):Prop where
 o:∃ F1 F3:Nat->Prop,Ow W w0 (.lst 26 3 n (fun i=>if i<k1 then ndD (N i) else ndD ndN)) (V g1 n n) F1/\Ow W w0 (.lst 31 10 m (fun i=>if i<k3 then syD (Y i) else syD syN)) (V g3 m m) F3/\(∀ x,F1 x->¬ F3 x)/\∀ x,F1 x\/F3 x->w0.1.size<=x/\x<W.1.size
 b:Ab w0 w0 W
theorem CtI.below {w0 W W':Ad} {g1 g3 n m k1 k3:Nat} {N:Nat->Nd} {Y:Nat->Sy} (h:CtI w0 g1 g3 n m k1 k3 N Y W) (hb:Ab W W W'):CtI w0 g1 g3 n m k1 k3 N Y W':=by
 obtain⟨F1,F3,o1,o3,hd,hl⟩:=h.o;exact⟨⟨F1,F3,o1.below hb,o3.below hb,hd,fun x hx=>⟨(hl x hx).1,Bu (hl x hx).2 hb.size⟩⟩,jA h.b hb⟩
theorem jJl {W:Ad} {B t sz g n:Nat} {fd:Nat->Nat->Dt} {F:Nat->Prop} (h:Ow W B (.lst t sz n fd) (V g n n) F):F g:=by
 obtain⟨_,_,_,_,e,_,hs,_⟩:=h;cases e;exact hs.head _ rfl
theorem CtI.node {w0 W W2:Ad} {g1 g3 n m k k3 gs wB:Nat} {N:Nat->Nd} {Y:Nat->Sy} (h:CtI w0 g1 g3 n m k k3 N Y W) (hk:k<n) (b2:Ab W W W2) (hB:W.1.size<=wB) (o2:Ow W2 wB (qH (N k).n (N k).S) (V gs (N k).n (N k).n) (rng wB W2)):CtI w0 g1 g3 n m (k+1) k3 N Y (W2.setCells g1 (k*3) [Ao Ar (N k).i,Ao Ar (N k).f,V gs (N k).n (N k).n])/\W2.there g1 (k*3) 3:=by
 obtain⟨F1,F3,o1,o3,hd,hl⟩:=h.o;have O1:=o1.below b2;have hg:=jJl o1;have lg:=hl g1 (.inl hg);have s0:=h.b.size;have s2:=b2.size;refine⟨⟨⟨_,F3,jKj O1 hk rfl (fun q hq=>jE4 (o2.base (by omega)) q hq) ?_ (fun q q' x _ _ hx a0=>hx.1.trans a0.1.symm),(o3.below b2).frame (fun x hx _=>jG g1 _ _ W2 x (fun e=>hd g1 hg (e▸hx))),?_,?_⟩,jR (jA h.b b2) lg.1 _ _⟩,jGk O1 hk⟩
 .intro q x _ hx hf;have h2:=(hl x (.inl hf)).2;have h3:=hx.2.1;omega
 .intro x hx hf;rcases hx with hx|⟨q,_,hx⟩
  .exact hd x hx hf
  .have h2:=(hl x (.inr hf)).2;have h3:=hx.2.1;omega
 .intro x hx;rw[jQ];rcases hx with (hx|⟨q,_,hx⟩)|hx
  .have:=hl x (.inl hx);omega
  .have h3:=hx.2.1;have h4:=hx.2.2;omega
  .have:=hl x (.inr hx);omega
theorem CtI.say {w0 W W2:Ad} {g1 g3 n m k1 k gs wB:Nat} {N:Nat->Nd} {Y:Nat->Sy} (h:CtI w0 g1 g3 n m k1 k N Y W) (hk:k<m) (b2:Ab W W W2) (hB:W.1.size<=wB) (o2:jI W2 wB gs (Y k).p.m (Y k).p.m (Y k).p.S):CtI w0 g1 g3 n m k1 (k+1) N Y (W2.setCells g3 (k*10) (syC (Y k) (V gs (Y k).p.m (Y k).p.m)).toList)/\W2.there g3 (k*10) 10:=by
 obtain⟨F1,F3,o1,o3,hd,hl⟩:=h.o;have O3:=o3.below b2;have hg:=jJl o3;have lg:=hl g3 (.inr hg);have s0:=h.b.size;have s2:=b2.size;have l2:=A0 o2 gs rfl;have b0:Ow W2 w0 (txD (Y k).p.m (Y k).p.S) (V gs (Y k).p.m (Y k).p.m) (fun x=>x=gs):=xQ (jI.base o2 (by omega)) (fun x e=>by cases e;rfl);refine⟨⟨⟨F1,_,(o1.below b2).frame (fun x hx _=>jG g3 _ _ W2 x (fun e=>hd x hx (e▸hg))),jKj O3 hk rfl (fun q hq=>jKm b0 q hq) ?_ (fun q q' x _ _ hx a0=>hx.1.trans a0.1.symm),?_,?_⟩,jR (jA h.b b2) lg.1 _ _⟩,jGk O3 hk⟩
 .intro q x _ hx hf;have h2:=(hl x (.inr hf)).2;have h3:x=gs:=hx.2;omega
 .intro x hf hx;rcases hx with hx|⟨q,_,hx⟩
  .exact hd x hf hx
  .have h2:=(hl x (.inl hf)).2;have h3:x=gs:=hx.2;omega
 .intro x hx;rw[jQ];rcases hx with hx|(hx|⟨q,_,hx⟩)
  .have:=hl x (.inl hx);omega
  .have:=hl x (.inr hx);omega
  .have h3:x=gs:=hx.2;omega
theorem jMq (c:Nat) (hc:c<=1048576) (W:Ad):(Instr.makeSlice 46 (c:Int) (c:Int)).run prog W=.ok (V (Q W 0 I) c c) (W.alloc (J (madeCells zcN.toArray (c*3)) 26)):=by
 obtain⟨i0,hi,a0,b0,c0⟩:=Cg Tryz.infoNdZ2;have hr:=run_make (P:=prog) W 46 26 i0 (Ai zcN.toArray) underlying46 hi a0 Ar Ar c c (by omega) (Int.le_refl _) (by rw[c0];omega) (by omega);simp only[Cy,b0] at hr;exact hr
theorem jMr (c:Nat) (hc:c<=1048576) (W:Ad):(Instr.makeSlice 34 (c:Int) (c:Int)).run prog W=.ok (V (Q W 0 I) c c) (W.alloc (J (madeCells zcY.toArray (c*10)) 31)):=by
 obtain⟨i0,hi,a0,b0,c0⟩:=Cg Tryz.infoSyZ;have hr:=run_make (P:=prog) W 34 31 i0 (Ai zcY.toArray) Dm hi a0 Ar Ar c c (by omega) (Int.le_refl _) (by rw[c0];omega) (by omega);simp only[Cy,b0] at hr;exact hr
abbrev mkN (n:Nat) (W:Ad):Ad:=W.alloc (J (madeCells zcN.toArray (n*3)) 26)
abbrev mkY (m:Nat) (W:Ad):Ad:=W.alloc (J (madeCells zcY.toArray (m*10)) 31)
theorem jKk (c:Nat) (hc:c<=1048576) (N:Nat->Nd) (W:Ad):Ow (mkN c W) W (.lst 26 3 c (fun i=>if i<0 then ndD (N i) else ndD ndN)) (V (Q W 0 I) c c) (fun x=>x=W.1.size):=by
 have e:(madeCells zcN.toArray (c*3)).toList=cL 3 (fun _ q=>zcN.getD q O) c:=xH (zs:=zcN) (by simp[zcN]);have a0:=Cc (e:=26) (size:=3) (base:=W.1.size) W (madeCells zcN.toArray (c*3)) c (Ay _) (by unfold Au;omega) (by rw[<-Cw,e,qB]);rw[e] at a0;have:=JZ (F:=fun x=>x=W.1.size) a0 (fun q hq=>jOp _ W q hq) rfl
 exact this.congr (fun i q _ _=>by simp)
theorem jKn (c:Nat) (hc:c<=1048576) (Y:Nat->Sy) (W:Ad):Ow (mkY c W) W (.lst 31 10 c (fun i=>if i<0 then syD (Y i) else syD syN)) (V (Q W 0 I) c c) (fun x=>x=W.1.size):=by
 have e:(madeCells zcY.toArray (c*10)).toList=cL 10 (fun _ q=>zcY.getD q O) c:=xH (zs:=zcY) (by simp[zcY]);have a0:=Cc (e:=31) (size:=10) (base:=W.1.size) W (madeCells zcY.toArray (c*10)) c (Ay _) (by unfold Au;omega) (by rw[<-Cw,e,qB]);rw[e] at a0;have:=JZ (F:=fun x=>x=W.1.size) a0 (fun q hq=>jOt _ W q hq) rfl
 exact this.congr (fun i q _ _=>by simp)
theorem QS (n:Nat) (W:Ad):Ab W W (mkN n W):=(Az _ _).alloc (Ay _) _
theorem QT (n:Nat) (W:Ad):Ab W W (mkY n W):=(Az _ _).alloc (Ay _) _
theorem ct_a (n m:Nat) (hn:n<=1048576) (hm:m<=1048576) (N:Nat->Nd) (Y:Nat->Sy) (W:Ad):CtI W W (W.1.size+1) n m 0 0 N Y (mkY m (mkN n W)):=by
 have s1:(mkN n W).1.size=W.1.size+1:=by simp[mkN]
 have s2:(mkY m (mkN n W)).1.size=W.1.size+1+1:=by simp[mkY,mkN]
 have o3:=jKn m hm Y (mkN n W);rw[s1] at o3;refine⟨⟨_,_,(jKk n hn N W).below (QT m _),o3.base (by omega),fun x h1 h2=>?_,fun x h=>?_⟩,jA (QS n W) (QT m _)⟩
 .have e1:=h1;have e2:=h2;omega
 .rw[s2];rcases h with h|h
  .have e1:=h;omega
  .have e1:=h;omega
theorem ct_b (n m:Nat) (hn:n<=1048576) (hm:m<=1048576) (N:Nat->Nd) (Y:Nat->Sy) (W:Ad):CtI W (W.1.size+1) W n m 0 0 N Y (mkN n (mkY m W)):=by
 have s1:(mkY m W).1.size=W.1.size+1:=by simp[mkY]
 have s2:(mkN n (mkY m W)).1.size=W.1.size+1+1:=by simp[mkY,mkN]
 have o3:=jKk n hn N (mkY m W);rw[s1] at o3;refine⟨⟨_,_,o3.base (by omega),(jKn m hm Y W).below (QS n _),fun x h1 h2=>?_,fun x h=>?_⟩,jA (QT m W) (QS n _)⟩
 .have e1:=h1;have e2:=h2;omega
 .rw[s2];rcases h with h|h
  .have e1:=h;omega
  .have e1:=h;omega
theorem ZU (f:Int) (a:OA) (n c:Nat) (l:OA) (zs:List Int) (d:Nat) (e:OA) (m g:Nat) (N:Nat->Nd) (Y:Nat->Sy) (w:Ad) (h1:Rd w (qR n N) (V a n c)) (h2:jH w l zs.length zs) (h3:Rd w (qI m Y) (V e m g)) (hn:n<=1048576) (hz:zs.length<=1048576) (hm:m<=1048576) (hN:∀ i,i<n->(N i).n<=1048576/\∀ j,j<(N i).n->SlK ((N i).S j)) (hY:∀ i,i<m->SyK (Y i)):Ak prog 65 #[ntV f (V a n c) (V l zs.length d) (V e m g)] w fun r w'=>∃ g1 a2 c2 g3 F1 F2 F3,r=Ae (ntV f (V (Q g1 0 I) n n) (V a2 zs.length c2) (V (Q g3 0 I) m m))/\NtO w' w n N zs m Y (V (Q g1 0 I) n n) (V a2 zs.length c2) (V (Q g3 0 I) m m) F1 F2 F3/\(∀ x,F1 x\/F2 x\/F3 x->w.1.size<=x/\x<w'.1.size)/\Ab w w w':=by
 obtain⟨zl,n0⟩:=nnH zs.length;rw[n0.out];obtain⟨A,HA⟩:=nmH w.1.size;obtain⟨D,HD⟩:=nmH (w.1.size+1);obtain⟨w0,i0⟩:=nmH ((w.alloc (J #[f,V a n c,V l zl d,V e m g] 48)).alloc (J #[(),V I 0 0,V I 0 0,V I 0 0] 48));have RA:=xS i0 HA;have RD:=zR i0 HD;have j0:=bl2 i0;have o0:=hd j0;have HL:H (A≠D/\w.1.size<=A/\w.1.size<=D/\A<w0/\D<w0):=⟨by have:=HA.out;have:=HD.out;omega,by have:=HA.out;omega,by have:=HD.out;omega,RA.out.lt,RD.out.lt⟩;have K1:H (∀ W,Ab w0 w0 W->Rd W (qR n N) (V a n c)):=fun W hW=>(h1.below j0).below hW
 have K3:H (∀ W,Ab w0 w0 W->Rd W (qI m Y) (V e m g)):=fun W hW=>(h3.below j0).below hW
 have KC:H (∀ W,Ab w0 w0 W->Ak prog 77 #[V l zl d] W fun e w'=>∃ a' c',e=Ae (V a' zl c')/\Ow w' W.1.size (inD zs) (V a' zl c') (rng W.1.size w'.1.size)/\Ab W.1.size W w'):=fun W hW=>by
  have:=XF l d zs W ((h2.below j0).below hW) hz
  rw[n0.out] at this;exact this
 have HN:H (∀ i,i<n->(N i).n<=1048576/\∀ j,j<(N i).n->SlK ((N i).S j)):=hN;have HY:H (∀ i,i<m->SyK (Y i)):=hY;have KCA:=hd (ct_a n m hn hm N Y w0);have KCB:=hd (ct_b n m hn hm N Y w0);have c1:=jMq n hn;have e1:=jMr m hm;obtain⟨y1,y3⟩:=RA.c2 1 3;simp at y1 y3;go_enter func65,ntmps65
 go_wp2_with fail
 rw[<-i0.out,<-HD.out,<-HA.out];go_cut [3,4] from 9 to 16 (fun v3 v4 wx=>H (∃ g1 g3,v3=V (Q g1 0 I) n n/\v4=V (Q g3 0 I) m m/\CtI w0 g1 g3 n m 0 0 N Y wx))
 case first=>
  have z1:=(RA.below (QT m w0) RA.lt).cell 1;have z3:=(RA.below (QS n w0) RA.lt).cell 3;simp only[mkY,mkN] at z1 z3;simp at z1 z3;go_region
  all_goals
   go_wp2_with fail
   go_meet
   first
    | exact⟨_,_,rfl,rfl,KCA.below (jD _)⟩
    | exact⟨_,_,rfl,rfl,KCB.below (jD _)⟩
    | exact⟨_,_,rfl,rfl,KCA⟩
    | exact⟨_,_,rfl,rfl,KCB⟩
 obtain⟨g1,g3,rfl,rfl,hc⟩:=hcut.out;obtain⟨w1,x0⟩:∃ x,x=wc:=⟨_,rfl⟩;subst x0;have KI1:=hd hc;have r0:=hd (RA.below KI1.b RA.lt);have x1:=r0.cell 1;simp at x1;go_wp2
 go_loopw [20] (fun vi wr=>∃ k:Nat,k<=n/\vi=Ao Ar (k:Int)/\H (CtI w0 g1 g3 n m k 0 N Y wr)) (fun vi _=>n-(intOf vi).toNat)
 case atStart=>exact⟨0,Bi _,rfl,KI1⟩
 case round=>
  obtain⟨k,hk,rfl,HI⟩:=hrel;by_cases hlt:k<n
  .have v0:(k:Int)<(n:Int):=by omega
   obtain⟨b1,f1,an,cn,rfl,_,k0,m0⟩:=zJ (K1 wr HI.b) hlt;have R1:=hd k0;obtain⟨B2,d0⟩:=nmH wr.1.size;obtain⟨w2,b0⟩:=nmH (wr.alloc (J #[Ao Ar (N k).i,Ao Ar (N k).f,V an (N k).n cn] 26));have b2:=bl1 b0;have R2:=jZ b0 d0;have KP:H _:=ZT (N k).i (N k).f an (N k).n cn (N k).S w2 (m0.below b2) (HN k hlt).1 (HN k hlt).2;have e0:=hd b2;go_wp2_with (first|(refine Bv rfl 26 _ rfl b1 (f1+k*3) rfl [Ao Ar (N k).i,Ao Ar (N k).f,V an (N k).n cn] _ ?_ Ch rfl Tryz.infoNd ?_;exact R1)|(rw[<-b0.out,<-d0.out];refine Bb rfl 26 _ rfl B2 rfl 26 #[Ao Ar (N k).i,Ao Ar (N k).f,V an (N k).n cn] (0,0) _ ?_ Ch rfl Tryz.infoNd ?_;exact R2))
   refine Ax KP.out ?_;rintro r w3 ⟨gs,rfl,o3,b3⟩;have h0:=HI.node hlt (jA e0 b3) e0.size o3;obtain⟨w4,a0⟩:=nmH (w3.setCells g1 (k*3) [Ao Ar (N k).i,Ao Ar (N k).f,V gs (N k).n (N k).n]);have KI4:H (CtI w0 g1 g3 n m (k+1) 0 N Y w4):=by show CtI _ _ _ _ _ _ _ _ _ _;rw[a0.out];exact h0.1
   have TH:=hd h0.2;go_wp2_with (refine C7 rfl 26 _ _ rfl g1 (k*3) #[Ao Ar (N k).i,Ao Ar (N k).f,V gs (N k).n (N k).n] rfl rfl ?_ Tryz.infoNd (by simp[Aq]) ?_;exact TH;rw[<-a0.out])
   go_roundw
   case rel=>exact⟨k+1,by omega,by go_num,KI4⟩
   case measure=>simp[intOf];omega
  .obtain rfl:n=k:=by omega
   have g0:=hd (RA.below HI.b RA.lt);have x3:=g0.cell 3;simp at x3;go_wp2
   go_loopw [34] (fun vi wr=>∃ k:Nat,k<=m/\vi=Ao Ar (k:Int)/\H (CtI w0 g1 g3 n m n k N Y wr)) (fun vi _=>m-(intOf vi).toNat)
   case atStart=>exact⟨0,Bi _,rfl,HI⟩
   case round=>
    obtain⟨k,a1,rfl,HJ⟩:=hrel;by_cases hlt':k<m
    .have v0:(k:Int)<(m:Int):=by omega
     obtain⟨b1,f1,an,cn,rfl,k0,m0⟩:=zZ (K3 wr HJ.b) hlt';have R1:=hd k0;obtain⟨B2,d0⟩:=nmH wr.1.size;obtain⟨w2,b0⟩:=nmH (wr.alloc (J (syC (Y k) (V an (Y k).p.m cn)) 31));have b2:=bl1 b0;have R2:=jZ b0 d0;have KP:H _:=ZV (Y k) an cn w2 (m0.below b2) (HY k hlt');have e0:=hd b2;go_wp2_with (first|(refine Bv rfl 31 _ rfl b1 (f1+k*10) rfl [Ao Ar (Y k).k,Ao Ar (Y k).f,Ao Ar (Y k).t,Ag (Y k).r,Ag (Y k).p.r,Ao Ar (Y k).p.k,Ao Ar (Y k).p.n,Ao Ar (Y k).p.i,Ag (Y k).p.b,V an (Y k).p.m cn] _ ?_ Ci rfl Tryz.infoSy2 ?_;exact R1)|(rw[<-b0.out,<-d0.out];refine Bb rfl 31 _ rfl B2 rfl 31 (syC (Y k) (V an (Y k).p.m cn)) (0,0) _ ?_ Ci rfl Tryz.infoSy2 ?_;exact R2))
     refine Ax KP.out ?_;rintro r w3 ⟨gs,rfl,o3,b3⟩;have h0:=HJ.say hlt' (jA e0 b3) e0.size o3;obtain⟨w4,a0⟩:=nmH (w3.setCells g3 (k*10) (syC (Y k) (V gs (Y k).p.m (Y k).p.m)).toList);have KI4:H (CtI w0 g1 g3 n m n (k+1) N Y w4):=by show CtI _ _ _ _ _ _ _ _ _ _;rw[a0.out];exact h0.1
     have TH:=hd h0.2;go_wp2_with (refine C7 rfl 31 _ _ rfl g3 (k*10) (syC (Y k) (V gs (Y k).p.m (Y k).p.m)) rfl rfl ?_ Tryz.infoSy2 (by simp[Aq]) ?_;exact TH;rw[<-a0.out])
     go_roundw
     case rel=>exact⟨k+1,by omega,by go_num,KI4⟩
     case measure=>simp[intOf];omega
    .obtain rfl:m=k:=by omega
     have g0:=hd (RA.below HJ.b RA.lt);have q0:H _:=KC wr HJ.b;have x2:=g0.cell 2;simp at x2;go_wp2_with fail
     refine Ax q0.out ?_;rintro r w2 ⟨a2,c2,rfl,o2,b2⟩;have f0:=g0.below b2 g0.lt;have t0:=(RD.below HJ.b RD.lt).below b2 (Bu RD.lt HJ.b.size);obtain⟨F1,F3,y0,z0,hd,hl⟩:=HJ.o;have o1:=y0.below b2;have o3:=z0.below b2;obtain⟨w3,c0⟩:=nmH (((w2.setCell (Q A 1 I) (V (Q g1 0 I) n n)).setCell (Q A 2 I) (V a2 zl c2)).setCell (Q A 3 I) (V (Q g3 0 I) m m));obtain⟨w4,a0⟩:=nmH (w3.setRow D #[f,V (Q g1 0 I) n n,V a2 zl c2,V (Q g3 0 I) m m]);have hL:=HL.out;have s1:=HJ.b.size;have s2:=b2.size;have s0:H (Row w3 A 48 #[f,V (Q g1 0 I) n n,V a2 zl c2,V (Q g3 0 I) m m]):=by show Row _ _ _ _;rw[c0.out];exact((f0.set 1 _).set 2 _).set 3 _
     have p0:H (Row w3 D 48 #[(),V I 0 0,V I 0 0,V I 0 0]):=by show Row _ _ _ _;rw[c0.out];exact((t0.other 1 _ (Cj hL.1)).other 2 _ (Cj hL.1)).other 3 _ (Cj hL.1)
     have u0:H (Row w4 D 48 #[f,V (Q g1 0 I) n n,V a2 zl c2,V (Q g3 0 I) m m]):=by show Row _ _ _ _;rw[a0.out];exact p0.row
     have tr:∀ x,w0.1.size<=x->w4.1[x]?=w2.1[x]?:=fun x hx=>by
      rw[a0.out,Cd _ _ _ _ (show x≠D by omega),c0.out];rw[Dg _ _ _ _ (show x≠A by omega),Dg _ _ _ _ (show x≠A by omega),Dg _ _ _ _ (show x≠A by omega)]
     have s4:w4.1.size=w2.1.size:=by rw[a0.out];simp[c0.out]
     have sK:=o0.size;have KF:H (∃ F1 F2 F3,NtO w4 w n N zs m Y (V (Q g1 0 I) n n) (V a2 zl c2) (V (Q g3 0 I) m m) F1 F2 F3/\(∀ x,F1 x\/F2 x\/F3 x->w.1.size<=x/\x<w4.1.size)/\Ab w w w4):=by
      refine⟨F1,rng wr.1.size w2.1.size,F3,⟨((o1.base sK).frame (fun x hx _=>tr x (hl x (.inl hx)).1)).congr (fun i q hi _=>by simp[hi]),(o2.base (by omega)).frame (fun x hx _=>tr x (by have h1:wr.1.size<=x:=hx.1;omega)),((o3.base sK).frame (fun x hx _=>tr x (hl x (.inr hx)).1)).congr (fun i q hi _=>by simp[hi]),fun x k1 k2=>?_,hd,fun x k1 k2=>?_⟩,fun x k=>?_,?_⟩
      .have h1:=(hl x (.inl k1)).2;have h2:=k2.1;omega
      .have h1:=(hl x (.inr k2)).2;have h2:=k1.1;omega
      .rw[s4];rcases k with k|k|k
       .have:=hl x (.inl k);omega
       .have h1:=k.1;have h2:=k.2;omega
       .have:=hl x (.inr k);omega
      .rw[a0.out,c0.out];exact jF ((((jA o0 (jA HJ.b b2)).setCell hL.2.1 _).setCell hL.2.1 _).setCell hL.2.1 _) hL.2.2.1 _
     obtain⟨q1,q2,q3⟩:=f0.c3 1 2 3;have i1:=f0.free 1;have j1:=f0.free 2;have m1:=f0.free 3;simp at q1 q2 q3;go_wp2_with (first|(rw[<-c0.out];refine Bb rfl 48 _ rfl A rfl 48 #[f,V (M ⟨g1,0,I⟩) n n,V a2 zl c2,V (M ⟨g3,0,I⟩) m m] (0,0) _ ?_ Bp rfl Tryz.infoNt ?_;exact s0)|(refine Bw rfl 48 _ _ rfl D #[f,V (M ⟨g1,0,I⟩) n n,V a2 zl c2,V (M ⟨g3,0,I⟩) m m] rfl rfl 48 #[(),V I 0 0,V I 0 0,V I 0 0] ?_ Tryz.infoNt rfl (by simp[Aq]) ?_;exact p0;rw[<-a0.out]))
     obtain⟨F1,F2,F3,kf⟩:=KF.out;exact B7 (v:=ntV f (V (Q g1 0 I) n n) (V a2 zl c2) (V (Q g3 0 I) m m)) (Ck results65 _ _ D 48 _ (0,0) _ rfl u0 Bp rfl Tryz.infoNt) rfl ⟨g1,a2,c2,g3,F1,F2,F3,rfl,kf⟩
section
open Go.ChangeShapes Go.WideShapes Go.ChangeAt Go.RowKit Go.Sort
structure CsI (w0:Ad) (g1 c1 k1 g3 c3 k3:Nat) (N:Nat->Nd) (Y:Nat->Sy) (W:Ad):Prop where
 o:∃ F1 F3:Nat->Prop,Ow W w0 (qR k1 N) (V g1 k1 c1) F1/\Ow W w0 (qI k3 Y) (V g3 k3 c3) F3/\(∀ x,F1 x->¬ F3 x)/\∀ x,F1 x\/F3 x->w0.1.size<=x/\x<W.1.size
 b:Ab w0 w0 W
theorem jOl {t sz:Nat} (fd:Nat->Nat->Dt) (W:Ad):Ow (W.alloc (J #[] t)) W (.lst t sz 0 fd) (V (Q W 0 I) 0 0) (fun x=>x=W.1.size):=by
 refine⟨_,0,fun _ _=>O,fun _ _ _=>False,rfl,?_,⟨fun x e=>?_,fun _ _ _ hi=>Bo hi (Bk _),fun _ _ _ hi=>Bo hi (Bk _),fun _ _ _ _ _ hi=>Bo hi (Bk _)⟩,fun _ _ hi=>Bo hi (Bk _)⟩
 .have:=Cc (e:=t) (size:=sz) (base:=W.1.size) W #[] 0 (by simp) (by unfold Au;omega) (by simp)
  simpa [cL] using this
 .cases e;rfl
theorem jL9 (N:Nat->Nd) (Y:Nat->Sy) (W:Ad):CsI W W 0 0 (W.1.size+1) 0 0 N Y ((W.alloc (J #[] 26)).alloc (J #[] 31)):=by
 have s1:(W.alloc (J #[] 26)).1.size=W.1.size+1:=by simp
 have b1:Ab W W (W.alloc (J #[] 26)):=(Az _ _).alloc (Ay _) _;have b2:Ab (W.alloc (J #[] 26)).1.size (W.alloc (J #[] 26)) ((W.alloc (J #[] 26)).alloc (J #[] 31)):=(Az _ _).alloc (Ay _) _;have o3:=jOl (t:=31) (sz:=10) (fun i=>syD (Y i)) (W.alloc (J #[] 26));rw[s1] at o3;refine⟨⟨_,_,(jOl (t:=26) (sz:=3) (fun i=>ndD (N i)) W).below b2,o3.base (by omega),fun x h1 h2=>?_,fun x h=>?_⟩,jA b1 b2⟩
 .have e1:x=W.1.size:=h1;have e2:x=W.1.size+1:=h2;omega
 .have s2:((W.alloc (J #[] 26)).alloc (J #[] 31)).1.size=W.1.size+1+1:=by simp
  rw[s2];rcases h with h|h
  .have e1:x=W.1.size:=h;omega
  .have e1:x=W.1.size+1:=h;omega
theorem jPn {w0 wr w5 w6:Ad} {k g3 c3 k3 g' c':Nat} {N:Nat->Nd} {Y:Nat->Sy} {F1 F3:Nat->Prop} {H:Nat->Nat->Prop} (hb:Ab w0 w0 wr) (o3:Ow wr w0 (qI k3 Y) (V g3 k3 c3) F3) (hd:∀ x,F1 x->¬ F3 x) (hl:∀ x,F1 x\/F3 x->w0.1.size<=x/\x<wr.1.size) (b5:Ab wr wr w5) (hH:∀ q x,H q x->wr.1.size<=x) (O6:Ow w6 w0 (.lst 26 3 (k+1) (fun i=>if i=k then ndD (N k) else ndD (N i))) (V g' (k+1) c') (fun x=>x<w6.1.size/\((F1 x\/∃ q,q<3/\H q x)\/w5.1.size<=x))) (b6:Ab w0 w5 w6) (T6:∀ x,x<w5.1.size->¬ F1 x->w6.1[x]?=w5.1[x]?):CsI w0 g' c' (k+1) g3 c3 k3 N Y w6:=by
 have s5:=b5.size;have s6:=b6.size;have s0:=hb.size;refine⟨⟨_,F3,O6.congr (fun i q _ _=>?_),(o3.below b5).frame (fun x hx a0=>T6 x a0 (fun h=>hd x h hx)),fun x h1 h2=>?_,fun x h=>?_⟩,(jA hb b5).trans b6⟩
 .by_cases e:i=k
  .subst e;simp
  .simp[e]
 .have l3:=(hl x (.inr h2)).2;rcases h1.2 with (h|⟨q,_,h⟩)|h
  .exact hd x h h2
  .have:=hH q x h;omega
  .omega
 .rcases h with h|h
  .refine⟨?_,h.1⟩;rcases h.2 with (h|⟨q,_,h⟩)|h
   .exact(hl x (.inl h)).1
   .have:=hH q x h;omega
   .omega
  .have:=hl x (.inr h)
   omega
theorem jRi {w0 wr w5 w6:Ad} {g1 c1 k1 k g' c':Nat} {N:Nat->Nd} {Y:Nat->Sy} {F1 F3:Nat->Prop} {H:Nat->Nat->Prop} (hb:Ab w0 w0 wr) (o1:Ow wr w0 (qR k1 N) (V g1 k1 c1) F1) (hd:∀ x,F1 x->¬ F3 x) (hl:∀ x,F1 x\/F3 x->w0.1.size<=x/\x<wr.1.size) (b5:Ab wr wr w5) (hH:∀ q x,H q x->wr.1.size<=x) (O6:Ow w6 w0 (.lst 31 10 (k+1) (fun i=>if i=k then syD (Y k) else syD (Y i))) (V g' (k+1) c') (fun x=>x<w6.1.size/\((F3 x\/∃ q,q<10/\H q x)\/w5.1.size<=x))) (b6:Ab w0 w5 w6) (T6:∀ x,x<w5.1.size->¬ F3 x->w6.1[x]?=w5.1[x]?):CsI w0 g1 c1 k1 g' c' (k+1) N Y w6:=by
 have s5:=b5.size;have s6:=b6.size;have s0:=hb.size;refine⟨⟨F1,_,(o1.below b5).frame (fun x hx a0=>T6 x a0 (fun h=>hd x hx h)),O6.congr (fun i q _ _=>?_),fun x h2 h1=>?_,fun x h=>?_⟩,(jA hb b5).trans b6⟩
 .by_cases e:i=k
  .subst e;simp
  .simp[e]
 .have l3:=(hl x (.inl h2)).2;rcases h1.2 with (h|⟨q,_,h⟩)|h
  .exact hd x h2 h
  .have:=hH q x h;omega
  .omega
 .rcases h with h|h
  .have:=hl x (.inl h)
   omega
  .refine⟨?_,h.1⟩;rcases h.2 with (h|⟨q,_,h⟩)|h
   .exact(hl x (.inr h)).1
   .have:=hH q x h;omega
   .omega
structure CsF (w w0:Ad) (A D:Nat) (f:Int) (n m zl g1 c1 g2 c2 g3 c3:Nat) (N:Nat->Nd) (Y:Nat->Sy) (zs:List Int) (l:OA) (d:Nat) (W:Ad):Prop where
 r:Row W D 48 #[f,V g1 n c1,V g2 zl c2,V g3 m c3]
 s:W.cell? A=M (Ao Ar f)/\W.cell? (Q A 2 I)=M (V l zl d)
 o:∃ F1 F2 F3,NtO W w n N zs m Y (V g1 n c1) (V g2 zl c2) (V g3 m c3) F1 F2 F3/\(∀ x,F1 x\/F2 x\/F3 x->w.1.size<=x/\x<W.1.size)/\Ab w w W
 l0:w.1.size<=w0.1.size
theorem CsI.fin {w w0 wr w2:Ad} {A D:Nat} {f:Int} {n m zl g1 c1 g2 c2 g3 c3 c d g:Nat} {a l e:OA} {N:Nat->Nd} {Y:Nat->Sy} {zs:List Int} (h:CsI w0 g1 c1 n g3 c3 m N Y wr) (hL:A≠D/\w.1.size<=A/\w.1.size<=D/\A<w0/\D<w0) (a0:Ab w w w0) (RA:Row wr A 48 #[f,V a n c,V l zl d,V e m g]) (RD:Row wr D 48 #[(),V I 0 0,V I 0 0,V I 0 0]) (hz:zs.length=zl) (ho:w2.ownsRow wr 3 1 (V g2 zl c2) zl (zs.map (Ao Ar))) (hb:Ab wr wr w2):CsF w w0 A D f n m zl g1 c1 g2 c2 g3 c3 N Y zs l d ((((w2.setCell D f).setCell (Q D 1 I) (V g1 n c1)).setCell (Q D 2 I) (V g2 zl c2)).setCell (Q D 3 I) (V g3 m c3)):=by
 subst hz;obtain⟨F1,F3,o1,o3,hd,hl⟩:=h.o;have b0:=RA.below hb RA.lt;have c0:=RD.below hb RD.lt;have r0:Row (w2.setCell D f) D 48 #[f,V I 0 0,V I 0 0,V I 0 0]:=c0.set 0 _;have r1:Row ((w2.setCell D f).setCell (Q D 1 I) (V g1 n c1)) D 48 #[f,V g1 n c1,V I 0 0,V I 0 0]:=r0.set 1 _;have r2:Row (((w2.setCell D f).setCell (Q D 1 I) (V g1 n c1)).setCell (Q D 2 I) (V g2 zs.length c2)) D 48 #[f,V g1 n c1,V g2 zs.length c2,V I 0 0]:=r1.set 2 _;have ra:=(((b0.other 0 f hL.1).other 1 (V g1 n c1) hL.1).other 2 (V g2 zs.length c2) hL.1).other 3 (V g3 m c3) hL.1;obtain⟨p0,p2⟩:=ra.c2 0 2;simp at p0 p2;have s0:=a0.size;have s1:=h.b.size;have s2:=hb.size;have l2:=A0 ho g2 rfl;have tr:∀ x,x≠D->((((w2.setCell D f).setCell (Q D 1 I) (V g1 n c1)).setCell (Q D 2 I) (V g2 zs.length c2)).setCell (Q D 3 I) (V g3 m c3)).1[x]?=w2.1[x]?:=fun x hx=>by
  rw[Dg _ _ _ _ hx,Dg _ _ _ _ hx,Dg _ _ _ _ hx,Dg _ _ _ _ hx]
 have o2:Ow w2 w (inD zs) (V g2 zs.length c2) (fun x=>x=g2):=(vV ho (fun x e=>by cases e;rfl)).base (by omega);refine⟨r2.set 3 _,⟨p0,p2⟩,⟨F1,fun x=>x=g2,F3,⟨((o1.below hb).base s0).frame (fun x hx _=>tr x (fun e=>?_)),o2.frame (fun x hx _=>tr x (fun e=>?_)),((o3.below hb).base s0).frame (fun x hx _=>tr x (fun e=>?_)),fun x k1 k2=>?_,hd,fun x k1 k2=>?_⟩,fun x k=>?_,?_⟩,s0⟩
 .have:=(hl x (.inl hx)).1;omega
 .have e1:x=g2:=hx;omega
 .have:=(hl x (.inr hx)).1;omega
 .have e1:x=g2:=k2;have:=(hl x (.inl k1)).2
  omega
 .have e1:x=g2:=k1;have:=(hl x (.inr k2)).2
  omega
 .simp
  rcases k with k|k|k
  .have:=hl x (.inl k);omega
  .have e1:x=g2:=k;omega
  .have:=hl x (.inr k);omega
 .exact((((jA a0 (jA h.b hb)).setCell hL.2.2.1 _).setCell hL.2.2.1 _).setCell hL.2.2.1 _).setCell hL.2.2.1 _
theorem JN (f:Int) (a:OA) (n c:Nat) (l:OA) (zs:List Int) (d:Nat) (e:OA) (m g:Nat) (N:Nat->Nd) (Y:Nat->Sy) (w:Ad) (h1:Rd w (qR n N) (V a n c)) (h2:jH w l zs.length zs) (h3:Rd w (qI m Y) (V e m g)) (hn:n<=1048576) (hz:zs.length<=1048576) (hm:m<=1048576) (hN:∀ i,i<n->(N i).n<=1048576/\∀ j,j<(N i).n->SlS ((N i).S j)) (hY:∀ i,i<m->(Y i).p.m<=1048576):Ak prog 69 #[ntV f (V a n c) (V l zs.length d) (V e m g)] w fun r w'=>∃ g1 c1 g2 c2 g3 c3 F1 F2 F3,r=Ae (ntV f (V (Q g1 0 I) n c1) (V (Q g2 0 I) zs.length c2) (V (Q g3 0 I) m c3))/\NtO w' w n N zs m Y (V (Q g1 0 I) n c1) (V (Q g2 0 I) zs.length c2) (V (Q g3 0 I) m c3) F1 F2 F3/\(∀ x,F1 x\/F2 x\/F3 x->w.1.size<=x/\x<w'.1.size)/\Ab w w w':=by
 obtain⟨iN,y1,k1,m1,n1⟩:=Cg Tryz.infoNdZ2;obtain⟨iY,a2,o1,p1,q1⟩:=Cg Tryz.infoSyZ;obtain⟨zl,h0⟩:=nnH zs.length;rw[h0.out];obtain⟨A,HA⟩:=nmH w.1.size;obtain⟨D,HD⟩:=nmH (w.1.size+1);obtain⟨w0,g0⟩:=nmH ((w.alloc (J #[f,V a n c,V l zl d,V e m g] 48)).alloc (J #[(),V I 0 0,V I 0 0,V I 0 0] 48));have RA:=xS g0 HA;have RD:=zR g0 HD;have j0:=bl2 g0;have s1:H (Ab w w w0):=j0;have HL:H (A≠D/\w.1.size<=A/\w.1.size<=D/\A<w0/\D<w0):=⟨by have:=HA.out;have:=HD.out;omega,by have:=HA.out;omega,by have:=HD.out;omega,RA.out.lt,RD.out.lt⟩;have K1:H (∀ W,Ab w0 w0 W->Rd W (qR n N) (V a n c)):=fun W hW=>(h1.below j0).below hW
 have K2:H (∀ W,Ab w0 w0 W->jH W l zl zs):=fun W hW=>by rw[<-h0.out];exact(h2.below j0).below hW
 have K3:H (∀ W,Ab w0 w0 W->Rd W (qI m Y) (V e m g)):=fun W hW=>(h3.below j0).below hW
 have HN:H (∀ i,i<n->(N i).n<=1048576/\∀ j,j<(N i).n->SlS ((N i).S j)):=hN;have HY:H (∀ i,i<m->(Y i).p.m<=1048576):=hY;have r1:H (zl<=1048576):=by show zl<=1048576;rw[<-h0.out];exact hz
 obtain⟨g1,r0⟩:=nmH (D+1);obtain⟨g3,s0⟩:=nmH (D+1+1);obtain⟨w1,t0⟩:=nmH ((w0.alloc (J #[] 26)).alloc (J #[] 31));have i1:D+1=w0.1.size:=by rw[g0.out,HD.out];simp
 have KI1:H (CsI w0 g1 0 0 g3 0 0 N Y w1):=by
  show CsI _ _ _ _ _ _ _ _ _ _;rw[r0.out,s0.out,i1,t0.out];exact jL9 N Y w0
 clear h1 h2 h3 j0 hN hY hz i1;go_enter func69,ntmps69
 go_wp2_with fail
 rw[<-g0.out,<-HD.out,<-HA.out,<-t0.out,<-s0.out,<-r0.out];go_loopw [3,5] (fun v vi wr=>∃ k g1 c1:Nat,k<=n/\v=V (Q g1 0 I) k c1/\vi=Ao Ar (k:Int)/\H (CsI w0 g1 c1 k g3 0 0 N Y wr)) (fun _ vi _=>n-(intOf vi).toNat)
 case atStart=>exact⟨0,g1,0,Bi _,rfl,rfl,KI1⟩
 case round=>
  obtain⟨k,g1,c1,hk,rfl,rfl,HI⟩:=hrel;clear KI1 t0 r0;have x1:=(RA.below HI.b RA.lt).cell 1;simp at x1;by_cases hlt:k<n
  .have f2:(k:Int)<(n:Int):=by omega
   have c0:H (k<n):=hlt;obtain⟨b1,f1,an,cn,rfl,_,i0,m0⟩:=zJ (K1 wr HI.b) hlt;have R1:H (wr.rangeAt b1 (f1+k*3) [Ao Ar (N k).i,Ao Ar (N k).f,V an (N k).n cn]):=i0;have KP:H _:=XM (N k).i (N k).f an (N k).n cn (N k).S wr m0 (HN k hlt).1 (HN k hlt).2;clear i0 m0;go_wp2_with (refine Bv rfl 26 _ rfl b1 (f1+k*3) rfl [Ao Ar (N k).i,Ao Ar (N k).f,V an (N k).n cn] _ ?_ Ch rfl Tryz.infoNd ?_;exact R1)
   refine Ax KP.out ?_;rintro r w3 ⟨gs,cs,rfl,o3,b3⟩;obtain⟨w5,a0⟩:=nmH (w3.alloc (J #[Ao Ar (N k).i,Ao Ar (N k).f,V gs (N k).n cs] 26));have b5:=bl1 a0;have b0:Ab wr.1.size wr w5:=jA b3 b5;have j1:=HI.b.size;obtain⟨F1,F3,n0,o0,hd,hl⟩:=HI.o;have i2:=b0.size;clear R1 KP;go_wp2_with (at_builtin;rw[<-a0.out];refine(show True->_ from ?_) trivial)
   intro _;refine xL w5 rfl _ _ 46 rfl w0 26 iN (Ai zcN.toArray) 3 _ underlying46 y1 k1 m1 n1 rfl (by decide) (V (M ⟨g1,0,I⟩) k c1) k _ F1 rfl (n0.below b0) ⟨w3.1.size,0,I⟩ 1 [Ao Ar (N k).i,Ao Ar (N k).f,V gs (N k).n cs] rfl rfl ?_ (by simp[Aq]) (ndD (N k)) (fun q x=>q=2/\rng wr.1.size w3.1.size x) ?_ ?_ (fun q q' x _ _ hx a1=>hx.1.trans a1.1.symm) (by have:=c0.out;unfold Au;omega) (by have:=c0.out;omega) (by omega) ?_
   .rw[a0.out];exact Cf (cs:=#[Ao Ar (N k).i,Ao Ar (N k).f,V gs (N k).n cs]) (t:=26) (fr:=(0,0)) (Row.new w3 _ _)
   .intro q hq;exact jE4 ((o3.base j1).below b5) q hq
   .intro q x _ hx hf;have h1:wr.1.size<=x:=hx.2.1;have h2:=(hl x (.inl hf)).2;omega
   intro g' c' w6 O6 b6 T6;have K6:H (CsI w0 g' c' (k+1) g3 0 0 N Y w6):=jPn HI.b o0 hd hl b0 (fun q x hx=>hx.2.1) O6 b6 T6;clear O6 b6 T6 b5 b0 b3 o3 n0 o0 hd hl x1 HI a0;have h1:=c0.out;go_wp2
   go_roundw
   case rel=>exact⟨k+1,g',c',by omega,by go_num,by go_num,K6⟩
   case measure=>simp[intOf];omega
  .obtain rfl:n=k:=by omega
   go_wp2
   go_loopw [4,6] (fun v vi wr=>∃ k g3 c3:Nat,k<=m/\v=V (Q g3 0 I) k c3/\vi=Ao Ar (k:Int)/\H (CsI w0 g1 c1 n g3 c3 k N Y wr)) (fun _ vi _=>m-(intOf vi).toNat)
   case atStart=>exact⟨0,g3,0,Bi _,rfl,rfl,HI⟩
   case round=>
    obtain⟨k,g3,c3,j2,rfl,rfl,HJ⟩:=hrel;clear HI x1 s0;have x3:=(RA.below HJ.b RA.lt).cell 3;simp at x3;by_cases hlt':k<m
    .have f2:(k:Int)<(m:Int):=by omega
     have c0:H (k<m):=hlt';obtain⟨b1,f1,an,cn,rfl,i0,m0⟩:=zZ (K3 wr HJ.b) hlt';have R1:H (wr.rangeAt b1 (f1+k*10) [Ao Ar (Y k).k,Ao Ar (Y k).f,Ao Ar (Y k).t,Ag (Y k).r,Ag (Y k).p.r,Ao Ar (Y k).p.k,Ao Ar (Y k).p.n,Ao Ar (Y k).p.i,Ag (Y k).p.b,V an (Y k).p.m cn]):=i0;have KP:H _:=XO (Y k) an cn wr m0 (HY k hlt');clear i0 m0;go_wp2_with (refine Bv rfl 31 _ rfl b1 (f1+k*10) rfl [Ao Ar (Y k).k,Ao Ar (Y k).f,Ao Ar (Y k).t,Ag (Y k).r,Ag (Y k).p.r,Ao Ar (Y k).p.k,Ao Ar (Y k).p.n,Ao Ar (Y k).p.i,Ag (Y k).p.b,V an (Y k).p.m cn] _ ?_ Ci rfl Tryz.infoSy2 ?_;exact R1)
     refine Ax KP.out ?_;rintro r w3 ⟨gs,cs,rfl,o3,b3⟩;obtain⟨w5,a0⟩:=nmH (w3.alloc (J (syC (Y k) (V gs (Y k).p.m cs)) 31));have b5:=bl1 a0;have b0:Ab wr.1.size wr w5:=jA b3 b5;have j1:=HJ.b.size;have l2:=A0 o3 gs rfl;obtain⟨F1,F3,n0,o0,hd,hl⟩:=HJ.o;have i2:=b0.size;have q0:Ow w3 w0 (txD (Y k).p.m (Y k).p.S) (V gs (Y k).p.m cs) (fun x=>x=gs):=xQ (jI.base o3 (by omega)) (fun x e=>by cases e;rfl);clear R1 KP;go_wp2_with (at_builtin;rw[<-a0.out];refine(show True->_ from ?_) trivial)
     intro _;refine xL w5 rfl _ _ 34 rfl w0 31 iY (Ai zcY.toArray) 10 _ Dm a2 o1 p1 q1 rfl (by decide) (V (M ⟨g3,0,I⟩) k c3) k _ F3 rfl (o0.below b0) ⟨w3.1.size,0,I⟩ 1 (syC (Y k) (V gs (Y k).p.m cs)).toList rfl rfl ?_ (by simp[Aq]) (syD (Y k)) (fun q x=>q=9/\x=gs) ?_ ?_ (fun q q' x _ _ hx a1=>hx.1.trans a1.1.symm) (by have:=c0.out;unfold Au;omega) (by have:=c0.out;omega) (by omega) ?_
     .rw[a0.out];exact Cf (cs:=syC (Y k) (V gs (Y k).p.m cs)) (t:=31) (fr:=(0,0)) (Row.new w3 _ _)
     .intro q hq;exact jKm (q0.below b5) q hq
     .intro q x _ hx hf;have h1:x=gs:=hx.2;have h2:=(hl x (.inr hf)).2;omega
     intro g' c' w6 O6 b6 T6;have K6:H (CsI w0 g1 c1 n g' c' (k+1) N Y w6):=jRi HJ.b n0 hd hl b0 (fun q x hx=>by have h1:x=gs:=hx.2;omega) O6 b6 T6;clear O6 b6 T6 b5 b0 b3 o3 q0 n0 o0 hd hl x3 HJ a0 l2;have h1:=c0.out;go_wp2
     go_roundw
     case rel=>exact⟨k+1,g',c',by omega,by go_num,by go_num,K6⟩
     case measure=>simp[intOf];omega
    .obtain rfl:m=k:=by omega
     have v0:H (Row wr A 48 #[f,V a n c,V l zl d,V e m g]):=RA.below HJ.b RA.lt;have y0:H (Row wr D 48 #[(),V I 0 0,V I 0 0,V I 0 0]):=RD.below HJ.b RD.lt;obtain⟨x0,x2⟩:=v0.c2 0 2;simp at x0 x2;have lA:=v0.lt;have KS:H (∀ W,Ab wr.1.size wr W->W.cell? A=M (Ao Ar f)/\W.cell? (Q A 2 I)=M (V l zl d)):=fun W hW=>⟨(hW.cell (p:=A) lA).trans x0,(hW.cell (p:=Q A 2 I) lA).trans x2⟩
     have hdr:Ab wr.1.size wr wr.drew:=jD wr;have v1:Ab wr.1.size wr (wr.alloc (J #[] 3)):=(Az _ _).alloc (Ay _) _;have p0:Ab wr.1.size wr (wr.alloc (J #[] 3)).drew:=jA v1 (jD _);have KA:H ((wr.alloc (J #[] 3)).drew.ownsRow wr.1.size 3 1 (V (Q wr.1.size 0 I) 0 0) 0 (([]:List Int).map (Ao Ar))/\jH (wr.alloc (J #[] 3)).drew l zl zs/\wr.1.size<=(wr.alloc (J #[] 3)).drew.1.size):=by
      refine⟨?_,K2 _ (jA HJ.b p0),p0.size⟩;have:=Cc (e:=3) (size:=1) (base:=wr.1.size) wr #[] 0 (by simp) (by unfold Au;omega) (by simp)
      exact jE (by simpa using this) (jD _)
     have t1:H (∀ W,Ab wr.1.size wr W->(W.cell? D=M (Ao Ar 0)/\W.cell? (Q D 1 I)=M (V I 0 0)/\W.cell? (Q D 2 I)=M (V I 0 0)/\W.cell? (Q D 3 I)=M (V I 0 0))/\W.frozen? D=Av/\W.frozen? (Q D 1 I)=Av/\W.frozen? (Q D 2 I)=Av/\W.frozen? (Q D 3 I)=Av):=fun W hW=>by
      have R:=y0.below hW y0.lt;obtain⟨z0,z1,z2,z3⟩:=R.c4 0 1 2 3;simp at z0 z1 z2 z3;exact⟨⟨z0,z1,z2,z3⟩,R.free 0,R.free 1,R.free 2,R.free 3⟩
     have u1:H (∀ g2 c2 w2,w2.ownsRow wr.1.size 3 1 (V (Q g2 0 I) zl c2) zl (zs.map (Ao Ar))->Ab wr.1.size wr w2->CsF w w0 A D f n m zl g1 c1 g2 c2 g3 c3 N Y zs l d ((((w2.setCell D f).setCell (Q D 1 I) (V (Q g1 0 I) n c1)).setCell (Q D 2 I) (V (Q g2 0 I) zl c2)).setCell (Q D 3 I) (V (Q g3 0 I) m c3))):=fun g2 c2 w2 ho hb=>HJ.fin HL s1 v0 y0 h0 ho hb
     go_upto_region 10 with fail
     clear x0 x2 x3;obtain⟨x0,x2⟩:=KS wr (Az _ _);go_region_held3 (fun w'=>w'.cell? (Q A 0 I)=M (Ao Ar f)/\w'.cell? (Q A 2 I)=M (V l zl d)) (first|exact KS.out _ (by with_reducible assumption)|exact u0.out.s) ((refine qC _ rfl _ _ rfl wr.1.size _ _ 0 zl zl [] zs rfl h0.out (Bt _) rfl ?_ _ _ rfl ?_ ?_ ?_ ?_;exact KA.out.1;exact KA.out.2.1;(have:=r1.out;omega);exact KA.out.2.2;intro g2 c2 w2 k0 f0;have b2:Ab wr.1.size wr w2:=p0.trans (qN f0 (Ay _) p0.size);have u0:H (CsF w w0 A D f n m zl g1 c1 g2 c2 g3 c3 N Y zs l d _):=u1.out g2 c2 w2 k0 b2;obtain⟨⟨d0,d1,d2,d3⟩,e0,e1,e2,e3⟩:=t1.out w2 b2;clear k0 f0))
     all_goals
      go_wp2_with fail
      obtain⟨F1,F2,F3,kf⟩:=u0.o;exact B7 (v:=ntV f (V (Q g1 0 I) n c1) (V (Q g2 0 I) zl c2) (V (Q g3 0 I) m c3)) (Ck results69 _ _ D 48 _ (0,0) _ rfl u0.r Bp rfl Tryz.infoNt) rfl ⟨g1,c1,g2,c2,g3,c3,F1,F2,F3,rfl,kf⟩
end
end Go.Proofs.YtcaejlalnjnifaaGreat
