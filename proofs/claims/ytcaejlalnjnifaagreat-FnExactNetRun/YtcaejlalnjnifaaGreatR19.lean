import Derived.Test.YtcaejlalnjnifaaGreatR16
set_option maxHeartbeats 8000000
set_option maxRecDepth 2000
open Go.Value renaming slice->V,string->Ag,tuple->Ah,agg->Ai,int->Ao,oneCell'->Aq
open Option renaming none->I,some->M
open Go.RowKit renaming Hid->H,Below->Ab
open Go.Addr renaming mk->Q
open Go renaming undef->O,World->Ad,Value->Aj,Calls->Ak,Addr->Al,maxLen->Au
open Go.Obj renaming cells->J
open Go.Ending renaming returned->Ae
open ByteArray renaming empty->Ap
open Go.IntKind renaming i64->Ar
open Bool renaming false->Av,true->Aw
open Go.Proofs.Tryz
open Go.ChangeShapes Go.WideShapes Go.ChangeAt Go.RowKit
namespace Go.Proofs.YtcaejlalnjnifaaGreat
section
theorem jAn (f:Int) (a:OA) (n cap:Nat) (zs:List Int) (w:Ad) (h:jH w a n zs) (hf:1<=f/\f<=3) (hn:n<=1048576):CB 60 #[V a n cap,f] w (JI f zs):=by
 have KI:H (jH w a n zs):=h;have hl:zs.length=n:=h.1;have KA:H (∀ W,CS 50 #[f] W (3*f+1:Int)):=fun W=>vR f W hf
 obtain⟨m,HM⟩:∃ m:Int,H (3*f+1=m):=⟨_,rfl⟩;rw[HM.out] at KA;have HF:H (1<=f/\f<=3):=hf;have em:IntKind.i64.wrap (m-1)=3*f:=by have:=HM.out;rw[A8];omega
 obtain⟨m1,b0⟩:∃ m1:Int,H (3*f=m1):=⟨_,rfl⟩;rw[b0.out] at em;clear h hf;go_enter func60,ntmps60
 go_wp2
 go_loopw [5] (fun vi wr=>∃ k:Nat,k<=n/\vi=Ao Ar (k:Int)/\H (∀ i,i<k->(0<=zs.getD i 0/\zs.getD i 0<3*f+1)/\(0<i->zs.getD (i-1) 0<zs.getD i 0))/\Ab w w wr) (fun vi _=>n-(intOf vi).toNat)
 case atStart=>exact⟨0,Bi _,rfl,fun i hi=>Bo hi (Bk _),Az _ _⟩
 case round=>
  obtain⟨k,hk,rfl,HP,hbel⟩:=hrel;by_cases hlt:k<n
  .have j0:(k:Int)<(n:Int):=by omega
   obtain⟨b,off,rfl,hc⟩:=(KI.below hbel).some (by omega);have c0:=hc k hlt;obtain⟨z,HZ⟩:=nnH (zs.getD k 0);rw[HZ.out] at c0;by_cases hz:0<=z/\z<3*f+1
   case neg=>
    have f0:inB z 0 m1=Av:=by have:=b0.out;unfold inB;simp;omega
    have HN:H (JI f zs=Av):=jAf fun h=>hz (by have:=(h k (by omega)).1;rw[HZ.out] at this;exact this)
    clear hc hz HP;go_wp2_with fail
    go_quiet (first|(go_at_call 50;exact Ce (KA _))|(go_at_call 43;exact Ce (jN _ _ _ _)))
    go_wp2
    go_ret
    exact⟨jT HN.symm,Cz hbel _⟩
   have f0:inB z 0 m1=Aw:=by have:=b0.out;unfold inB;simp;omega
   by_cases k0:k=0
   .subst k0;have HP2:H (∀ i,i<0+1->(0<=zs.getD i 0/\zs.getD i 0<3*f+1)/\(0<i->zs.getD (i-1) 0<zs.getD i 0)):=fun i hi=>by
     obtain rfl:i=0:=by omega
     rw[HZ.out];exact⟨hz,fun h=>Bo h (by omega)⟩
    simp only[Cp] at c0;clear hc hz HP;go_wp2_with fail
    go_quiet (first|(go_at_call 50;exact Ce (KA _))|(go_at_call 43;exact Ce (jN _ _ _ _)))
    go_wp2
    go_roundw
    case rel=>exact⟨0+1,by omega,by go_num,HP2,Cz hbel _⟩
    case measure=>simp[intOf];omega
   .have g0:0<k:=by omega
    have m0:decide (0<k)=Aw:=Bf g0;have d0:=hc (k-1) (by omega);obtain⟨k1,a0⟩:∃ k1,H (k=k1+1):=⟨k-1,by show k=_;omega⟩;have e1:IntKind.i64.wrap ((k:Int)-1)=(k1:Int):=by have:=a0.out;rw[A8];omega
    have h0:(k1:Int)<(n:Int):=by have:=a0.out;omega
    have i0:(0:Int)<=(k1:Int):=by omega
    rw[show k-1=k1 by have:=a0.out;omega] at d0;obtain⟨y,HY⟩:=nnH (zs.getD k1 0);rw[HY.out] at d0;by_cases hyz:y<z
    .have e0:¬ (z<=y):=by omega
     have HP2:H (∀ i,i<k+1->(0<=zs.getD i 0/\zs.getD i 0<3*f+1)/\(0<i->zs.getD (i-1) 0<zs.getD i 0)):=fun i hi=>by
      by_cases ei:i=k
      .subst ei;rw[show i-1=k1 by have:=a0.out;omega,HZ.out,HY.out];exact⟨hz,fun _=>hyz⟩
      .exact HP i (by omega)
     clear hc hz HP hyz;go_wp2_with fail
     go_quiet (first|(go_at_call 50;exact Ce (KA _))|(go_at_call 43;exact Ce (jN _ _ _ _)))
     go_wp2
     go_roundw
     case rel=>exact⟨k+1,by omega,by go_num,HP2,Cz hbel _⟩
     case measure=>simp[intOf];omega
    .have e0:z<=y:=by omega
     have HN:H (JI f zs=Av):=jAf fun h=>by
      have:=(h k (by omega)).2 (by omega)
      rw[show k-1=k1 by have:=a0.out;omega,HZ.out,HY.out] at this;omega
     clear hc hz HP hyz;go_wp2_with fail
     go_quiet (first|(go_at_call 50;exact Ce (KA _))|(go_at_call 43;exact Ce (jN _ _ _ _)))
     go_wp2
     go_ret
     exact⟨jT HN.symm,Cz hbel _⟩
  .obtain rfl:k=n:=by omega
   have HN:H (JI f zs=Aw):=JJ fun i hi=>HP i (by omega)
   go_wp2
   go_ret
   exact⟨jT HN.symm,hbel⟩
def slZ:Sl:=⟨Ap,⟨Ap,0,0,0,Ap,0,fun _=>Ap⟩,Av,Av,Av,Av,[],[]⟩
def zcS:List Aj:=[Ag Ap,Ag Ap,Ao Ar 0,Ao Ar 0,Ao Ar 0,Ag Ap,V I 0 0,.bool Av,.bool Av,.bool Av,.bool Av,V I 0 0,V I 0 0]
theorem Tryz.infoSlZ:(Tryz.prog.info? 42).map (fun i=>(i.zero,i.size,i.bytes))=M (M (Ai zcS.toArray),13,152):=by kernel_rfl
def H3 (g6 g11 g12 q x:Nat):Prop:=(q=6/\x=g6)\/(q=11/\x=g11)\/(q=12/\x=g12)
theorem jQc {w:Ad} {B g6 a0 b0:Nat} {s:Sl} {v6 c0 d0:Aj} (h6:Ow w B (txD s.p.m s.p.S) v6 (fun g=>g=g6)) (e0:Ow w B (inD s.ze) c0 (fun g=>g=a0)) (f0:Ow w B (inD s.zr) d0 (fun g=>g=b0)) (q:Nat) (hq:q<13):Ow w B (slD s q) ((slC s v6 c0 d0).toList.getD q O) (H3 g6 a0 b0 q):=by
 match q,hq with
 | 0,_|1,_|2,_|3,_|4,_|5,_|7,_|8,_|9,_|10,_=>rfl
 | 6,_=>exact Ow.mono h6 fun g hg=>.inl ⟨rfl,hg⟩
 | 11,_=>exact Ow.mono e0 fun g hg=>.inr (.inl ⟨rfl,hg⟩)
 | 12,_=>exact Ow.mono f0 fun g hg=>.inr (.inr ⟨rfl,hg⟩)
theorem jOr (w:Ad) (B q:Nat) (hq:q<13):Ow w B (slD slZ q) (zcS.getD q O) (fun _=>False):=by
 match q,hq with
 | 0,_|1,_|2,_|3,_|4,_|5,_|7,_|8,_|9,_|10,_=>rfl
 | 6,_=>exact Ow.nil _ _ _ _ _ _
 | 11,_=>exact Ow.nil _ _ _ _ _ _
 | 12,_=>exact Ow.nil _ _ _ _ _ _
theorem jLw (a:OA) (n cap:Nat) (S:Nat->Sl) (w:Ad) (h:Rd w (qH n S) (V a n cap)) (hn:n<=1048576) (hs:∀ i,i<n->SlS (S i)):Ak prog 173 #[V a n cap] w fun e w'=>e=Ae (V (Q w 0 I) n n)/\Ow w' w (qH n S) (V (Q w 0 I) n n) (rng w w'.1.size)/\Ab w w w':=by
 obtain⟨i0,hi,s0,t0,u0⟩:=Cg Tryz.infoSlZ;have KH:H (Rd w (qH n S) (V a n cap)):=h;have HS:H (∀ i,i<n->SlS (S i)):=hs;clear h hs;go_enter func173,ntmps173
 go_wp2_with (at_make;refine Cv _ rfl _ _ 24 rfl w 42 i0 (Ai zcS.toArray) 13 underlying24 hi s0 t0 Ar Ar _ _ n rfl rfl rfl rfl (by rw[u0];omega) (by unfold Au;omega) (Ay _) ?_;intro w1 a0 c0)
 have hb1:Ab w w w1:=(Az _ _).grown c0 (Ay _) (by simp);obtain⟨g,HG⟩:=nmH w.1.size;have ho1:Ow w1 w (.lst 42 13 n (fun i=>if i<0 then slD (S i) else slD slZ)) (V g n n) (rng w w1.1.size):=by
  have e:(madeCells (Ai zcS.toArray).cells (n*13)).toList=cL 13 (fun _ q=>zcS.getD q O) n:=xH (zs:=zcS) (by simp[zcS]);rw[e] at a0;rw[HG.out];have:=JZ (F:=rng w w1.1.size) a0 (fun q hq=>jOr w1 w q hq) ⟨Ay _,(A0 a0 _ rfl).2⟩
  exact this.congr (fun i q _ _=>by simp)
 have gB:g=w.1.size:=HG.out;rw[<-HG.out];have HB:H (w.1.size<=g):=by show _<=_;omega
 clear a0 c0 gB;go_loopw [4] (fun i wr=>∃ k:Nat,k<=n/\i=Ao Ar k/\Ow wr w (.lst 42 13 n (fun i=>if i<k then slD (S i) else slD slZ)) (V g n n) (rng w wr.1.size)/\Ab w w wr) (fun i _=>n-(intOf i).toNat)
 case atStart=>exact⟨0,Bi _,rfl,ho1,hb1⟩
 case round=>
  obtain⟨c,hc,rfl,a0,b0⟩:=hrel;clear ho1 hb1;by_cases hlt:c<n
  .have z0:(c:Int)<(n:Int):=by omega
   obtain⟨b1,f1,y1,p6,v0,w0,q6,x0,y0,rfl,m0,e1,o0,n0,g0⟩:=vJ (KH.below b0) hlt;have h0:=jNz (S c) p6 v0 w0 q6 x0 y0 wr o0 n0 g0 (HS c hlt);rw[<-e1] at h0;have KT:H _:=h0;clear h0;obtain⟨_,x⟩:=zK (sz:=12) wr (Az _ _) m0;have R1:H (wr.rangeAt b1 (f1+c*13) [y1 0,y1 1,y1 2,y1 3,y1 4,y1 5,y1 6,y1 7,y1 8,y1 9,y1 10,y1 11,y1 12]):=XK x;have KO:H (Ow wr w (.lst 42 13 n (fun i=>if i<c then slD (S i) else slD slZ)) (V g n n) (rng w wr.1.size)/\Ab w w wr):=⟨a0,b0⟩;have lg:g<wr.1.size:=by
    obtain⟨a',k0,c',G',e',f0,_⟩:=a0;cases e';exact(A0 f0 g rfl).2
   clear m0 e1 o0 n0 g0 x b0 a0;go_wp2_with (refine Bv rfl 228 _ rfl b1 (f1+c*13) rfl [y1 0,y1 1,y1 2,y1 3,y1 4,y1 5,y1 6,y1 7,y1 8,y1 9,y1 10,y1 11,y1 12] _ ?_ underlying228 rfl Tryz.infoSlL ?_;exact R1)
   refine Ax KT.out ?_;rintro e w2 ⟨g6,d0,e0,rfl,l1,l2,l3,l4,o6,p0,q0,b2⟩;have O2:=KO.1.below b2;have TH:H (w2.there g (c*13) 13):=by
    obtain⟨a',k0,c',G',e',f0,_⟩:=O2;cases e';intro j hj;refine⟨?_,B0 f0 _⟩;rw[Br f0 _ (qM hlt hj),jU _ _ _ _ _ hlt hj];rfl
   have j0:=KO.2.size;have HO:H (Ow (w2.setCells g (c*13) (slC (S c) (V g6 (S c).p.m (S c).p.m) (V d0 (S c).ze.length (S c).ze.length) (V e0 (S c).zr.length (S c).zr.length)).toList) w (.lst 42 13 n (fun i=>if i<c+1 then slD (S i) else slD slZ)) (V g n n) (rng w (w2.setCells g (c*13) (slC (S c) (V g6 (S c).p.m (S c).p.m) (V d0 (S c).ze.length (S c).ze.length) (V e0 (S c).zr.length (S c).zr.length)).toList).1.size)):=by
    rw[jQ];refine Ow.congr (Ow.store (d:=slD (S c)) O2 hlt rfl (fun q hq=>jQc (o6.base j0) (p0.base j0) (q0.base j0) q hq) ?_ ?_ ?_ ?_) ?_
    .intro q x _ hx hf;have h2:=hf.2;rcases hx with ⟨_,rfl⟩|⟨_,rfl⟩|⟨_,rfl⟩ <;> omega
    .intro q q' x _ _ hx r0;rcases hx with ⟨_,rfl⟩|⟨_,rfl⟩|⟨_,rfl⟩ <;> rcases r0 with ⟨_,h⟩|⟨_,h⟩|⟨_,h⟩ <;> omega
    .intro x hx;have:=b2.size
     exact⟨hx.1,by have:=hx.2;omega⟩
    .intro q x _ hx;rcases hx with ⟨_,rfl⟩|⟨_,rfl⟩|⟨_,rfl⟩ <;> exact⟨by omega,by omega⟩
    .intro i q _ _;by_cases e:i=c
     .subst e;simp
     .by_cases e2:i<c
      .simp[e,e2,show i<c+1 by omega]
      .simp[e,e2,show ¬ i<c+1 by omega]
   have HBe:H (Ab w w (w2.setCells g (c*13) (slC (S c) (V g6 (S c).p.m (S c).p.m) (V d0 (S c).ze.length (S c).ze.length) (V e0 (S c).zr.length (S c).zr.length)).toList)):=jR (jA KO.2 b2) HB _ _;clear O2 b2 o6 p0 q0 KT R1 KO;go_wp2_with (refine C7 rfl 42 _ _ rfl g (c*13) (slC (S c) (V g6 (S c).p.m (S c).p.m) (V d0 (S c).ze.length (S c).ze.length) (V e0 (S c).zr.length (S c).zr.length)) rfl rfl ?_ Tryz.infoSl (by simp[Aq]) ?_;exact TH)
   go_roundw
   case rel=>exact⟨c+1,by omega,by go_num,HO.out,HBe.out⟩
   case measure=>simp[intOf];omega
  .obtain rfl:c=n:=by omega
   have HO:H (Ow wr w (qH c S) (V g c c) (rng w wr.1.size)):=a0.congr (fun i q hi _=>by simp[hi]);clear a0;go_wp2
   go_ret
   exact⟨by rw[<-HG.out];rfl,by rw[<-HG.out];rw[HG.out];have:=HO.out;rw[HG.out] at this;exact this,b0⟩
theorem jNv (id f:Int) (a:OA) (n cap:Nat) (S:Nat->Sl) (w:Ad) (h:Rd w (qH n S) (.slice a n cap)) (hn:n<=1048576) (hs:∀ i,i<n->SlS (S i)):Ak prog 144 #[Ai #[id,f,.slice a n cap]] w fun e w'=>∃ g,e=Ae (Ai #[id,f,.slice (Q g 0 I) n n])/\Ow w' w (qH n S) (.slice (Q g 0 I) n n) (rng w w'.1.size)/\Ab w w w':=by
 obtain⟨A,HA⟩:=nmH w.1.size;obtain⟨D,HD⟩:=nmH (w.1.size+1);obtain⟨V,HV⟩:=nmH (w.1.size+1+1);obtain⟨w0,d0⟩:=nmH (((w.alloc (J #[id,f,.slice a n cap] 190)).alloc (J #[(),(),.slice I 0 0] 26)).alloc (J #[id,f,.slice I 0 0] 26));have RD:=xV d0 HD;have RV:=zE d0 HV;have f0:=bl3 d0;have c0:H (V≠D/\w.1.size<=D/\w.1.size<=V/\V<w0/\D<w0):=by
  have h1:=HV.out;have h2:=HD.out;exact⟨by omega,by omega,by omega,RV.out.lt,RD.out.lt⟩
 have e0:=hd f0;have KT:H _:=jLw a n cap S w0 (h.below f0) hn hs;obtain⟨g,HG⟩:=nmH w0.1.size;go_enter func144,ntmps144
 go_wp2_with fail
 rw[<-d0.out,<-HV.out,<-HD.out,<-HA.out];refine Ax KT.out ?_;rintro e w1 ⟨rfl,O1,b1⟩;rw[<-HG.out] at O1;rw[<-HG.out];rw[HG.out] at O1;have V1:=RV.below b1 RV.lt;have D1:=hd (RD.below b1 RD.lt);have y2:=V1.cell 2;have f2:=V1.free 2;simp at y2;obtain⟨w2,a0⟩:=nmH (w1.setCell (Q V 2 I) (.slice (Q g 0 I) n n));have V2:H (Row w2 V 26 #[id,f,.slice (Q g 0 I) n n]):=by show Row _ _ _ _;rw[a0.out];exact V1.set 2 _
 have D2:H (Row w2 D 26 #[(),(),.slice I 0 0]):=by show Row _ _ _ _;rw[a0.out];exact D1.other 2 _ (Cj c0.1)
 obtain⟨w3,b0⟩:=nmH (w2.setRow D #[id,f,.slice (Q g 0 I) n n]);have D3:=rr b0 D2;have B3:H (Ab w w w3):=by
  show Ab _ _ _;rw[b0.out,a0.out];exact jF (Bn (jA e0 b1) c0.2.2.1 _) c0.2.1 _
 have O3:H (Ow w3 w (qH n S) (.slice (Q g 0 I) n n) (rng w w3.1.size)):=by
  have h1:w3.1.size=w1.1.size:=by rw[b0.out,a0.out];simp
  have h2:=e0.size;have h3:=(O1.base h2).frame (w':=w3) (fun x hx _=>by
   have l1:=hx.1;have l2:=c0.2.2.2.1;have l3:=c0.2.2.2.2;rw[b0.out,Cd _ _ _ _ (by omega),a0.out];exact Cn w1 (Q V 2 I) x _ (by show x≠V;omega))
  rw[HG.out];exact h3.mono (fun x hx=>⟨by have:=hx.1;omega,by have:=hx.2;omega⟩)
 go_wp2_with (first|(rw[<-a0.out];refine Bb rfl 26 _ rfl V rfl 26 _ (0,0) _ V2 Ch rfl Tryz.infoNd ?_;clear y2 f2)|(refine Bw rfl 26 _ _ rfl D #[id,f,.slice (M ⟨g,0,I⟩) n n] rfl rfl 26 #[(),(),.slice I 0 0] ?_ Tryz.infoNd rfl (by simp[Aq]) ?_;exact D2;rw[<-b0.out]))
 refine B7 (v:=Ai #[id,f,.slice (Q g 0 I) n n]) (Ck results144 _ _ D 26 _ (0,0) _ rfl D3 Ch rfl Tryz.infoNd) rfl ⟨g,rfl,O3,B3⟩
theorem jI5 (c:Nat->Nat->Aj) (n:Nat):cL 10 c (n+1)=cL 10 c n++[c n 0,c n 1,c n 2,c n 3,c n 4,c n 5,c n 6,c n 7,c n 8,c n 9]:=by
 apply Co
 intro j;by_cases hj:j<n*10
 .rw[Ea (by rw[qB];omega)];have h1:=jU 10 c (n+1) (j / 10) (j % 10) (by omega) (by omega);have h2:=jU 10 c n (j / 10) (j % 10) (by omega) (by omega);rw[vB] at h1 h2;rw[h1,h2]
 .rw[Ds (by rw[qB];omega),qB];by_cases h6:j<(n+1)*10
  .obtain⟨q,rfl⟩:∃ q,j=n*10+q:=⟨j-n*10,by omega⟩;have u:q<10:=by omega
   rw[jU _ _ _ _ _ (by omega) u,show n*10+q-n*10=q by omega];match q,u with
   | 0,_|1,_|2,_|3,_|4,_|5,_|6,_|7,_|8,_|9,_=>rfl
  .rw[Be (by rw[qB];omega),Be (by simp;omega)]
noncomputable def brP (s:BA) (f:Int):Nat->Pc:=jL3 (f+1) (3*f+1).toNat (ZE s (f+1).toNat)
noncomputable def brS (s:BA) (f:Int) (i:Nat):Sy:=⟨0,-1,(i:Int),(brP s f i).r,brP s f i⟩
def brB (s:BA) (f:Int):Bool:=fB f&&vK s (f+1) (3*f+1)
def brN (s:BA) (f:Int):Nat:=if brB s f then (3*f+1).toNat else 0
noncomputable def brR (s:BA) (f:Int):BA:=if brB s f then (brP s f 0).r else Ap
theorem jRe (s:BA) (f:Int) (i:Nat):(brP s f i).r=(brP s f 0).r:=rfl
noncomputable def syc (s:BA) (f:Int) (A:Nat->OA) (C:Nat->Nat) (i q:Nat):Aj:=(syC (brS s f i) (V (A i) (brP s f i).m (C i))).toList.getD q O
theorem jQs (s:BA) (f:Int) (A:Nat->OA) (C:Nat->Nat) (i:Nat):[syc s f A C i 0,syc s f A C i 1,syc s f A C i 2,syc s f A C i 3,syc s f A C i 4,syc s f A C i 5,syc s f A C i 6,syc s f A C i 7,syc s f A C i 8,syc s f A C i 9]=(syC (brS s f i) (V (A i) (brP s f i).m (C i))).toList:=rfl
theorem jQi {w:Ad} {B:Nat} {a:OA} {n cap:Nat} {s:BA} {f:Int} {A:Nat->OA} {C:Nat->Nat} (D:w.ownsRow B 31 10 (V a n cap) n (cL 10 (syc s f A C) n)) (G:∀ i,i<n->jL w (A i) (brP s f i).m (brP s f i).S):Rd w (qI n (brS s f)) (V a n cap):=by
 refine⟨a,cap,rfl,fun i j=>?_⟩;rcases jX D with ⟨_,H,_⟩|⟨g,a0,rfl,_⟩
 .omega
 .refine⟨g,0,rfl,fun q u=>⟨syc s f A C i q,?_,?_⟩⟩
  .rw[Bt,D.cellAt _ (qM j u)];exact jU _ _ _ _ _ j u
  .match q,u with
   | 0,_|1,_|2,_|3,_|4,_|5,_|6,_|7,_|8,_=>rfl
   | 9,_=>exact XX.2 (G i j)
theorem jQb {w:Ad} {B g:Nat} {n cap:Nat} {s:BA} {f:Int} {A:Nat->OA} {C:Nat->Nat} {F:Nat->Prop} (W:w.ownsRow B 31 10 (V g n cap) n (cL 10 (syc s f A C) n)) (X:∀ i,i<n->jI w B (A i) (brP s f i).m (C i) (brP s f i).S) (hd:∀ i j x y,i<j->j<n->A i=some x->A j=some y->x.block≠y.block) (M:∀ i x,i<n->A i=some x->x.block≠g) (R:F g) (H:∀ i x,i<n->A i=some x->F x.block):Ow w B (qI n (brS s f)) (V g n cap) F:=by
 refine⟨_,cap,syc s f A C,fun i q x=>q=9/\∃ y,A i=some y/\y.block=x,rfl,W,⟨fun x e=>by cases e;exact R,?_,?_,?_⟩,fun i q u O=>?_⟩
 .rintro i q x u _ ⟨_,y,e,rfl⟩;exact H i y u e
 .rintro i q x u _ ex ⟨_,y,e,D⟩;cases ex;exact M i y u e D
 .rintro i q J Z x u _ G _ ⟨h1,y,e,rfl⟩ ⟨h2,K,L,D⟩;refine⟨?_,by omega⟩;rcases Nat.lt_trichotomy i J with h|h|h
  .exact Bo D.symm (hd i J y K h G e L)
  .exact h
  .exact Bo D (hd J i K y h u L e)
 .match q,O with
  | 0,_|1,_|2,_|3,_|4,_|5,_|6,_|7,_|8,_=>rfl
  | 9,_=>exact xQ (X i u) (fun x e=>⟨rfl,x,e,rfl⟩)
theorem Tryz.infoSyB:(Tryz.prog.info? 31).map (fun i=>(i.zero,i.size,i.bytes))=M (M (Ai #[(),(),(),Ap,Ap,(),(),(),Ap,V I 0 0]),10,120):=by kernel_rfl
theorem JL {w w':Ad} {B e s n l c:Nat} {a:OA} {xs:List Aj} (h:w.ownsRow B e s (V a l c) n xs) (A:∀ x,a=M x->B<=x.block->x.block<w->w'.1[x.block]?=w.1[x.block]?):w'.ownsRow B e s (V a l c) n xs:=by
 refine⟨h.1,?_⟩;rcases h.2 with k|⟨j,b0,a0,q,h1,h2,u⟩
 .exact .inl k
 .cases q;exact .inr ⟨j,_,a0,rfl,h1,(A _ rfl h1 (Bz.1 h2).1).trans h2,u⟩
theorem jFc (s:BA) (f:Int) (w:Ad) (hs:s.size<=1048576):Ak prog 140 #[s,f] w fun e w'=>∃ a cap,e=Ae (Ah #[V a (brN s f) cap,(brR s f),(brB s f)])/\(∀ W',w'.1.size<=W'.1.size->(∀ b,w.1.size<=b->b<w'.1.size->W'.1[b]?=w'.1[b]?)->Rd W' (qI (brN s f) (brS s f)) (V a (brN s f) cap))/\Ab w w w':=by
 obtain⟨i0,hi,a6,b0,b2⟩:=Cg Tryz.infoSyB;have KI:Hid (CS 43 #[f,(1:Int),(3:Int)] w (inB f 1 3)):=jN f 1 3 w;by_cases hf:1<=f/\f<=3
 case neg=>
  have i1:inB f 1 3=Av:=Bg hf;rw[i1] at KI;have K:brB s f=Av:=by unfold brB fB;rw[Bg hf];rfl
  have hN:brN s f=0:=by unfold brN;rw[K];rfl
  have hR:brR s f=Ap:=by unfold brR;rw[K];rfl
  rw[hN,hR,K];have KB:Hid (Ab w w (w.alloc (.cells #[] 31))):=(Az _ _).alloc (Ay _) _;clear hs hN hR K;go_enter func140,ntmps140
  go_wp2_with fail
  refine CM KI.out fun w' hw=>?_
  obtain rfl:=hw.symm;clear hw KI;go_wp2
  go_ret3
  exact⟨_,_,rfl,fun _ _ _=>Rd.nil _ _ _ _ _ _,KB⟩
 have i1:inB f 1 3=Aw:=Bf hf;rw[i1] at KI;have e1:IntKind.i64.wrap (f+1)=f+1:=by rw[A8];omega
 have KA:Hid (∀ W,CS 50 #[f] W (3*f+1:Int)):=fun W=>vR f W hf
 have a0:brB s f=vK s (f+1) (3*f+1):=by unfold brB fB;rw[Bf hf];rfl
 have KC:Hid (Ak prog 101 #[s,(f+1:Int),(3*f+1:Int)] w fun e w'=>∃ v,e=Ae (Ah #[v,(brB s f)])/\jRa w w' v (jIp s (f+1) (3*f+1)) (brP s f)/\Ab w w w'):=by
  have:=jNc s (f+1) (3*f+1) w hs
  rw[<-a0] at this;exact this
 have a1:jIp s (f+1) (3*f+1)=brN s f:=by unfold jIp brN;rw[a0]
 rw[a1] at KC;obtain⟨n1,b4⟩:=nnH (3*f+1);rw[b4.out] at KA KC;cases K:brB s f with
 | false=>
  rw[K] at KC;have hN:brN s f=0:=by unfold brN;rw[K];rfl
  have hR:brR s f=Ap:=by unfold brR;rw[K];rfl
  rw[hN] at KC;rw[hN,hR];clear a0 a1 hN hR hs;go_enter func140,ntmps140
  go_wp2_with fail
  refine CM KI.out fun w' hw=>?_
  obtain rfl:=hw.symm;clear hw KI;go_wp2_with fail
  refine CM (KA _) fun w' hw=>?_
  obtain rfl:=hw.symm;clear hw;go_wp2_with fail
  refine Ax KC.out ?_;rintro e w1 ⟨v,rfl,_,b1⟩;have KB:Hid (Ab w w (w1.alloc (.cells #[] 31))):=b1.alloc b1.size _;clear b1 KC;go_wp2
  go_ret3
  exact⟨_,_,rfl,fun _ _ _=>Rd.nil _ _ _ _ _ _,KB⟩
 | true=>
  rw[K] at KC;obtain⟨N,HN⟩:=nnH (brN s f);have b5:0<N/\N<=16:=by
   rw[<-HN.out];unfold brN;rw[K];simp only[C0];omega
  obtain⟨a8,b7⟩:=b5;obtain⟨R,HR⟩:=nnH (brR s f);have a5:Hid (∀ i,(brP s f i).r=R):=fun i=>by rw[<-HR.out];unfold brR;rw[K];exact jRe s f i
  rw[HN.out] at KC;rw[HN.out,HR.out];clear a0 a1 hs K;go_enter func140,ntmps140
  go_wp2_with fail
  refine CM KI.out fun w' hw=>?_
  obtain rfl:=hw.symm;clear hw KI;go_wp2_with fail
  refine CM (KA _) fun w' hw=>?_
  obtain rfl:=hw.symm;clear hw;go_wp2_with fail
  refine Ax KC.out ?_;rintro e w1 ⟨v,rfl,⟨G,cP,A,C,rfl,OP⟩,b1⟩;have HX:Hid (∀ j q,j<N->q<6->w1.cell? (Q G (j*6+q) I)=some (cel (brP s f j) (V (A j) (brP s f j).m (C j)) q)):=fun j q hj hq=>jEj.cell OP.1 hj hq
  have b6:Hid (∀ j,j<N->jI w1 w (A j) (brP s f j).m (C j) (brP s f j).S):=fun j hj=>OP.2.1 j hj
  have a2:Hid (Ab w w w1):=b1;have lP:=(A0 OP.1 G rfl).2;have b8:(0:Int)<(N:Int):=by omega
  clear b1 KC OP;go_wp2
  go_loopw [9,10] (fun v9 v10 wr=>∃ j g cc:Nat,j<=N/\v10=Ao Ar (j:Int)/\v9=V g j cc/\wr.ownsRow w1 31 10 (V g j cc) j (cL 10 (syc s f A C) j)/\Ab w1 w1 wr) (fun _ v10 _=>N-(intOf v10).toNat)
  case atStart=>exact⟨0,w1.1.size,0,Bi _,rfl,rfl,Cc w1 #[] 0 (Ay _) (by unfold Au;omega) (by simp),(Az _ _).alloc (Ay _) _⟩
  case round=>
   obtain⟨j,g,cc,hj,rfl,rfl,H,D⟩:=hrel;by_cases hlt:j<N
   .have c1:(j:Int)<(N:Int):=by omega
    have KO:Hid (wr.ownsRow w1 31 10 (V g j cc) j (cL 10 (syc s f A C) j)):=H;have KB:Hid (Ab w1 w1 wr):=D;have b3:=D.size;have lg:=A0 H g rfl;have HC:Hid (∀ q,q<6->wr.cell? (Q G (j*6+q) I)=some (cel (brP s f j) (V (A j) (brP s f j).m (C j)) q)):=fun q hq=>(D.cell (p:=Q G (j*6+q) I) lP).trans (HX j q hlt hq)
    obtain⟨pr,M,O,L,pb,Z,pS,HP⟩:∃ r k n i b m S,Hid (brP s f j=⟨r,k,n,i,b,m,S⟩):=⟨_,_,_,_,_,_,_,rfl⟩;have a9:pr=R:=by have:=a5 j;rw[HP.out] at this;exact this
    have x0:=HC 0 (by omega);have x1:=HC 1 (by omega);have x2:=HC 2 (by omega);have x3:=HC 3 (by omega);have x4:=HC 4 (by omega);have x5:=HC 5 (by omega);rw[HP.out] at x0 x1 x2 x3 x4 x5;simp only[cel,Cp] at x0 x1 x2 x3 x4 x5;have HE:Hid ((syC (brS s f j) (V (A j) (brP s f j).m (C j))).toList=[Ao Ar 0,Ao Ar (-1),Ao Ar (j:Int),Ag pr,Ag pr,Ao Ar M,Ao Ar O,Ao Ar L,Ag pb,V (A j) Z (C j)]):=by
     show _=_;unfold brS;rw[HP.out]
    obtain⟨nw,b9⟩:=nmH ((#[(),(-1:Int),(j:Int),pr,pr,M,O,L,pb,V (A j) Z (C j)]:Array Aj));have a3:Hid ((wr.drew.alloc (.cells #[(),(-1:Int),(j:Int),pr,pr,M,O,L,pb,V (A j) Z (C j)] 31)).ownsRow w1 31 10 (V g j cc) j (cL 10 (syc s f A C) j)):=Cb (jE KO (jD wr)) _;have KW:Hid (∀ q u,[Ao Ar 0,(-1:Int),(j:Int),pr,pr,M,O,L,pb,V (A j) Z (C j)][q]?=some u->(wr.drew.alloc (.cells #[(),(-1:Int),(j:Int),pr,pr,M,O,L,pb,V (A j) Z (C j)] 31)).cell? (((Q wr.1.size 0 I):Al).add q)=some u):=Cf (cs:=#[Ao Ar 0,Ao Ar (-1),Ao Ar (j:Int),Ag pr,Ag pr,Ao Ar M,Ao Ar O,Ao Ar L,Ag pb,V (A j) Z (C j)]) (t:=31) (fr:=(0,0)) (Cq wr.drew _);have KG:Hid (Ab w1 w1 (wr.drew.alloc (.cells #[(),(-1:Int),(j:Int),pr,pr,M,O,L,pb,V (A j) Z (C j)] 31))):=(KB.drew).alloc b3 _;have c0:G<wr.1.size:=by omega
    clear H D a9 HC;go_wp2_with fail
    go_region_held3 (fun w'=>w'.cell? (Q G (j*6) I)=some (Ag pr)/\w'.cell? (Q G (j*6+1) I)=some (Ao Ar M)/\w'.cell? (Q G (j*6+2) I)=some (Ao Ar O)/\w'.cell? (Q G (j*6+3) I)=some (Ao Ar L)/\w'.cell? (Q G (j*6+4) I)=some (Ag pb)/\w'.cell? (Q G (j*6+5) I)=some (V (A j) Z (C j))) (go_keep) ((refine xK _ rfl _ _ _ rfl w1 31 i0 _ 10 120 Dm hi a6 b0 b2 rfl (by omega) g j cc (cL 10 (syc s f A C) j) rfl ?_ ⟨wr.1.size,0,I⟩ 1 1 [(),(-1:Int),(j:Int),pr,pr,M,O,L,pb,V (A j) Z (C j)] rfl rfl ?_ (by simp[Aq]) (by unfold Au;omega) (by omega) (by simp;omega) ?_;exact a3.out;exact KW.out;intro g3 cap3 w3 X J;have a4:Hid (w3.ownsRow w1 31 10 (V g3 (j+1) cap3) (j+1) (cL 10 (syc s f A C) j++[Ao Ar 0,Ao Ar (-1),Ao Ar (j:Int),Ag pr,Ag pr,Ao Ar M,Ao Ar O,Ao Ar L,Ag pb,V (A j) Z (C j)])):=X;have KB3:Hid (Ab w1 w1 w3):=KG.grown J (by simp;omega) (fun x hx=>by cases hx;exact lg.1);have h3:=KB3.out;have z0:=(h3.cell (p:=Q G (j*6) I) lP).trans (HX j 0 hlt (by omega));have z1:=(h3.cell (p:=Q G (j*6+1) I) lP).trans (HX j 1 hlt (by omega));have z2:=(h3.cell (p:=Q G (j*6+2) I) lP).trans (HX j 2 hlt (by omega));have z3:=(h3.cell (p:=Q G (j*6+3) I) lP).trans (HX j 3 hlt (by omega));have z4:=(h3.cell (p:=Q G (j*6+4) I) lP).trans (HX j 4 hlt (by omega));have z5:=(h3.cell (p:=Q G (j*6+5) I) lP).trans (HX j 5 hlt (by omega));rw[HP.out] at z0 z1 z2 z3 z4 z5;simp only[cel] at z0 z1 z2 z3 z4 z5;clear X J h3))
    all_goals
     have HO:Hid (w3.ownsRow w1 31 10 (V g3 (j+1) cap3) (j+1) (cL 10 (syc s f A C) (j+1))):=by
      show World.ownsRow _ _ _ _ _ _ _;rw[jI5,jQs,show (syC (brS s f j) (V (A j) (brP s f j).m (C j))).toList=[Ao Ar 0,Ao Ar (-1),Ao Ar (j:Int),Ag pr,Ag pr,Ao Ar M,Ao Ar O,Ao Ar L,Ag pb,V (A j) Z (C j)] from HE.out];exact a4
     clear a4 KO a3 KW KG KB x0 x1 x2 x3 x4 x5 z0 z1 z2 z3 z4 z5;go_wp2
     go_roundw
     case rel=>exact⟨j+1,g3,cap3,by omega,by go_num,rfl,HO.out,KB3.out⟩
     case measure=>simp[intOf];omega
   .obtain rfl:j=N:=by omega
    have y0:=(D.cell (p:=G) lP).trans (HX 0 0 a8 (by omega));simp only[cel] at y0;rw[a5.out 0] at y0;have KR:Hid (∀ W',wr.1.size<=W'.1.size->(∀ b,w.1.size<=b->b<wr.1.size->W'.1[b]?=wr.1[b]?)->Rd W' (qI j (brS s f)) (V g j cc)):=fun W' _ h2=>by
     have s1:=a2.size;have s2:=D.size;refine jQi (JL H (fun x _ hb hl=>h2 _ (by omega) hl)) (fun i hi=>jI.at (B:=w.1.size) (cap:=C i) (JL (b6 i hi) (fun x _ hb hl=>?_)));exact(h2 x.block hb (by omega)).trans (D.block x.block hl)
    have a7:Hid (Ab w w wr):=jA a2 D;clear H D;go_wp2_with fail
    go_region
    all_goals
     go_wp2
     go_ret3
     exact⟨_,_,rfl,KR,a7.drew⟩
def zcB:List Aj:=[Ao Ar 0,Ao Ar 0,Ao Ar 0,Ag Ap,Ag Ap,Ao Ar 0,Ao Ar 0,Ao Ar 0,Ag Ap,V I 0 0]
theorem jI2 (s:BA) (f:Int) (w:Ad) (hs:s.size<=1048576):Ak prog 170 #[s,f] w fun e w'=>∃ g cap,e=Ae (Ah #[.slice (Q g 0 I) (brN s f) cap,(brR s f),(brB s f)])/\Ow w' w (qI (brN s f) (brS s f)) (.slice (Q g 0 I) (brN s f) cap) (rng w w'.1.size)/\Ab w w w':=by
 obtain⟨i0,J,b5,c1,c4⟩:=Cg Tryz.infoSyB;have KI:Hid (CS 71 #[f] w (fB f)):=jEv f w;have a5:Hid (∀ (W:Ad) (S:Nat->Sy),w.1.size<=W.1.size->Ow (W.alloc (.cells #[] 31)) w (qI 0 S) (.slice (Q W.1.size 0 I) 0 0) (rng w (W.alloc (.cells #[] 31)).1.size)):=fun W S H=>by
  refine⟨_,0,fun _ _=>undef,fun _ _ _=>False,rfl,Cc W #[] 0 H (by unfold Au;omega) (by simp),⟨fun x e=>by cases e;exact⟨H,by simp⟩,fun _ _ _ J=>Bo J (Bk _),fun _ _ _ J=>Bo J (Bk _),fun _ _ _ _ _ J=>Bo J (Bk _)⟩,fun _ _ J=>Bo J (Bk _)⟩
 by_cases hf:1<=f/\f<=3
 case neg=>
  have i1:fB f=Av:=Bg hf;rw[i1] at KI;have X:brB s f=Av:=by unfold brB;rw[i1];rfl
  have hN:brN s f=0:=by unfold brN;rw[X];rfl
  have hR:brR s f=Ap:=by unfold brR;rw[X];rfl
  rw[hN,hR,X];have KB:Hid (Ab w w (w.alloc (.cells #[] 31))):=(Az _ _).alloc (Ay _) _;have KN:Hid _:=a5 w (brS s f) (Ay _);clear hs hN hR X;go_enter func170,ntmps170
  go_wp2_with fail
  refine CM KI.out fun w' hw=>?_
  obtain rfl:=hw.symm;clear hw KI;go_wp2
  go_ret3
  exact⟨_,_,rfl,KN,KB⟩
 have i1:fB f=Aw:=Bf hf;rw[i1] at KI;have KP:Hid (∀ W,CS 158 #[f] W (f+1:Int)):=fun W=>QW f W hf
 have KA:Hid (∀ W,CS 72 #[f] W (3*f+1:Int)):=fun W=>vH f W hf
 have a4:brB s f=vK s (f+1) (3*f+1):=by unfold brB;rw[i1];rfl
 have Z:Hid (Ak prog 191 #[s,(f+1:Int),(3*f+1:Int)] w fun e w'=>∃ v,e=Ae (Ah #[v,(brB s f)])/\jRa w w' v (jIp s (f+1) (3*f+1)) (brP s f)/\Ab w w w'):=by
  have:=jM2 s (f+1) (3*f+1) w hs
  rw[<-a4] at this;exact this
 have a7:jIp s (f+1) (3*f+1)=brN s f:=by unfold jIp brN;rw[a4]
 rw[a7] at Z;obtain⟨k1,e6⟩:=nnH (f+1);obtain⟨n1,e7⟩:=nnH (3*f+1);rw[e6.out] at KP Z;rw[e7.out] at KA Z;cases X:brB s f with
 | false=>
  rw[X] at Z;have hN:brN s f=0:=by unfold brN;rw[X];rfl
  have hR:brR s f=Ap:=by unfold brR;rw[X];rfl
  rw[hN] at Z;rw[hN,hR];clear a4 a7 hN hR hs;go_enter func170,ntmps170
  go_wp2_with fail
  refine CM KI.out fun w' hw=>?_
  obtain rfl:=hw.symm;clear hw KI;go_wp2_with fail
  refine CM (KP _) fun w' hw=>?_
  obtain rfl:=hw.symm;clear hw;go_wp2_with fail
  refine CM (KA _) fun w' hw=>?_
  obtain rfl:=hw.symm;clear hw;go_wp2_with fail
  refine Ax Z.out ?_;rintro e D ⟨v,rfl,_,b1⟩;have KB:Hid (Ab w w (D.alloc (.cells #[] 31))):=b1.alloc b1.size _;have KN:Hid _:=a5 D (brS s f) b1.size;clear b1 Z;go_wp2
  go_ret3
  exact⟨_,_,rfl,KN,KB⟩
 | true=>
  rw[X] at Z;obtain⟨N,HN⟩:=nnH (brN s f);have e8:0<N/\N<=16:=by
   rw[<-HN.out];unfold brN;rw[X];simp only[C0];omega
  obtain⟨b9,f0⟩:=e8;obtain⟨R,HR⟩:=nnH (brR s f);have a8:Hid (∀ i,(brP s f i).r=R):=fun i=>by rw[<-HR.out];unfold brR;rw[X];exact jRe s f i
  have f7:R.size<=1048576:=by
   rw[<-a8.out 0];show (rtS _ _).size<=_;unfold rtS;split
   .rename_i hlv
    have:=vF hlv
    rw[Gt.rt_size (by omega) this.2.2];omega
   .decide
  have b3:Hid (∀ W,CB 120 #[R] W R):=fun W=>qO R W (by omega)
  rw[HN.out] at Z;rw[HN.out,HR.out];clear a4 a7 hs X;go_enter func170,ntmps170
  go_wp2_with fail
  refine CM KI.out fun w' hw=>?_
  obtain rfl:=hw.symm;clear hw KI;go_wp2_with fail
  refine CM (KP _) fun w' hw=>?_
  obtain rfl:=hw.symm;clear hw;go_wp2_with fail
  refine CM (KA _) fun w' hw=>?_
  obtain rfl:=hw.symm;clear hw;go_wp2_with fail
  refine Ax Z.out ?_;rintro e D ⟨v,rfl,⟨gP,cP,A,C,rfl,OP⟩,b1⟩;have HX:Hid (∀ j q,j<N->q<6->D.cell? (Q gP (j*6+q) I)=some (cel (brP s f j) (.slice (A j) (brP s f j).m (C j)) q)):=fun j q hj hq=>jEj.cell OP.1 hj hq
  have a3:Hid (jCn D w gP N cP A C (brP s f)):=OP;have b0:Hid (Ab w w D):=b1;have lP:=(A0 OP.1 gP rfl).2;have f2:(0:Int)<(N:Int):=by omega
  clear b1 Z OP;go_wp2_with (at_make;refine Cv _ rfl _ _ 34 rfl D 31 i0 _ 10 Dm J b5 c1 Ar Ar _ _ N rfl rfl rfl rfl (by rw[c4];omega) (by unfold Au;omega) (Ay _) ?_;intro w2 B a1)
  have hb2:Ab D D w2:=(Az _ _).grown a1 (Ay _) (by simp);obtain⟨G,HG⟩:=nmH D.1.size;have ho2:w2.ownsRow D 31 10 (.slice G N N) N (cL 10 (fun i q=>if i<0 then syc s f A C i q else zcB.getD q undef) N):=by
   have e:(madeCells (Ai zcB.toArray).cells (N*10)).toList=cL 10 (fun _ q=>zcB.getD q undef) N:=xH (zs:=zcB) (by simp[zcB]);have e2:cL 10 (fun i q=>if i<0 then syc s f A C i q else zcB.getD q undef) N=cL 10 (fun _ q=>zcB.getD q undef) N:=vZ (fun i q _ _=>by simp);rw[e2,<-e,HG.out];exact B
  rw[<-HG.out];have e3:D.1.size<=G:=by rw[HG.out];exact Ay _
  have f4:gP<G:=by rw[HG.out];exact lP
  clear B a1;go_loopw [33] (fun v33 wr=>∃ j:Nat,j<=N/\v33=Ao Ar (j:Int)/\wr.ownsRow D 31 10 (.slice G N N) N (cL 10 (fun i q=>if i<j then syc s f A C i q else zcB.getD q undef) N)/\Ab D D wr) (fun v33 _=>N-(intOf v33).toNat)
  case atStart=>exact⟨0,Bi _,rfl,ho2,hb2⟩
  case round=>
   obtain⟨j,hj,rfl,B,u⟩:=hrel;clear ho2 hb2;by_cases hlt:j<N
   .have f3:(j:Int)<(N:Int):=by omega
    have KO:Hid (wr.ownsRow D 31 10 (.slice G N N) N (cL 10 (fun i q=>if i<j then syc s f A C i q else zcB.getD q undef) N)):=B;have KB:Hid (Ab D D wr):=u;have f8:=u.size;have lG:=(A0 B G rfl).2;have HC:Hid (∀ q,q<6->wr.cell? (Q gP (j*6+q) I)=some (cel (brP s f j) (.slice (A j) (brP s f j).m (C j)) q)):=fun q hq=>(u.cell (p:=Q gP (j*6+q) I) lP).trans (HX j q hlt hq)
    obtain⟨pr,L,M,K,pb,O,pS,HP⟩:∃ r k n i b m S,Hid (brP s f j=⟨r,k,n,i,b,m,S⟩):=⟨_,_,_,_,_,_,_,rfl⟩;obtain rfl:R=pr:=by have:=a8 j;rw[HP.out] at this;exact this.symm
    have x0:=HC 0 (by omega);have x1:=HC 1 (by omega);have x2:=HC 2 (by omega);have x3:=HC 3 (by omega);have x4:=HC 4 (by omega);have x5:=HC 5 (by omega);rw[HP.out] at x0 x1 x2 x3 x4 x5;simp only[cel,Cp] at x0 x1 x2 x3 x4 x5;have HE:Hid ((syC (brS s f j) (.slice (A j) (brP s f j).m (C j))).toList=[Ao Ar 0,Ao Ar (-1),Ao Ar (j:Int),Ag R,Ag R,Ao Ar L,Ao Ar M,Ao Ar K,Ag pb,.slice (A j) O (C j)]):=by
     show _=_;unfold brS;rw[HP.out]
    obtain⟨V,HV⟩:=nmH wr.1.size;obtain⟨wv,a6⟩:=nmH (wr.alloc (.cells (pcC R L M K pb (.slice (A j) O (C j))) 29));have RV:=jZ a6 HV;have bv:=bl1 a6;have lV:V<wv:=RV.lt;have b2:Hid (wv.ownsRow D 31 10 (.slice G N N) N (cL 10 (fun i q=>if i<j then syc s f A C i q else zcB.getD q undef) N)):=jE B bv;have e1:Hid (Ab D D wv):=jA u bv;have e9:Hid (V≠G):=by have:=HV.out;show V≠G;omega
    have KS:Hid (∀ W,Row W V 29 (pcC R L M K pb (.slice (A j) O (C j)))->W.cell? V=some (Ag R)/\W.cell? (Q V 1 I)=some (Ao Ar L)/\W.cell? (Q V 2 I)=some (Ao Ar M)/\W.cell? (Q V 3 I)=some (Ao Ar K)/\W.cell? (Q V 4 I)=some (Ag pb)/\W.cell? (Q V 5 I)=some (.slice (A j) O (C j))):=fun W H=>⟨H.cell 0,H.cell 1,H.cell 2,H.cell 3,H.cell 4,H.cell 5⟩
    have e4:Row wv.drew V 29 (pcC R L M K pb (.slice (A j) O (C j))):=RV.drew;have a2:Hid (∀ W,Ab wv wv W->W.there G (j*10) 10/\W.ownsRow D 31 10 (.slice G N N) N (cL 10 (fun i q=>if i<j then syc s f A C i q else zcB.getD q undef) N)/\Row W V 29 (pcC R L M K pb (.slice (A j) O (C j)))/\Ab D D W):=fun W H=>by
     have o:=jE b2 H;refine⟨fun q hq=>⟨?_,B0 o _⟩,o,RV.below H lV,jA e1 H⟩;rw[Br o _ (qM hlt hq),jU _ _ _ _ _ hlt hq];rfl
    have a0:Hid (∀ W,Ab wv wv W->W.cell? (Q G (j*10) I)=some (zcB.getD 0 undef)/\(∀ q,q<10->W.cell? (Q G (j*10+q) I)=some (zcB.getD q undef))/\W.frozen? (Q G (j*10) I)=Av/\∀ q,W.frozen? (Q G (j*10+q) I)=Av):=fun W H=>by
     have o:=jE b2 H;have k:∀ q,q<10->W.cell? (Q G (j*10+q) I)=some (zcB.getD q undef):=fun q hq=>by
      rw[Br o _ (qM hlt hq),jU _ _ _ _ _ hlt hq];simp
     exact⟨k 0 (by omega),k,B0 o _,fun q=>B0 o _⟩
    clear B u HC bv;go_wp2_with fail
    rw[<-a6.out,<-HV.out];go_region_held3 (fun w'=>w'.cell? (Q V 0 I)=some (Ag R)/\w'.cell? (Q V 1 I)=some (Ao Ar L)/\w'.cell? (Q V 2 I)=some (Ao Ar M)/\w'.cell? (Q V 3 I)=some (Ao Ar K)/\w'.cell? (Q V 4 I)=some (Ag pb)/\w'.cell? (Q V 5 I)=some (.slice (A j) O (C j))) (exact KS.out _ (by with_reducible assumption)) (((go_at_call 120;refine Ax (b3.out _) ?_;rintro e w7 ⟨rfl,a9⟩;have b7:=jC a9;clear a9 e4;have b4:=(a2.out _ b7).2.2.1;have d0:=(a0.out _ b7).1;have tc:=(a0.out _ b7).2.1;have c7:=(a0.out _ b7).2.2.1;have tf:=(a0.out _ b7).2.2.2;have e5:Row ((((((((((w7.setCell (Q G (j*10) I) ()).setCell (Q G (j*10+1) I) (-1:Int)).setCell (Q G (j*10+2) I) (j:Int)).setCell (Q G (j*10+3) I) R).setCell (Q G (j*10+4) I) R).setCell (Q G (j*10+5) I) L).setCell (Q G (j*10+6) I) M).setCell (Q G (j*10+7) I) K).setCell (Q G (j*10+8) I) pb).setCell (Q G (j*10+9) I) (.slice (A j) O (C j))) V 29 (pcC R L M K pb (.slice (A j) O (C j))):=(jG G [(),(-1:Int),(j:Int),R,R,L,M,K,pb,.slice (A j) O (C j)] (j*10) w7 V e9.out).trans b4)))
    all_goals
     have HO:Hid ((w7.setCells G (j*10) [(),(-1:Int),(j:Int),R,R,L,M,K,pb,.slice (A j) O (C j)]).ownsRow D 31 10 (.slice G N N) N (cL 10 (fun i q=>if i<j+1 then syc s f A C i q else zcB.getD q undef) N)):=by
      have h1:=qJ hlt [(),(-1:Int),(j:Int),R,R,L,M,K,pb,.slice (A j) O (C j)] 0 w7 _ rfl (a2 _ b7).2.1;rw[Cp] at h1;have e:cL 10 (fun i q=>if i<j+1 then syc s f A C i q else zcB.getD q undef) N=cL 10 (fun i' q'=>if i'=j/\0<=q' then ([(),(-1:Int),(j:Int),R,R,L,M,K,pb,.slice (A j) O (C j)]:List Aj).getD (q' - 0) undef else if i'<j then syc s f A C i' q' else zcB.getD q' undef) N:=vZ fun i q _ _=>by
       by_cases ei:i=j
       .subst ei;rw[A6 (show i<i+1 by omega),A6 ⟨rfl,Bi _⟩,<-HE.out];rfl
       .by_cases e2:i<j
        .rw[A6 (by omega),A5 (fun h=>ei h.1),A6 e2]
        .rw[A5 (by omega),A5 (fun h=>ei h.1),A5 e2]
      show World.ownsRow _ _ _ _ _ _ _;rw[e];exact h1
     have KBn:Hid (Ab D D (w7.setCells G (j*10) [(),(-1:Int),(j:Int),R,R,L,M,K,pb,.slice (A j) O (C j)])):=jR (a2 _ b7).2.2.2 e3 _ _;clear e5 b4 b7 a2 a0 KS d0 tc c7 tf x0 x1 x2 x3 x4 x5;go_wp2
     go_roundw
     case rel=>exact⟨j+1,by omega,by go_num,HO.out,KBn.out⟩
     case measure=>simp[intOf];omega
   .obtain rfl:j=N:=by omega
    have y0:=(u.cell (p:=gP) lP).trans (HX 0 0 b9 (by omega));simp only[cel] at y0;rw[a8.out 0] at y0;have hO:wr.ownsRow D 31 10 (.slice G j j) j (cL 10 (syc s f A C) j):=by
     have e:cL 10 (fun i q=>if i<j then syc s f A C i q else zcB.getD q undef) j=cL 10 (syc s f A C) j:=vZ (fun i q J _=>A6 J);rw[<-e];exact B
    have f1:=(A0 hO G rfl).2;have c9:=b0.size;have KF:Hid (∀ W,Ab wr.1.size wr W->Ow W w (qI j (brS s f)) (.slice G j j) (rng w W.1.size)):=fun W H=>by
     have f5:=H.size;have f6:=u.size;refine jQb (A:=A) (C:=C) (jY (jE hO H) c9) (fun i J=>jI.below (jI.below (a3.2.1 i J) u) H) a3.2.2.1 (fun i x J e=>?_) ⟨by omega,by omega⟩ (fun i x J e=>?_)
     .have ho:=a3.2.1 i J;rw[e] at ho;have:=(A0 ho x.block rfl).2
      omega
     .have ho:=a3.2.1 i J;rw[e] at ho;have:=A0 ho x.block rfl
      exact⟨this.1,by omega⟩
    have b6:Hid (Ab w w wr):=jA b0 u;clear B u hO;go_wp2_with fail
    refine CM (b3 _) fun w8 b8=>?_
    have c0:Hid _:=KF w8 b8;have e0:Hid (Ab w w w8):=jA b6 b8;clear b8 y0;go_wp2
    go_ret3
    exact⟨_,_,rfl,c0,e0⟩
def jIu (root:BA) (id f:Int) (r:BA) (k n i:Int):Prop:=r=root/\k=f+1/\n=3*f+1/\i=id
instance (root:BA) (id f:Int) (r:BA) (k n i:Int):Decidable (jIu root id f r k n i):=by unfold jIu;infer_instance
noncomputable def vU (root:BA) (id f:Int) (r:BA) (k n i:Int) (b:BA) (m:Nat) (S:Nat->BA):Bool:=if jIu root id f r k n i then okP r k n i b m S else Av
theorem xA {a0:BA} {id f:Int} {r:BA} {k n i:Int} {b:BA} {m:Nat} {S:Nat->BA} (h:¬ jIu a0 id f r k n i):vU a0 id f r k n i b m S=Av:=A5 h
theorem jDi {a0:BA} {id f:Int} {r:BA} {k n i:Int} {b:BA} {m:Nat} {S:Nat->BA} (h:jIu a0 id f r k n i):vU a0 id f r k n i b m S=okP r k n i b m S:=A6 h
theorem jDv (c0:BA) (id f:Int) (r:BA) (k n i:Int) (b:BA) (a:OA) (m cap:Nat) (S:Nat->BA) (w:Ad) (h:jL w a m S) (hf:1<=f/\f<=3) (hm:m<=1048576) (hL:∀ i,i<m->(S i).size<=Au):CB 51 #[pcV r k n i b (V a m cap),c0,id,f] w (vU c0 id f r k n i b m S):=by
 have KA:H (∀ W,CS 50 #[f] W (3*f+1:Int)):=fun W=>vR f W hf
 obtain⟨x,HX⟩:∃ x:Int,H (3*f+1=x):=⟨_,rfl⟩;rw[HX.out] at KA;obtain⟨y,HY⟩:∃ y:Int,H (f+1=y):=⟨_,rfl⟩;have ey:IntKind.i64.wrap (f+1)=y:=by have:=HY.out;rw[A8];omega
 have e0:Ab w w (w.alloc (J (pcC r k n i b (V a m cap)) 29)):=(Az _ _).alloc (Ay _) _;have d0:=hd e0;obtain⟨w0,a0⟩:=nmH (w.alloc (J (pcC r k n i b (V a m cap)) 29));obtain⟨B,HB⟩:=nmH w.1.size;have HR:=jZ a0 HB;have KP:H (∀ W,Ab w0 w0 W->CB 114 #[pcV r k n i b (V a m cap)] W (okP r k n i b m S)):=fun W hW=>jDx r k n i b a m cap S W ((h.below e0).below (by rw[<-a0.out];exact hW)) hm hL
 rw[<-a0.out] at d0;obtain⟨q0,q1,q2,q3,q4,q5⟩:=HR.c6 0 1 2 3 4 5;have lB:=HR.lt;simp at q0 q1 q2 q3 q4 q5;clear h e0 hf hL hm;by_cases c1:r=c0
 case neg=>
  rw[xA (fun h=>c1 h.1)];have f0:=jEl c1;go_enter func51,ntmps51
  go_wp2_with fail
  rw[<-a0.out,<-HB.out];go_quiet (fail)
  go_wp2
  go_ret
  exact⟨rfl,Cz d0 _⟩
 have f0:=vD c0;by_cases c2:k=y
 case neg=>
  rw[xA (fun h=>c2 (h.2.1.trans HY.out))];have g0:(k==y)=Av:=by simp[c2]
  subst c1;go_enter func51,ntmps51
  go_wp2_with fail
  rw[<-a0.out,<-HB.out];go_quiet (fail)
  go_wp2
  go_ret
  exact⟨rfl,Cz d0 _⟩
 have g0:(k==y)=Aw:=by simp[c2]
 by_cases c3:n=x
 case neg=>
  rw[xA (fun h=>c3 (h.2.2.1.trans HX.out))];have h0:(n==x)=Av:=by simp[c3]
  subst c1;clear c2;go_enter func51,ntmps51
  go_wp2_with fail
  rw[<-a0.out,<-HB.out];go_quiet ((go_at_call 50;exact Ce (KA _)))
  go_wp2
  go_ret
  exact⟨rfl,Cz d0 _⟩
 have h0:(n==x)=Aw:=by simp[c3]
 by_cases c4:i=id
 case neg=>
  rw[xA (fun h=>c4 h.2.2.2)];have i0:(i==id)=Av:=by simp[c4]
  subst c1;clear c2 c3;go_enter func51,ntmps51
  go_wp2_with fail
  rw[<-a0.out,<-HB.out];go_quiet ((go_at_call 50;exact Ce (KA _)))
  go_wp2
  go_ret
  exact⟨rfl,Cz d0 _⟩
 have i0:(i==id)=Aw:=by simp[c4]
 rw[jDi ⟨c1,c2.trans HY.out.symm,c3.trans HX.out.symm,c4⟩];subst c1;clear c2 c3 c4;go_enter func51,ntmps51
 go_wp2_with fail
 rw[<-a0.out,<-HB.out];go_region_held3 (fun w'=>w'.cell? (Q B 0 I)=M (Ag r)/\w'.cell? (Q B 1 I)=M (Ao Ar k)/\w'.cell? (Q B 2 I)=M (Ao Ar n)/\w'.cell? (Q B 3 I)=M (Ao Ar i)/\w'.cell? (Q B 4 I)=M (Ag b)/\w'.cell? (Q B 5 I)=M (V a m cap)) (go_keep) ((first|(go_at_call 50;refine Ax (KA _) ?_;rintro e w8 ⟨rfl,rfl⟩)|(go_at_call 114;refine Ax (KP _ (Cz (Az _ _) _)) ?_;rintro e w9 ⟨rfl,hb9'⟩;have b0:=jC hb9';clear hb9';have p0:=(b0.cell (p:=B) lB).trans q0;have p1:=(b0.cell (p:=Q B 1 I) lB).trans q1;have p2:=(b0.cell (p:=Q B 2 I) lB).trans q2;have p3:=(b0.cell (p:=Q B 3 I) lB).trans q3;have p4:=(b0.cell (p:=Q B 4 I) lB).trans q4;have p5:=(b0.cell (p:=Q B 5 I) lB).trans q5)))
 all_goals
  go_wp2
  go_ret
  exact⟨rfl,jA d0 b0⟩
structure Nd where
 i:Int
 f:Int
 n:Nat
 S:Nat->Sl
def ndD (d:Nd):Nat->Dt
 | 0=>.val (Ao Ar d.i)
 | 1=>.val (Ao Ar d.f)
 | _=>qH d.n d.S
def qR (m:Nat) (N:Nat->Nd):Dt:=.lst 26 3 m fun i=>ndD (N i)
structure NdB (d:Nd):Prop where
 n:d.n<=Au
 s:∀ i,i<d.n->SlB (d.S i)
structure NdS (d:Nd):Prop where
 n:d.n<=1048576
 s:∀ i,i<d.n->SlS (d.S i)
theorem zJ {w:Ad} {m:Nat} {N:Nat->Nd} {a:OA} {cap:Nat} (h:Rd w (qR m N) (V a m cap)) {c:Nat} (hc:c<m):∃ (b off:Nat) (an:OA) (cn:Nat),a=M (Q b off I)/\(w.cell? (Q b (off+c*3) I)=M (Ao Ar (N c).i)/\w.cell? (Q b (off+c*3+1) I)=M (Ao Ar (N c).f)/\w.cell? (Q b (off+c*3+2) I)=M (V an (N c).n cn))/\w.rangeAt b (off+c*3) [Ao Ar (N c).i,Ao Ar (N c).f,V an (N c).n cn]/\Rd w (qH (N c).n (N c).S) (V an (N c).n cn):=by
 obtain⟨b,off,y,ea,hy,hr⟩:=h.row hc;have r2:=hr 2 (by omega);obtain⟨an,cn,e2⟩:=r2.shape;rw[e2] at r2;have g0:=hr 0 (by omega);have g1:=hr 1 (by omega);simp only[Rd,ndD] at g0 g1;have c0:=hy 0 (by omega);have c1:=hy 1 (by omega);have c2:=hy 2 (by omega);rw[g0,<-Ef] at c0;rw[g1,<-Ef] at c1;rw[e2,<-Ef] at c2;refine⟨b,off,an,cn,ea,⟨c0,c1,c2⟩,fun j v hv=>?_,r2⟩;have hj:=(Ca.1 hv).1;match j,hj with
 | 0,_=>rw[<-hv];exact c0
 | 1,_=>rw[<-hv];exact c1
 | 2,_=>rw[<-hv];exact c2
def wtN (d:Nd):Nat:=wtL d.n d.S
def jIs (m:Nat) (N:Nat->Nd):Nat:=m+tot (fun i=>wtN (N i)) m
theorem Tryz.infoNdLw:(Tryz.prog.info? 190).map (·.size)=M 3:=by kernel_rfl
theorem jLn (a:OA) (n cap:Nat) (N:Nat->Nd) (l:Nat) (w:Ad) (h:Rd w (qR n N) (V a n cap)) (hl:l<=1048576) (hn:n<=Au) (hL:∀ i,i<n->NdB (N i)):CB 79 #[V a n cap,(l:Int)] w (szN l (jIs n N)):=by
 unfold Au at hn;by_cases h1:n<=l
 .obtain⟨d,hd⟩:∃ d,l-n=d:=⟨_,rfl⟩;have hw:IntKind.i64.wrap ((l:Int)-(n:Int))=(d:Int):=by rw[A8];omega
  have h0:¬ ((d:Int)<0):=by omega
  have KL:H (∀ i,i<n->NdB (N i)):=hL;have KH:H (Rd w (qR n N) (V a n cap)):=h;clear hL h;go_enter func79,ntmps79
  go_wp2
  go_loopw [1,5] (fun p i wr=>∃ c q:Nat,c<=n/\q<=1048576/\H (tot (fun i=>wtN (N i)) c+q=d)/\p=Ao Ar (q:Int)/\i=Ao Ar (c:Int)/\Ab w w wr) (fun _ i _=>n-(intOf i).toNat)
  case atStart=>exact⟨0,d,Bi _,by omega,by show 0+d=d;omega,rfl,rfl,Az _ _⟩
  case round=>
   obtain⟨c,q,hc,hq,HT,rfl,rfl,a0⟩:=hrel;clear hw h0;by_cases hlt:c<n
   .obtain⟨b1,f1,an,cn,rfl,_,f0,g0⟩:=zJ (KH.below a0) hlt;have i0:=jEc (fun i=>wtN (N i)) hlt;have k0:(c:Int)<(n:Int):=by omega
    have e0:=HT.out;obtain⟨lc,c0⟩:=nnH (wtN (N c));have d0:H (tot (fun i=>wtN (N i)) (c+1)=tot (fun i=>wtN (N i)) c+lc):=by rw[<-c0.out];rfl
    have b0:tot (fun i=>wtN (N i)) c+lc<=tot (fun i=>wtN (N i)) n:=by rw[<-c0.out];exact i0
    have KZ:H (CB 142 #[Ai #[Ao Ar (N c).i,Ao Ar (N c).f,V an (N c).n cn],(q:Int)] wr (szN q lc)):=by
     rw[<-c0.out];exact jNp (N c).i (N c).f an (N c).n cn (N c).S q wr g0 hq (KL c hlt).n (KL c hlt).s
    have R1:H (wr.rangeAt b1 (f1+c*3) [Ao Ar (N c).i,Ao Ar (N c).f,V an (N c).n cn]):=f0;have KB:H (Ab w w wr):=a0;clear i0 f0 g0 a0;by_cases h2:lc<=q
    .obtain⟨q',j0⟩:∃ q',q-lc=q':=⟨_,rfl⟩;have h3:¬ ((q':Int)<0):=by omega
     have HT2:H (tot (fun i=>wtN (N i)) (c+1)+q'=d):=by show _=_;rw[d0.out];omega
     have hq2:q'<=1048576:=by omega
     rw[qE h2,j0] at KZ;clear HT e0 b0 d0;go_wp2_with (refine Bv rfl 190 _ rfl b1 (f1+c*3) rfl [Ao Ar (N c).i,Ao Ar (N c).f,V an (N c).n cn] _ ?_ underlying190 rfl Tryz.infoNdLw ?_;exact R1)
     refine CM KZ.out fun w1 bb=>?_
     have KB1:H (Ab w w w1):=jA KB bb;clear bb KZ R1;go_wp2
     go_roundw
     case rel=>exact⟨c+1,q',by omega,hq2,HT2,rfl,by go_num,KB1.out⟩
     case measure=>simp[intOf] <;> omega
    .have HR:H (szN l (jIs n N) = -1):=qD (by unfold jIs;omega);rw[qD h2] at KZ;clear HT e0 b0 d0;go_wp2_with (refine Bv rfl 190 _ rfl b1 (f1+c*3) rfl [Ao Ar (N c).i,Ao Ar (N c).f,V an (N c).n cn] _ ?_ underlying190 rfl Tryz.infoNdLw ?_;exact R1)
     refine CM KZ.out fun w1 bb=>?_
     have KB1:H (Ab w w w1):=jA KB bb;clear bb KZ R1;go_wp2
     go_ret
     exact⟨jS HR.symm,KB1⟩
   .obtain rfl:c=n:=by omega
    have HR:H (szN l (jIs c N)=(q:Int)):=by
     have:=HT.out
     have e:l-(c+tot (fun i=>wtN (N i)) c)=q:=by omega
     exact(qE (by unfold jIs;omega)).trans (by unfold jIs;rw[e])
    clear KH;go_wp2
    go_ret
    exact⟨jS HR.symm,a0⟩
 .have h0:(l:Int)-(n:Int)<0:=by omega
  have hw:IntKind.i64.wrap ((l:Int)-(n:Int))=(l:Int)-(n:Int):=by rw[A8];omega
  have HR:H (szN l (jIs n N) = -1):=qD (by unfold jIs;omega);clear h hL;go_enter func79,ntmps79
  go_wp2
  go_ret
  exact⟨jS HR.symm,Az _ _⟩
theorem jHg (a b:OA) (n ca cb:Nat) (N:Nat->Nd) (w:Ad) (ha:Rd w (qR n N) (V a n ca)) (hb:Rd w (qR n N) (V b n cb)) (hn:n<=1048576) (hs:∀ i,i<n->NdS (N i)):CB 87 #[V a n ca,V b n cb] w Aw:=by
 have KH:H (Rd w (qR n N) (V a n ca)/\Rd w (qR n N) (V b n cb)):=⟨ha,hb⟩;have HS:H (∀ i,i<n->NdS (N i)):=hs;have h0:((n:Int) !=(n:Int))=Av:=by simp
 go_enter func87,ntmps87
 go_wp2
 go_loopw [5] (fun vi wr=>∃ c:Nat,c<=n/\vi=Ao Ar (c:Int)/\Ab w w wr) (fun vi _=>n-(intOf vi).toNat)
 case atStart=>exact⟨0,Bi _,rfl,Az _ _⟩
 case round=>
  obtain⟨c,f0,rfl,a0⟩:=hrel;by_cases hlt:c<n
  .have g0:(c:Int)<(n:Int):=by omega
   obtain⟨b1,f1,an,cn,rfl,⟨x0,x1,x2⟩,_,d0⟩:=zJ (KH.1.below a0) hlt;obtain⟨b2,f2,am,cm,rfl,⟨y0,y1,y2⟩,_,e0⟩:=zJ (KH.2.below a0) hlt;have c0:=HS c hlt;have KT:H (∀ W,Ab wr.1.size wr W->CB 146 #[Ai #[Ao Ar (N c).i,Ao Ar (N c).f,V an (N c).n cn],Ai #[Ao Ar (N c).i,Ao Ar (N c).f,V am (N c).n cm]] W Aw):=fun W hW=>jJa (N c).i (N c).f an am (N c).n cn cm (N c).S W (d0.below hW) (e0.below hW) c0.n c0.s
   have KS:H (∀ W,Ab wr.1.size wr W->W.cell? (Q b1 (f1+c*3) I)=M (Ao Ar (N c).i)/\W.cell? (Q b1 (f1+c*3+1) I)=M (Ao Ar (N c).f)/\W.cell? (Q b1 (f1+c*3+2) I)=M (V an (N c).n cn)/\W.cell? (Q b2 (f2+c*3) I)=M (Ao Ar (N c).i)/\W.cell? (Q b2 (f2+c*3+1) I)=M (Ao Ar (N c).f)/\W.cell? (Q b2 (f2+c*3+2) I)=M (V am (N c).n cm)):=fun W hW=>⟨(hW.cell (A7 x0)).trans x0,(hW.cell (A7 x1)).trans x1,(hW.cell (A7 x2)).trans x2,(hW.cell (A7 y0)).trans y0,(hW.cell (A7 y1)).trans y1,(hW.cell (A7 y2)).trans y2⟩
   have KB:=hd a0;have hdr:=jD wr;go_wp2_with fail
   go_region_held3 (fun w'=>w'.cell? (Q b1 (f1+c*3) I)=M (Ao Ar (N c).i)/\w'.cell? (Q b1 (f1+c*3+1) I)=M (Ao Ar (N c).f)/\w'.cell? (Q b1 (f1+c*3+2) I)=M (V an (N c).n cn)/\w'.cell? (Q b2 (f2+c*3) I)=M (Ao Ar (N c).i)/\w'.cell? (Q b2 (f2+c*3+1) I)=M (Ao Ar (N c).f)/\w'.cell? (Q b2 (f2+c*3+2) I)=M (V am (N c).n cm)) (exact KS _ (by assumption)) ((go_at_call 146;refine Ax (KT _ hdr) ?_;rintro e w7 ⟨rfl,b0⟩;have b7:=jC b0;clear b0))
   all_goals
    have HB7:=hd (jA KB b7);go_wp2
    go_roundw
    case rel=>exact⟨c+1,by omega,by go_num,HB7.out⟩
    case measure=>simp[intOf];omega
  .go_wp2
   go_ret
   exact⟨rfl,a0⟩
def ndN:Nd:=⟨0,0,0,fun _=>slZ⟩
def zcN:List Aj:=[Ao Ar 0,Ao Ar 0,V I 0 0]
theorem Tryz.infoNdZ2:(Tryz.prog.info? 26).map (fun i=>(i.zero,i.size,i.bytes))=M (M (Ai zcN.toArray),3,40):=by kernel_rfl
theorem jOp (w:Ad) (B q:Nat) (hq:q<3):Ow w B (ndD ndN q) (zcN.getD q O) (fun _=>False):=by
 match q,hq with
 | 0,_|1,_=>rfl
 | 2,_=>exact Ow.nil _ _ _ _ _ _
theorem jE4 {w:Ad} {B:Nat} {d:Nd} {v:Aj} {F:Nat->Prop} (h:Ow w B (qH d.n d.S) v F) (q:Nat) (hq:q<3):Ow w B (ndD d q) ([Ao Ar d.i,d.f,v].getD q O) (fun x=>q=2/\F x):=by
 match q,hq with
 | 0,_|1,_=>rfl
 | 2,_=>exact Ow.mono h fun g hg=>⟨rfl,hg⟩
theorem jLu (a:OA) (n cap:Nat) (N:Nat->Nd) (w:Ad) (h:Rd w (qR n N) (V a n cap)) (hn:n<=1048576) (hs:∀ i,i<n->NdS (N i)):Ak prog 83 #[V a n cap] w fun e w'=>e=Ae (V (Q w 0 I) n n)/\Ow w' w (qR n N) (V (Q w 0 I) n n) (rng w w'.1.size)/\Ab w w w':=by
 obtain⟨i0,hi,k0,m0,n0⟩:=Cg Tryz.infoNdZ2;have KH:H (Rd w (qR n N) (V a n cap)):=h;have HS:H (∀ i,i<n->NdS (N i)):=hs;clear h hs;go_enter func83,ntmps83
 go_wp2_with (at_make;refine Cv _ rfl _ _ 46 rfl w 26 i0 (Ai zcN.toArray) 3 underlying46 hi k0 m0 Ar Ar _ _ n rfl rfl rfl rfl (by rw[n0];omega) (by unfold Au;omega) (Ay _) ?_;intro w1 a0 c0)
 have hb1:Ab w w w1:=(Az _ _).grown c0 (Ay _) (by simp);obtain⟨g,HG⟩:=nmH w.1.size;have ho1:Ow w1 w (.lst 26 3 n (fun i=>if i<0 then ndD (N i) else ndD ndN)) (V g n n) (rng w w1.1.size):=by
  have e:(madeCells (Ai zcN.toArray).cells (n*3)).toList=cL 3 (fun _ q=>zcN.getD q O) n:=xH (zs:=zcN) (by simp[zcN]);rw[e] at a0;rw[HG.out];have:=JZ (F:=rng w w1.1.size) a0 (fun q hq=>jOp w1 w q hq) ⟨Ay _,(A0 a0 _ rfl).2⟩
  exact this.congr (fun i q _ _=>by simp)
 have gB:g=w.1.size:=HG.out;rw[<-HG.out];have HB:H (w.1.size<=g):=by show _<=_;omega
 clear a0 c0 gB;go_loopw [4] (fun i wr=>∃ k:Nat,k<=n/\i=Ao Ar k/\Ow wr w (.lst 26 3 n (fun i=>if i<k then ndD (N i) else ndD ndN)) (V g n n) (rng w wr.1.size)/\Ab w w wr) (fun i _=>n-(intOf i).toNat)
 case atStart=>exact⟨0,Bi _,rfl,ho1,hb1⟩
 case round=>
  obtain⟨c,hc,rfl,a0,b0⟩:=hrel;clear ho1 hb1;by_cases hlt:c<n
  .have o0:(c:Int)<(n:Int):=by omega
   obtain⟨b1,f1,an,cn,rfl,_,e0,g0⟩:=zJ (KH.below b0) hlt;have KT:H _:=jNv (N c).i (N c).f an (N c).n cn (N c).S wr g0 (HS c hlt).n (HS c hlt).s;have R1:H (wr.rangeAt b1 (f1+c*3) [Ao Ar (N c).i,Ao Ar (N c).f,V an (N c).n cn]):=e0;have KO:H (Ow wr w (.lst 26 3 n (fun i=>if i<c then ndD (N i) else ndD ndN)) (V g n n) (rng w wr.1.size)/\Ab w w wr):=⟨a0,b0⟩;have lg:g<wr.1.size:=by
    obtain⟨a',f0,c',G',e',d0,_⟩:=a0;cases e';exact(A0 d0 g rfl).2
   clear e0 g0 b0 a0;go_wp2_with (refine Bv rfl 190 _ rfl b1 (f1+c*3) rfl [Ao Ar (N c).i,Ao Ar (N c).f,V an (N c).n cn] _ ?_ underlying190 rfl Tryz.infoNdLw ?_;exact R1)
   refine Ax KT.out ?_;rintro e w2 ⟨gs,rfl,o2,b2⟩;have O2:=KO.1.below b2;have TH:H (w2.there g (c*3) 3):=by
    obtain⟨a',f0,c',G',e',d0,_⟩:=O2;cases e';intro j hj;refine⟨?_,B0 d0 _⟩;rw[Br d0 _ (qM hlt hj),jU _ _ _ _ _ hlt hj];rfl
   have h0:=KO.2.size;have HO:H (Ow (w2.setCells g (c*3) [Ao Ar (N c).i,Ao Ar (N c).f,V gs (N c).n (N c).n]) w (.lst 26 3 n (fun i=>if i<c+1 then ndD (N i) else ndD ndN)) (V g n n) (rng w (w2.setCells g (c*3) [Ao Ar (N c).i,Ao Ar (N c).f,V gs (N c).n (N c).n]).1.size)):=by
    rw[jQ];refine Ow.congr (Ow.store (d:=ndD (N c)) O2 hlt rfl (fun q hq=>jE4 (o2.base h0) q hq) ?_ ?_ ?_ ?_) ?_
    .intro q x _ hx hf;have h2:=hf.2;have h3:=hx.2.1;omega
    .intro q q' x _ _ hx j0;exact hx.1.trans j0.1.symm
    .intro x hx;have:=b2.size
     exact⟨hx.1,by have:=hx.2;omega⟩
    .intro q x _ hx;have h3:=hx.2;exact⟨by have:=h3.1;omega,h3.2⟩
    .intro i q _ _;by_cases e:i=c
     .subst e;simp
     .by_cases e2:i<c
      .simp[e,e2,show i<c+1 by omega]
      .simp[e,e2,show ¬ i<c+1 by omega]
   have HBe:H (Ab w w (w2.setCells g (c*3) [Ao Ar (N c).i,Ao Ar (N c).f,V gs (N c).n (N c).n])):=jR (jA KO.2 b2) HB _ _;clear O2 b2 o2 KT R1 KO;go_wp2_with (refine C7 rfl 26 _ _ rfl g (c*3) ([Ao Ar (N c).i,Ao Ar (N c).f,V gs (N c).n (N c).n]).toArray rfl rfl ?_ Tryz.infoNd (by simp[Aq]) ?_;exact TH)
   go_roundw
   case rel=>exact⟨c+1,by omega,by go_num,HO.out,HBe.out⟩
   case measure=>simp[intOf];omega
  .obtain rfl:c=n:=by omega
   have HO:H (Ow wr w (qR c N) (V g c c) (rng w wr.1.size)):=a0.congr (fun i q hi _=>by simp[hi]);clear a0;go_wp2
   go_ret
   exact⟨by rw[<-HG.out];rfl,by rw[<-HG.out];rw[HG.out];have:=HO.out;rw[HG.out] at this;exact this,b0⟩
theorem jBz (d0:BA) (id f:Int) (v:Aj) (r:BA) (k n i:Int) (b:BA) (a:OA) (m cap:Nat) (S:Nat->BA) (w:Ad) (h:jL w a m S) (hf:1<=f/\f<=3) (hm:m<=1048576) (hL:∀ i,i<m->(S i).size<=Au):CB 119 #[ndV id f v,pcV r k n i b (V a m cap),d0] w (vU d0 id f r k n i b m S):=by
 have KA:H (∀ W,CS 72 #[f] W (3*f+1:Int)):=fun W=>vH f W hf
 have KN:H (∀ W,CS 158 #[f] W (f+1:Int)):=fun W=>QW f W hf
 obtain⟨x,HX⟩:∃ x:Int,H (3*f+1=x):=⟨_,rfl⟩;rw[HX.out] at KA;obtain⟨y,HY⟩:∃ y:Int,H (f+1=y):=⟨_,rfl⟩;rw[HY.out] at KN;obtain⟨A,HA⟩:=nmH w.1.size;obtain⟨wa,b0⟩:=nmH (w.alloc (J #[id,f,v] 26));have h0:=jZ b0 HA;have i0:=bl1 b0;obtain⟨B,HB⟩:=nmH wa.1.size;obtain⟨w0,c0⟩:=nmH (wa.alloc (J (pcC r k n i b (V a m cap)) 29));have g0:=bl1 c0;have HR:=jZ c0 HB;have e0:=hd (jA i0 g0);have f0:H (B=A+1):=by show _=_;rw[HB.out,b0.out,HA.out];simp
 have KP:H (∀ W,Ab w0 w0 W->CB 159 #[pcV r k n i b (V a m cap)] W (okP r k n i b m S)):=fun W hW=>jE5 r k n i b a m cap S W ((h.below e0).below hW) hm hL
 have RA:=h0.below g0 h0.lt;obtain⟨r0,r1,r2⟩:=RA.c3 0 1 2;have lA:=RA.lt;obtain⟨q0,q1,q2,q3,q4,q5⟩:=HR.c6 0 1 2 3 4 5;have lB:=HR.lt;simp at q0 q1 q2 q3 q4 q5 r0 r1 r2;clear h hf hL hm RA i0 g0;by_cases c1:r=d0
 case neg=>
  rw[xA (fun h=>c1 h.1)];have j0:=jEl c1;go_enter func119,ntmps119
  go_wp2_with fail
  rw[<-b0.out,<-c0.out,<-HA.out,<-f0.out];go_quiet ((first|(go_at_call 72;exact Ce (KA _))|(go_at_call 158;exact Ce (KN _))))
  go_wp2
  go_ret
  exact⟨rfl,Cz e0 _⟩
 have j0:=vD d0;by_cases c4:i=id
 case neg=>
  rw[xA (fun h=>c4 h.2.2.2)];have n0:(i==id)=Av:=by simp[c4]
  subst c1;go_enter func119,ntmps119
  go_wp2_with fail
  rw[<-b0.out,<-c0.out,<-HA.out,<-f0.out];go_quiet ((first|(go_at_call 72;exact Ce (KA _))|(go_at_call 158;exact Ce (KN _))))
  go_wp2
  go_ret
  exact⟨rfl,Cz e0 _⟩
 have n0:(i==id)=Aw:=by simp[c4]
 by_cases c2:k=y
 case neg=>
  rw[xA (fun h=>c2 (h.2.1.trans HY.out))];have k0:(k==y)=Av:=by simp[c2]
  subst c1;clear c4;go_enter func119,ntmps119
  go_wp2_with fail
  rw[<-b0.out,<-c0.out,<-HA.out,<-f0.out];go_quiet ((first|(go_at_call 72;exact Ce (KA _))|(go_at_call 158;exact Ce (KN _))))
  go_wp2
  go_ret
  exact⟨rfl,Cz e0 _⟩
 have k0:(k==y)=Aw:=by simp[c2]
 by_cases c3:n=x
 case neg=>
  rw[xA (fun h=>c3 (h.2.2.1.trans HX.out))];have m0:(n==x)=Av:=by simp[c3]
  subst c1;clear c4 c2;go_enter func119,ntmps119
  go_wp2_with fail
  rw[<-b0.out,<-c0.out,<-HA.out,<-f0.out];go_quiet ((first|(go_at_call 72;exact Ce (KA _))|(go_at_call 158;exact Ce (KN _))))
  go_wp2
  go_ret
  exact⟨rfl,Cz e0 _⟩
 have m0:(n==x)=Aw:=by simp[c3]
 rw[jDi ⟨c1,c2.trans HY.out.symm,c3.trans HX.out.symm,c4⟩];subst c1;clear c2 c3 c4;go_enter func119,ntmps119
 go_wp2_with fail
 rw[<-b0.out,<-c0.out,<-HA.out,<-f0.out];go_region_held3 (fun w'=>w'.cell? (Q A 0 I)=M (Ao Ar id)/\w'.cell? (Q A 1 I)=M (Ao Ar f)/\w'.cell? (Q B 0 I)=M (Ag r)/\w'.cell? (Q B 1 I)=M (Ao Ar k)/\w'.cell? (Q B 2 I)=M (Ao Ar n)/\w'.cell? (Q B 3 I)=M (Ao Ar i)/\w'.cell? (Q B 4 I)=M (Ag b)/\w'.cell? (Q B 5 I)=M (V a m cap)) (go_keep) ((first|(go_at_call 72;refine Ax (KA _) ?_;rintro e w8 ⟨rfl,rfl⟩)|(go_at_call 158;refine Ax (KN _) ?_;rintro e w8 ⟨rfl,rfl⟩)|(go_at_call 159;refine Ax (KP _ (Cz (Az _ _) _)) ?_;rintro e w9 ⟨rfl,hb9'⟩;have a0:=jC hb9';clear hb9';have x0:=(a0.cell (p:=A) lA).trans r0;have y0:=(a0.cell (p:=Q A 1 I) lA).trans r1;have o0:=(a0.cell (p:=B) lB).trans q0;have p0:=(a0.cell (p:=Q B 1 I) lB).trans q1;have s0:=(a0.cell (p:=Q B 2 I) lB).trans q2;have t0:=(a0.cell (p:=Q B 3 I) lB).trans q3;have u0:=(a0.cell (p:=Q B 4 I) lB).trans q4;have v0:=(a0.cell (p:=Q B 5 I) lB).trans q5)))
 all_goals
  go_wp2
  go_ret
  exact⟨rfl,jA e0 a0⟩
structure SyB (s:Sy):Prop where
 r:s.r.size<=Au
 pr:s.p.r.size<=Au
 pb:s.p.b.size<=Au
 m:s.p.m<=Au
 tx:∀ i,i<s.p.m->(s.p.S i).size<=Au
def wtY (s:Sy):Nat:=s.r.size+wtP s.p
def jG8 (n:Nat) (N:Nat->Sy):Nat:=n+tot (fun i=>wtY (N i)) n
theorem Tryz.infoSyL:(Tryz.prog.info? 66).map (·.size)=M 10:=by kernel_rfl
theorem Tryz.infoSy2:(Tryz.prog.info? 31).map (·.size)=M 10:=by kernel_rfl
theorem zZ {w:Ad} {n:Nat} {N:Nat->Sy} {a:OA} {cap:Nat} (h:Rd w (qI n N) (V a n cap)) {c:Nat} (hc:c<n):∃ (b off:Nat) (an:OA) (cn:Nat),a=M (Q b off I)/\w.rangeAt b (off+c*10) [Ao Ar (N c).k,Ao Ar (N c).f,Ao Ar (N c).t,Ag (N c).r,Ag (N c).p.r,Ao Ar (N c).p.k,Ao Ar (N c).p.n,Ao Ar (N c).p.i,Ag (N c).p.b,V an (N c).p.m cn]/\jL w an (N c).p.m (N c).p.S:=by
 obtain⟨b,off,y,an,cn,ea,hy,e,ht⟩:=jCa h hc;obtain⟨_,x⟩:=zK (sz:=9) w (Az _ _) hy;have R:=jQg x;have h':=D8 (fun v=>match v with|Ai a=>a.toList|_=>[]) e;have a0:[y 0,y 1,y 2,y 3,y 4,y 5,y 6,y 7,y 8,y 9]=[Ao Ar (N c).k,Ao Ar (N c).f,Ao Ar (N c).t,Ag (N c).r,Ag (N c).p.r,Ao Ar (N c).p.k,Ao Ar (N c).p.n,Ao Ar (N c).p.i,Ag (N c).p.b,V an (N c).p.m cn]:=h';rw[a0] at R;exact⟨b,off,an,cn,ea,R,ht⟩
theorem jG0 (s:Sy) (an:OA) (cn l:Nat) (w:Ad) (h:jL w an s.p.m s.p.S) (hB:SyB s) (hl:l<=1048576):CB 82 #[syV s (V an s.p.m cn),(l:Int)] w (szN l (wtY s)):=by
 obtain⟨A,HA⟩:=nmH w.1.size;obtain⟨w0,a0⟩:=nmH (w.alloc (J (syC s (V an s.p.m cn)) 66));have c0:=bl1 a0;have f0:H (Ab w w w0):=c0;have KP:H (∀ l1:Nat,l1<=1048576->CB 143 #[pcV s.p.r s.p.k s.p.n s.p.i s.p.b (V an s.p.m cn),(l1:Int)] w0 (szN l1 (wtP s.p))):=fun l1 h1=>by
  rw[<-jLp];exact jGz s.p.r s.p.k s.p.n s.p.i s.p.b an s.p.m cn s.p.S l1 w0 (h.below c0) h1 hB.m hB.tx hB.pr hB.pb
 have e0:H (wtY s=s.r.size+wtP s.p):=rfl;rw[e0.out];obtain⟨x,HX⟩:=nnH s.r.size;obtain⟨wp,HP⟩:=nnH (wtP s.p);have hx:=hB.r;unfold Au at hx;rw[HX.out] at hx;rw[HX.out,HP.out];rw[HP.out] at KP;have k0:(s.r.size:Int)=(x:Int):=by rw[HX.out]
 clear h hB c0 e0;by_cases h1:x<=l
 case neg=>
  rw[qD (by omega)];have e1:IntKind.i64.wrap ((l:Int)-(x:Int))=(l:Int)-(x:Int):=by rw[A8];omega
  have h0:(l:Int)-(x:Int)<0:=by omega
  go_enter func82,ntmps82
  go_wp2
  rw[<-a0.out];go_ret
  exact⟨rfl,f0⟩
 obtain⟨l1,i0⟩:=nnH (l-x);have g0:=i0.out;have e1:IntKind.i64.wrap ((l:Int)-(x:Int))=(l1:Int):=by rw[A8];omega
 have n1:¬ ((l1:Int)<0):=by omega
 have b0:H _:=KP l1 (by omega);by_cases h2:wp<=l1
 obtain⟨l2,d0⟩:=nnH (l1-wp);have j0:=d0.out;have n2:¬ ((l2:Int)<0):=by omega
 have HR:H (szN l (x+wp)=(l2:Int)):=by show _=_;rw[qE (by omega)];congr 1;omega
 rw[qE h2,d0.out] at b0;rw[HR.out];clear h1 h2 g0 j0 KP;rotate_left;have HR:H (szN l (x+wp) = -1):=qD (by omega);rw[qD h2] at b0;rw[HR.out];clear h1 h2 g0 KP;rotate_left;all_goals
  go_enter func82,ntmps82
  go_wp2_with fail
  rw[<-a0.out];refine CM b0.out fun w1 b1=>?_
  go_wp2
  go_ret
  exact⟨rfl,jA f0 b1⟩
theorem jLr (a:OA) (n cap:Nat) (N:Nat->Sy) (l:Nat) (w:Ad) (h:Rd w (qI n N) (V a n cap)) (hl:l<=1048576) (hn:n<=Au) (hL:∀ i,i<n->SyB (N i)):CB 81 #[V a n cap,(l:Int)] w (szN l (jG8 n N)):=by
 unfold Au at hn;by_cases h1:n<=l
 .obtain⟨d,hd⟩:∃ d,l-n=d:=⟨_,rfl⟩;have hw:IntKind.i64.wrap ((l:Int)-(n:Int))=(d:Int):=by rw[A8];omega
  have h0:¬ ((d:Int)<0):=by omega
  have KL:H (∀ i,i<n->SyB (N i)):=hL;have KH:H (Rd w (qI n N) (V a n cap)):=h;clear hL h;go_enter func81,ntmps81
  go_wp2
  go_loopw [1,5] (fun p i wr=>∃ c q:Nat,c<=n/\q<=1048576/\H (tot (fun i=>wtY (N i)) c+q=d)/\p=Ao Ar (q:Int)/\i=Ao Ar (c:Int)/\Ab w w wr) (fun _ i _=>n-(intOf i).toNat)
  case atStart=>exact⟨0,d,Bi _,by omega,by show 0+d=d;omega,rfl,rfl,Az _ _⟩
  case round=>
   obtain⟨c,q,hc,hq,HT,rfl,rfl,a0⟩:=hrel;clear hw h0;by_cases hlt:c<n
   .obtain⟨b1,f1,an,cn,rfl,f0,g0⟩:=zZ (KH.below a0) hlt;have i0:=jEc (fun i=>wtY (N i)) hlt;have k0:(c:Int)<(n:Int):=by omega
    have e0:=HT.out;obtain⟨lc,c0⟩:=nnH (wtY (N c));have d0:H (tot (fun i=>wtY (N i)) (c+1)=tot (fun i=>wtY (N i)) c+lc):=by rw[<-c0.out];rfl
    have b0:tot (fun i=>wtY (N i)) c+lc<=tot (fun i=>wtY (N i)) n:=by rw[<-c0.out];exact i0
    have KZ:H (CB 82 #[Ai #[Ao Ar (N c).k,Ao Ar (N c).f,Ao Ar (N c).t,Ag (N c).r,Ag (N c).p.r,Ao Ar (N c).p.k,Ao Ar (N c).p.n,Ao Ar (N c).p.i,Ag (N c).p.b,V an (N c).p.m cn],(q:Int)] wr (szN q lc)):=by
     rw[<-c0.out];exact jG0 (N c) an cn q wr g0 (KL c hlt) hq
    have R1:H (wr.rangeAt b1 (f1+c*10) [Ao Ar (N c).k,Ao Ar (N c).f,Ao Ar (N c).t,Ag (N c).r,Ag (N c).p.r,Ao Ar (N c).p.k,Ao Ar (N c).p.n,Ao Ar (N c).p.i,Ag (N c).p.b,V an (N c).p.m cn]):=f0;have KB:H (Ab w w wr):=a0;clear i0 f0 g0 a0;by_cases h2:lc<=q
    .obtain⟨q',j0⟩:∃ q',q-lc=q':=⟨_,rfl⟩;have h3:¬ ((q':Int)<0):=by omega
     have HT2:H (tot (fun i=>wtY (N i)) (c+1)+q'=d):=by show _=_;rw[d0.out];omega
     have hq2:q'<=1048576:=by omega
     rw[qE h2,j0] at KZ;clear HT e0 b0 d0;go_wp2_with (refine Bv rfl 66 _ rfl b1 (f1+c*10) rfl [Ao Ar (N c).k,Ao Ar (N c).f,Ao Ar (N c).t,Ag (N c).r,Ag (N c).p.r,Ao Ar (N c).p.k,Ao Ar (N c).p.n,Ao Ar (N c).p.i,Ag (N c).p.b,V an (N c).p.m cn] _ ?_ Ej rfl Tryz.infoSyL ?_;exact R1)
     refine CM KZ.out fun w1 bb=>?_
     have KB1:H (Ab w w w1):=jA KB bb;clear bb KZ R1;go_wp2
     go_roundw
     case rel=>exact⟨c+1,q',by omega,hq2,HT2,rfl,by go_num,KB1.out⟩
     case measure=>simp[intOf] <;> omega
    .have HR:H (szN l (jG8 n N) = -1):=qD (by unfold jG8;omega);rw[qD h2] at KZ;clear HT e0 b0 d0;go_wp2_with (refine Bv rfl 66 _ rfl b1 (f1+c*10) rfl [Ao Ar (N c).k,Ao Ar (N c).f,Ao Ar (N c).t,Ag (N c).r,Ag (N c).p.r,Ao Ar (N c).p.k,Ao Ar (N c).p.n,Ao Ar (N c).p.i,Ag (N c).p.b,V an (N c).p.m cn] _ ?_ Ej rfl Tryz.infoSyL ?_;exact R1)
     refine CM KZ.out fun w1 bb=>?_
     have KB1:H (Ab w w w1):=jA KB bb;clear bb KZ R1;go_wp2
     go_ret
     exact⟨jS HR.symm,KB1⟩
   .obtain rfl:c=n:=by omega
    have HR:H (szN l (jG8 c N)=(q:Int)):=by
     have:=HT.out
     have e:l-(c+tot (fun i=>wtY (N i)) c)=q:=by omega
     exact(qE (by unfold jG8;omega)).trans (by unfold jG8;rw[e])
    clear KH;go_wp2
    go_ret
    exact⟨jS HR.symm,a0⟩
 .have h0:(l:Int)-(n:Int)<0:=by omega
  have hw:IntKind.i64.wrap ((l:Int)-(n:Int))=(l:Int)-(n:Int):=by rw[A8];omega
  have HR:H (szN l (jG8 n N) = -1):=qD (by unfold jG8;omega);clear h hL;go_enter func81,ntmps81
  go_wp2
  go_ret
  exact⟨jS HR.symm,Az _ _⟩
theorem jG2 (s:Sy) (an:OA) (cn:Nat) (w:Ad) (h:jL w an s.p.m s.p.S) (hm:s.p.m<=1048576):Ak prog 86 #[syV s (.slice an s.p.m cn)] w fun e w'=>∃ g,e=Ae (syV s (.slice (Q g 0 I) s.p.m s.p.m))/\Ow w' w (txD s.p.m s.p.S) (.slice (Q g 0 I) s.p.m s.p.m) (fun x=>x=g)/\w.1.size<=g/\g<w'.1.size/\Ab w w w':=by
 obtain⟨A,HA⟩:=nmH w.1.size;obtain⟨D,HD⟩:=nmH (w.1.size+1);obtain⟨V,HV⟩:=nmH (w.1.size+1+1);obtain⟨w0,b0⟩:=nmH (((w.alloc (J (syC s (.slice an s.p.m cn)) 66)).alloc (J #[(),(),(),Zs,Zs,(),(),(),Zs,.slice I 0 0] 31)).alloc (J #[s.k,s.f,s.t,s.r,Zs,(),(),(),Zs,.slice I 0 0] 31));have RD:=xV b0 HD;have RV:=zE b0 HV;have f0:=bl3 b0;have e0:=hd f0;have HL:H (V≠D/\w.1.size<=D/\w.1.size<=V/\V<w0/\D<w0):=⟨by have:=HV.out;have:=HD.out;omega,by have:=HD.out;omega,by have:=HV.out;omega,RV.out.lt,RD.out.lt⟩;have KT:H _:=jG1 s.p.r s.p.k s.p.n s.p.i s.p.b an s.p.m cn s.p.S w0 (h.below f0) hm;go_enter func86,ntmps86
 go_wp2_with fail
 rw[<-b0.out,<-HV.out,<-HD.out,<-HA.out];refine Ax KT.out ?_;rintro e w2 ⟨g,rfl,O2,b2⟩;have a0:=RV.below b2 RV.lt;have g0:=RD.below b2 RD.lt;have y4:=a0.cell 4;have f4:=a0.free 4;have y5:=a0.cell 5;have f5:=a0.free 5;have y6:=a0.cell 6;have f6:=a0.free 6;have y7:=a0.cell 7;have f7:=a0.free 7;have y8:=a0.cell 8;have f8:=a0.free 8;have y9:=a0.cell 9;have f9:=a0.free 9;simp at y4 y5 y6 y7 y8 y9;obtain⟨w3,d0⟩:=nmH (((((((w2.setCell (Q V 4 I) s.p.r).setCell (Q V 5 I) s.p.k).setCell (Q V 6 I) s.p.n).setCell (Q V 7 I) s.p.i).setCell (Q V 8 I) s.p.b).setCell (Q V 9 I) (.slice (Q g 0 I) s.p.m s.p.m)));have l2:=A0 O2 g rfl;have K3:H (Row w3 V 31 (syC s (.slice (Q g 0 I) s.p.m s.p.m))/\Row w3 D 31 #[(),(),(),Zs,Zs,(),(),(),Zs,.slice I 0 0]/\jI w3 w0 (Q g 0 I) s.p.m s.p.m s.p.S/\Ab w w w3):=by
  rw[d0.out];exact⟨(((((a0.set 4 _).set 5 _).set 6 _).set 7 _).set 8 _).set 9 _,(((((g0.other 4 _ (Cj HL.1)).other 5 _ (Cj HL.1)).other 6 _ (Cj HL.1)).other 7 _ (Cj HL.1)).other 8 _ (Cj HL.1)).other 9 _ (Cj HL.1),(((((O2.setFar HL.2.2.2.1).setFar HL.2.2.2.1).setFar HL.2.2.2.1).setFar HL.2.2.2.1).setFar HL.2.2.2.1).setFar HL.2.2.2.1,((((((jA e0 b2).setCell HL.2.2.1 _).setCell HL.2.2.1 _).setCell HL.2.2.1 _).setCell HL.2.2.1 _).setCell HL.2.2.1 _).setCell HL.2.2.1 _⟩
 obtain⟨w7,c0⟩:=nmH (w3.setRow D (syC s (.slice (Q g 0 I) s.p.m s.p.m)));have ZR:H (Row w7 D 31 (syC s (.slice (Q g 0 I) s.p.m s.p.m))):=by show Row _ _ _ _;rw[c0.out];exact K3.2.1.row
 have ZB:H (Ab w w w7):=by show Ab _ _ _;rw[c0.out];exact jF K3.2.2.2 HL.2.1 _
 have h0:=e0.size;have ZO:H (jI w7 w (Q g 0 I) s.p.m s.p.m s.p.S):=by
  show jI _ _ _ _ _ _;rw[c0.out];exact jK (jI.base K3.2.2.1 h0) (qT _ _ _) (fun x e=>by cases e;show g≠D;have:=l2.1;have:=HL.out.2.2.2.2;omega)
 have l7:=A0 ZO g rfl;have KL:=hd l7;go_wp2_with (first|(rw[<-d0.out];refine Bb rfl 31 _ rfl V rfl 31 (syC s (.slice (M ⟨g,0,I⟩) s.p.m s.p.m)) (0,0) _ ?_ Ci rfl Tryz.infoSy2 ?_;exact K3.1;clear y4 f4 y5 f5 y6 f6 y7 f7 y8 f8 y9 f9)|(refine Bw rfl 31 _ _ rfl D (syC s (.slice (M ⟨g,0,I⟩) s.p.m s.p.m)) rfl rfl 31 #[(),(),(),Zs,Zs,(),(),(),Zs,.slice I 0 0] ?_ Tryz.infoSy2 rfl (by simp[Aq]) ?_;exact K3.2.1;rw[<-c0.out]))
 exact B7 (v:=syV s (.slice (Q g 0 I) s.p.m s.p.m)) (Ck results86 _ _ D 31 _ (0,0) _ rfl ZR Ci rfl Tryz.infoSy2) rfl ⟨g,rfl,xQ ZO (fun x e=>by cases e;rfl),KL.out.1,KL.out.2,ZB.out⟩
def syN:Sy:=⟨0,0,0,Ap,⟨Ap,0,0,0,Ap,0,fun _=>Ap⟩⟩
def zcY:List Aj:=[Ao Ar 0,Ao Ar 0,Ao Ar 0,Ag Ap,Ag Ap,Ao Ar 0,Ao Ar 0,Ao Ar 0,Ag Ap,V I 0 0]
theorem Tryz.infoSyZ:(Tryz.prog.info? 31).map (fun i=>(i.zero,i.size,i.bytes))=M (M (Ai zcY.toArray),10,120):=by kernel_rfl
theorem jOt (w:Ad) (B q:Nat) (hq:q<10):Ow w B (syD syN q) (zcY.getD q O) (fun _=>False):=by
 match q,hq with
 | 0,_|1,_|2,_|3,_|4,_|5,_|6,_|7,_|8,_=>rfl
 | 9,_=>exact Ow.nil _ _ _ _ _ _
theorem jKm {w:Ad} {B:Nat} {d:Sy} {v:Aj} {F:Nat->Prop} (h:Ow w B (txD d.p.m d.p.S) v F) (q:Nat) (hq:q<10):Ow w B (syD d q) ((syC d v).toList.getD q O) (fun x=>q=9/\F x):=by
 match q,hq with
 | 0,_|1,_|2,_|3,_|4,_|5,_|6,_|7,_|8,_=>rfl
 | 9,_=>exact Ow.mono h fun g hg=>⟨rfl,hg⟩
theorem jLx (a:OA) (n cap:Nat) (N:Nat->Sy) (w:Ad) (h:Rd w (qI n N) (V a n cap)) (hn:n<=1048576) (hs:∀ i,i<n->(N i).p.m<=1048576):Ak prog 85 #[V a n cap] w fun e w'=>e=Ae (V (Q w 0 I) n n)/\Ow w' w (qI n N) (V (Q w 0 I) n n) (rng w w'.1.size)/\Ab w w w':=by
 obtain⟨i0,hi,k0,m0,n0⟩:=Cg Tryz.infoSyZ;have KH:H (Rd w (qI n N) (V a n cap)):=h;have HS:H (∀ i,i<n->(N i).p.m<=1048576):=hs;clear h hs;go_enter func85,ntmps85
 go_wp2_with (at_make;refine Cv _ rfl _ _ 34 rfl w 31 i0 (Ai zcY.toArray) 10 Dm hi k0 m0 Ar Ar _ _ n rfl rfl rfl rfl (by rw[n0];omega) (by unfold Au;omega) (Ay _) ?_;intro w1 a0 c0)
 have hb1:Ab w w w1:=(Az _ _).grown c0 (Ay _) (by simp);obtain⟨g,HG⟩:=nmH w.1.size;have ho1:Ow w1 w (.lst 31 10 n (fun i=>if i<0 then syD (N i) else syD syN)) (V g n n) (rng w w1.1.size):=by
  have e:(madeCells (Ai zcY.toArray).cells (n*10)).toList=cL 10 (fun _ q=>zcY.getD q O) n:=xH (zs:=zcY) (by simp[zcY]);rw[e] at a0;rw[HG.out];have:=JZ (F:=rng w w1.1.size) a0 (fun q hq=>jOt w1 w q hq) ⟨Ay _,(A0 a0 _ rfl).2⟩
  exact this.congr (fun i q _ _=>by simp)
 have gB:g=w.1.size:=HG.out;rw[<-HG.out];have HB:H (w.1.size<=g):=by show _<=_;omega
 clear a0 c0 gB;go_loopw [4] (fun i wr=>∃ k:Nat,k<=n/\i=Ao Ar k/\Ow wr w (.lst 31 10 n (fun i=>if i<k then syD (N i) else syD syN)) (V g n n) (rng w wr.1.size)/\Ab w w wr) (fun i _=>n-(intOf i).toNat)
 case atStart=>exact⟨0,Bi _,rfl,ho1,hb1⟩
 case round=>
  obtain⟨c,hc,rfl,a0,b0⟩:=hrel;clear ho1 hb1;by_cases hlt:c<n
  .have o0:(c:Int)<(n:Int):=by omega
   obtain⟨b1,f1,an,cn,rfl,e0,g0⟩:=zZ (KH.below b0) hlt;have KT:H _:=jG2 (N c) an cn wr g0 (HS c hlt);have R1:H (wr.rangeAt b1 (f1+c*10) [Ao Ar (N c).k,Ao Ar (N c).f,Ao Ar (N c).t,Ag (N c).r,Ag (N c).p.r,Ao Ar (N c).p.k,Ao Ar (N c).p.n,Ao Ar (N c).p.i,Ag (N c).p.b,V an (N c).p.m cn]):=e0;have KO:H (Ow wr w (.lst 31 10 n (fun i=>if i<c then syD (N i) else syD syN)) (V g n n) (rng w wr.1.size)/\Ab w w wr):=⟨a0,b0⟩;have lg:g<wr.1.size:=by
    obtain⟨a',f0,c',G',e',d0,_⟩:=a0;cases e';exact(A0 d0 g rfl).2
   clear e0 g0 b0 a0;go_wp2_with (refine Bv rfl 66 _ rfl b1 (f1+c*10) rfl [Ao Ar (N c).k,Ao Ar (N c).f,Ao Ar (N c).t,Ag (N c).r,Ag (N c).p.r,Ao Ar (N c).p.k,Ao Ar (N c).p.n,Ao Ar (N c).p.i,Ag (N c).p.b,V an (N c).p.m cn] _ ?_ Ej rfl Tryz.infoSyL ?_;exact R1)
   refine Ax KT.out ?_;rintro e w2 ⟨gs,rfl,o2,p0,q0,b2⟩;have O2:=KO.1.below b2;have TH:H (w2.there g (c*10) 10):=by
    obtain⟨a',f0,c',G',e',d0,_⟩:=O2;cases e';intro j hj;refine⟨?_,B0 d0 _⟩;rw[Br d0 _ (qM hlt hj),jU _ _ _ _ _ hlt hj];rfl
   have h0:=KO.2.size;have HO:H (Ow (w2.setCells g (c*10) (syC (N c) (V gs (N c).p.m (N c).p.m)).toList) w (.lst 31 10 n (fun i=>if i<c+1 then syD (N i) else syD syN)) (V g n n) (rng w (w2.setCells g (c*10) (syC (N c) (V gs (N c).p.m (N c).p.m)).toList).1.size)):=by
    rw[jQ];refine Ow.congr (Ow.store (d:=syD (N c)) O2 hlt rfl (fun q hq=>jKm (o2.base h0) q hq) ?_ ?_ ?_ ?_) ?_
    .intro q x _ hx hf;have h2:=hf.2;have h3:=hx.2;omega
    .intro q q' x _ _ hx j0;exact hx.1.trans j0.1.symm
    .intro x hx;have:=b2.size
     exact⟨hx.1,by have:=hx.2;omega⟩
    .intro q x _ hx;have h3:=hx.2;exact⟨by omega,by omega⟩
    .intro i q _ _;by_cases e:i=c
     .subst e;simp
     .by_cases e2:i<c
      .simp[e,e2,show i<c+1 by omega]
      .simp[e,e2,show ¬ i<c+1 by omega]
   have HBe:H (Ab w w (w2.setCells g (c*10) (syC (N c) (V gs (N c).p.m (N c).p.m)).toList)):=jR (jA KO.2 b2) HB _ _;clear O2 b2 o2 KT R1 KO;go_wp2_with (refine C7 rfl 31 _ _ rfl g (c*10) (syC (N c) (V gs (N c).p.m (N c).p.m)) rfl rfl ?_ Tryz.infoSy2 (by simp[Aq]) ?_;exact TH)
   go_roundw
   case rel=>exact⟨c+1,by omega,by go_num,HO.out,HBe.out⟩
   case measure=>simp[intOf];omega
  .obtain rfl:c=n:=by omega
   have HO:H (Ow wr w (qI c N) (V g c c) (rng w wr.1.size)):=a0.congr (fun i q hi _=>by simp[hi]);clear a0;go_wp2
   go_ret
   exact⟨by rw[<-HG.out];rfl,by rw[<-HG.out];rw[HG.out];have:=HO.out;rw[HG.out] at this;exact this,b0⟩
structure jN4 (w:Ad) (a:OA) (n c:Nat) (l:OA) (zs:List Int) (e:OA) (m g:Nat) (N:Nat->Nd) (Y:Nat->Sy):Prop where
 rn:Rd w (qR n N) (V a n c)
 rl:jH w l zs.length zs
 ry:Rd w (qI m Y) (V e m g)
 hn:n<=Au
 hl:zs.length<=Au
 hm:m<=Au
 bn:∀ i,i<n->NdB (N i)
 by':∀ i,i<m->SyB (Y i)
abbrev ntV (f:Int) (v1 v2 v3:Aj):Aj:=Ai #[f,v1,v2,v3]
theorem jJv {α:Type} (l:List α) (h:l.length=4):∃ c0 c1 c2 c3,l=[c0,c1,c2,c3]:=by
 match l,h with
 | [c0,c1,c2,c3],_=>exact⟨c0,c1,c2,c3,rfl⟩
theorem jRv {α:Type} (l:List α) (h:l.length=5):∃ c0 c1 c2 c3 c4,l=[c0,c1,c2,c3,c4]:=by
 match l,h with
 | [c0,c1,c2,c3,c4],_=>exact⟨c0,c1,c2,c3,c4,rfl⟩
theorem jOe {α:Type} (l:List α) (h:l.length=10):∃ c0 c1 c2 c3 c4 c5 c6 c7 c8 c9,l=[c0,c1,c2,c3,c4,c5,c6,c7,c8,c9]:=by
 match l,h with
 | [c0,c1,c2,c3,c4,c5,c6,c7,c8,c9],_=>exact⟨c0,c1,c2,c3,c4,c5,c6,c7,c8,c9,rfl⟩
section
variable {H:Type} {enc:TypeId×Value->H} {w:World} {base:Nat} {spare:Nat->Bool} {held:Bool}
theorem jMy {a0:Nat} {cs:List Aj} {x:DataW H×List MemPlace} (h:DataW.trod enc prog w base spare held a0 66 cs=some x):∃ s:Sy,cs.length=10/\(∀ q,q<10->Rd w (syD s q) (cs.getD q undef))/\SyB s:=by
 have A:Tryz.prog.cellsOf 66=10:=by kernel_rfl
 have J:Tryz.prog.cellsOf 64=6:=by kernel_rfl
 have C:Tryz.prog.cellsOf 9=1:=by kernel_rfl
 have B:Tryz.prog.cellsOf 3=1:=by kernel_rfl
 obtain⟨xs,f,_,_,hl,j,hf⟩:=Ex Ej h;rw[A] at hl;obtain⟨c0,c1,c2,c3,c4,c5,c6,c7,c8,c9,rfl⟩:=jOe cs hl;obtain⟨y0,y1,y2,y3,y4,rfl⟩:=jRv xs j;have R:=hf 0 _ rfl;have L:=hf 1 _ rfl;have W:=hf 2 _ rfl;have Z:=hf 3 _ rfl;have K:=hf 4 _ rfl;simp[C,J,B] at R L W Z K;obtain⟨k,e0,_,_⟩:=Dr Dd R;obtain⟨ff,M,_,_⟩:=Dr Dd L;obtain⟨tt,e2,_,_⟩:=Dr Dd W;obtain⟨r,O,_,hr⟩:=Fi C6 Z;obtain⟨pr,pk,pn,pi,pb,pa,pm,pc,pS,X,_,u,G,D⟩:=XJ K;simp at e0 M e2 O X;obtain⟨rfl,rfl,rfl,rfl,rfl,rfl⟩:=X;subst e0 M e2 O;refine⟨⟨k,ff,tt,r,⟨pr,pk,pn,pi,pb,pm,pS⟩⟩,rfl,fun q hq=>?_,⟨hr,u,G,D.2.1,D.2.2⟩⟩;match q,hq with
 | 0,_|1,_|2,_|3,_|4,_|5,_|6,_|7,_|8,_=>rfl
 | 9,_=>exact XX.2 D.1
theorem jH1 {a0:Nat} {cs:List Aj} {x:DataW H×List MemPlace} (h:DataW.trod enc prog w base spare held a0 190 cs=M x):∃ d:Nd,cs.length=3/\(∀ q,q<3->Rd w (ndD d q) (cs.getD q O))/\NdB d:=by
 obtain⟨id,f,a,n,c,S,rfl,h1,h2,u⟩:=jKg h;refine⟨⟨id,f,n,S⟩,rfl,fun q j=>?_,⟨h2,u⟩⟩;match q,j with
 | 0,_|1,_=>rfl
 | 2,_=>exact h1
theorem jGx {T e:Nat} {a0:Nat} {v:Aj} {x:DataW H×List MemPlace} (q:Tryz.prog.underlying T=M (.slice e)) (h:DataW.trod enc prog w base spare held a0 T [v]=M x):∃ a n c,v=V a n c:=by
 rcases Go.Deep.open_slice q h with ⟨j,_⟩|⟨ad,len,cap,m,A,D',u,j,_⟩
 .simp at j;exact⟨I,0,0,j⟩
 .simp at j;exact⟨M ad,len,cap,j⟩
theorem jMx {a0:Nat} {cs:List Aj} {x:DataW H×List MemPlace} (h:DataW.trod enc prog w base spare held a0 63 cs=some x):∃ (f:Int) (a:OA) (n c:Nat) (l:OA) (zs:List Int) (d:Nat) (e:OA) (m g:Nat) (N:Nat->Nd) (Y:Nat->Sy),cs=[Ao Ar f,V a n c,V l zs.length d,V e m g]/\jN4 w a n c l zs e m g N Y:=by
 have W:Tryz.prog.cellsOf 63=4:=by kernel_rfl
 have B:Tryz.prog.cellsOf 3=1:=by kernel_rfl
 have D:Tryz.prog.cellsOf 60=1:=by kernel_rfl
 have u:Tryz.prog.cellsOf 40=1:=by kernel_rfl
 have A:Tryz.prog.cellsOf 61=1:=by kernel_rfl
 obtain⟨xs,ff,_,_,hl,j,hf⟩:=Ex Ei h;rw[W] at hl;obtain⟨c0,c1,c2,c3,rfl⟩:=jJv cs hl;obtain⟨y0,y1,y2,y3,rfl⟩:=jJv xs j;have G:=hf 0 _ rfl;have q:=hf 1 _ rfl;have J:=hf 2 _ rfl;have C:=hf 3 _ rfl;simp[B,D,u,A] at G q J C;obtain⟨f,e0,_,_⟩:=Dr Dd G;simp at e0;subst e0;obtain⟨a,n,c,rfl⟩:=jGx underlying60 q;obtain⟨l,zs,d,rfl,X,O⟩:=zX J;obtain⟨e,m,g,rfl⟩:=jGx underlying61 C;obtain⟨N,K,M,n3⟩:=QU ndN 26 ndD NdB underlying60 (by kernel_rfl) (by omega) jH1 q;obtain⟨Y,L,Z,R⟩:=QU syN 31 syD SyB underlying61 (by kernel_rfl) (by omega) jMy C;exact⟨f,a,n,c,l,zs,d,e,m,g,N,Y,rfl,⟨K,X,L,M,O,Z,n3,R⟩⟩
end
def wtT (n:Nat) (N:Nat->Nd) (zs:List Int) (m:Nat) (Y:Nat->Sy):Nat:=jIs n N+zs.length+jG8 m Y
theorem jNq (f:Int) (a:OA) (n c:Nat) (l:OA) (zs:List Int) (d:Nat) (e:OA) (m g:Nat) (N:Nat->Nd) (Y:Nat->Sy) (lf:Nat) (w:Ad) (h:jN4 w a n c l zs e m g N Y) (a1:lf<=1048576):CB 26 #[Ai #[f,V a n c,V l zs.length d,V e m g],(lf:Int)] w (szN lf (wtT n N zs m Y)):=by
 obtain⟨A,HA⟩:=nmH w.1.size;obtain⟨O,j⟩:=nmH (w.alloc (.cells #[f,V a n c,V l zs.length d,V e m g] 63));have RA:=jZ j HA;have J:=bl1 j;have D:=hd J;have L:=hd (jLn a n c N lf O (h.rn.below J) a1 h.hn h.bn);have K2:Hid (∀ (q:Nat) W,q<=1048576->CS 80 #[V l zs.length d,(q:Int)] W (szN q zs.length)):=fun q W hq=>jFn l _ d q W h.hl hq
 have K3:Hid (∀ (q:Nat) W,q<=1048576->Ab O O W->CB 81 #[V e m g,(q:Int)] W (szN q (jG8 m Y))):=fun q W hq hW=>jLr e m g Y q W ((h.ry.below J).below hW) hq h.hm h.by'
 obtain⟨x1,Z⟩:=nnH (jIs n N);obtain⟨x2,C⟩:=nnH zs.length;obtain⟨x3,a0⟩:=nnH (jG8 m Y);have a4:Hid (wtT n N zs m Y=x1+x2+x3):=by show _=_;unfold wtT;rw[Z.out,C.out,a0.out]
 rw[a4.out];rw[Z.out] at L;rw[C.out] at K2 RA;rw[a0.out] at K3;rw[C.out];rw[C.out] at j;by_cases h1:x1<=lf
 case neg=>
  rw[qD h1] at L;rw[qD (by omega)];go_enter func26,ntmps26
  go_wp2_with fail
  rw[<-j.out,<-HA.out];refine CM L.out fun w1 G=>?_
  go_wp2
  go_ret
  exact⟨rfl,jA D G⟩
 obtain⟨l1,R⟩:=nnH (lf-x1);rw[qE h1,R.out] at L;have a6:=R.out;have n1:¬ ((l1:Int)<0):=by omega
 have B:Hid _:=fun W=>K2 l1 W (by omega)
 by_cases h2:x2<=l1
 case neg=>
  rw[qD (by omega)];simp only[qD h2] at B;go_enter func26,ntmps26
  go_wp2_with fail
  rw[<-j.out,<-HA.out];refine CM L.out fun w1 G=>?_
  have R1:=RA.below G RA.lt;have y2:=R1.cell 2;simp at y2;have u:=hd (jA D G);go_wp2_with fail
  refine CM (B _) fun w2 hw=>?_
  obtain rfl:=hw.symm;go_wp2
  go_ret
  exact⟨rfl,u⟩
 obtain⟨l2,X⟩:=nnH (l1-x2);simp only[qE h2,X.out] at B;have a5:=X.out;have n2:¬ ((l2:Int)<0):=by omega
 obtain⟨K,H⟩:=nnH (szN l2 x3);have HF:Hid (szN lf (x1+x2+x3)=K):=by
  show _=_;rw[<-H.out];by_cases h3:x3<=l2
  .rw[qE h3,qE (by omega)];congr 1;omega
  .rw[qD h3,qD (by omega)]
 have a3:Hid (∀ W,Ab O O W->CB 81 #[V e m g,(l2:Int)] W K):=fun W hW=>by have:=K3 l2 W (by omega) hW;rw[H.out] at this;exact this
 rw[HF.out];have a2:Hid (K<0->K = -1):=by
  show K<0->_;rw[<-H.out];by_cases h3:x3<=l2
  .rw[qE h3];intro hh;omega
  .rw[qD h3];intro _;rfl
 by_cases h3:K<0
 have e3:=a2 h3;subst e3;go_enter func26,ntmps26
 rotate_left;go_enter func26,ntmps26
 rotate_left;all_goals
  go_wp2_with fail
  rw[<-j.out,<-HA.out];refine CM L.out fun w1 G=>?_
  have R1:=RA.below G RA.lt;obtain⟨y2,y3⟩:=R1.c2 2 3;simp at y2 y3;have u:=hd G;go_wp2_with fail
  refine CM (B _) fun w2 hw=>?_
  obtain rfl:=hw.symm;go_wp2_with fail
  refine CM (a3 _ u) fun w3 b3=>?_
  go_wp2
  go_ret
  exact⟨rfl,jA D (jA u b3)⟩
theorem jCz (f:Int) (a b:OA) (n R M:Nat) (l k:OA) (zs:List Int) (O L:Nat) (e q:OA) (m C J:Nat) (N:Nat->Nd) (Y:Nat->Sy) (w:Ad) (h1:Rd w (qR n N) (V a n R)) (h2:Rd w (qR n N) (V b n M)) (h3:jH w l zs.length zs) (h4:jH w k zs.length zs) (h5:Rd w (qI m Y) (V e m C)) (h6:Rd w (qI m Y) (V q m J)) (hn:n<=1048576) (hN:∀ i,i<n->NdS (N i)) (hz:zs.length<=1048576) (hm:m<=1048576) (hY:∀ i,i<m->(Y i).p.m<=1048576):CB 30 #[ntV f (V a n R) (V l zs.length O) (V e m C),ntV f (V b n M) (V k zs.length L) (V q m J)] w Aw:=by
 obtain⟨A,HA⟩:=nmH w.1.size;obtain⟨D,HD⟩:=nmH (w.1.size+1);obtain⟨H,u⟩:=nmH ((w.alloc (.cells #[f,V a n R,V l zs.length O,V e m C] 48)).alloc (.cells #[f,V b n M,V k zs.length L,V q m J] 48));have RA:=xS u HA;have RD:=zR u HD;have j:=bl2 u;have a0:=hd j;have K1:Hid _:=jHg a b n R M N H (h1.below j) (h2.below j) hn hN;have K2:Hid (∀ W,Ab H H W->Ak prog 88 #[V l zs.length O,V k zs.length L] W _):=fun W B=>JW l k zs.length O L zs W ((h3.below j).below B) ((h4.below j).below B) hz
 have K3:Hid (∀ W,Ab H H W->Ak prog 89 #[V e m C,V q m J] W _):=fun W B=>jHj e q m C J Y W ((h5.below j).below B) ((h6.below j).below B) hm hY
 have a1:(f !=f)=Av:=by simp
 go_enter func30,ntmps30
 go_wp2_with fail
 rw[<-u.out,<-HD.out,<-HA.out];refine CM K1.out fun w1 b1=>?_
 have R1:=RA.below b1 RA.lt;have S1:=RD.below b1 RD.lt;obtain⟨x2,Z⟩:=R1.c2 2 3;obtain⟨y2,X⟩:=S1.c2 2 3;simp at x2 Z y2 X;have G:=hd b1;go_wp2_with fail
 refine CM (K2 _ G) fun w2 b2=>?_
 replace Z:=(b2.cell (p:=Q A 3 I) (A7 Z)).trans Z
 replace X:=(b2.cell (p:=Q D 3 I) (A7 X)).trans X
 have K:=hd (jA G b2);go_wp2_with fail
 refine CM (K3 _ K) fun w3 b3=>?_
 go_wp2
 go_ret
 exact⟨rfl,jA a0 (jA K b3)⟩
theorem Ow.apart {w:Ad} {B:Nat} {d:Dt} {v:Aj} {F:Nat->Prop} (h:Ow w B d v F) {g:Nat} (o:Nat) (x:Aj) (hn:¬ F g):Ow (w.setCell (Q g o I) x) B d v F:=
 h.turned (Trn.set w o x (F:=fun y=>y=g) rfl) (fun _ j e=>hn (e▸j))
theorem Tryz.infoNt:(Tryz.prog.info? 48).map (·.size)=M 4:=by kernel_rfl
theorem jQx (a:OA) (cap:Nat) (zs:List Int) (w:Ad) (h:jH w a zs.length zs) (hn:zs.length<=1048576):Ak prog 84 #[V a zs.length cap] w fun e w'=>∃ g,e=Ae (V (Q g 0 I) zs.length zs.length)/\Ow w' w (inD zs) (V (Q g 0 I) zs.length zs.length) (rng w w'.1.size)/\Ab w w w':=by
 refine(XP a zs.length cap zs w h hn).mono ?_;rintro e w' ⟨rfl,j,hb⟩;have l:=A0 j w rfl;exact⟨_,rfl,vV j (fun x e=>by cases e;exact l),hb⟩
theorem jNw (f:Int) (a:OA) (n c:Nat) (l:OA) (zs:List Int) (d:Nat) (e:OA) (m g:Nat) (N:Nat->Nd) (Y:Nat->Sy) (w:Ad) (h:jN4 w a n c l zs e m g N Y) (hn:n<=1048576) (hN:∀ i,i<n->NdS (N i)) (hz:zs.length<=1048576) (hm:m<=1048576) (hY:∀ i,i<m->(Y i).p.m<=1048576):Ak prog 28 #[Ai #[f,.slice a n c,.slice l zs.length d,.slice e m g]] w fun r w'=>∃ j u B,r=Ae (ntV f (.slice (Q j 0 I) n n) (.slice (Q u 0 I) zs.length zs.length) (.slice (Q B 0 I) m m))/\∃ (F1 R F3:Nat->Prop),Ow w' w (qR n N) (.slice (Q j 0 I) n n) F1/\Ow w' w (inD zs) (.slice (Q u 0 I) zs.length zs.length) R/\Ow w' w (qI m Y) (.slice (Q B 0 I) m m) F3/\(∀ x,F1 x->¬ R x)/\(∀ x,F1 x->¬ F3 x)/\(∀ x,R x->¬ F3 x)/\Ab w w w':=by
 obtain⟨A,HA⟩:=nmH w.1.size;obtain⟨D,HD⟩:=nmH (w.1.size+1);obtain⟨V,HV⟩:=nmH (w.1.size+1+1);obtain⟨w0,G⟩:=nmH (((w.alloc (.cells #[f,.slice a n c,.slice l zs.length d,.slice e m g] 63)).alloc (.cells #[(),.slice I 0 0,.slice I 0 0,.slice I 0 0] 48)).alloc (.cells #[f,.slice I 0 0,.slice I 0 0,.slice I 0 0] 48));have RA:=zS G HA;have RD:=xV G HD;have RV:=zE G HV;have a7:=bl3 G;have a9:=hd a7;have q:Hid (V≠D/\V≠A/\w.1.size<=D/\w.1.size<=V/\V<w0/\D<w0):=⟨by have:=HV.out;have:=HD.out;omega,by have:=HV.out;have:=HA.out;omega,by have:=HD.out;omega,by have:=HV.out;omega,RV.out.lt,RD.out.lt⟩;have K1:Hid _:=jLu a n c N w0 (h.rn.below a7) hn hN;have K2:Hid (∀ W,Ab w w W->Ak prog 84 #[.slice l zs.length d] W _):=fun W hW=>jQx l d zs W (h.rl.below hW) hz
 have K3:Hid (∀ W,Ab w w W->Ak prog 85 #[.slice e m g] W _):=fun W hW=>jLx e m g Y W (h.ry.below hW) hm hY
 go_enter func28,ntmps28
 go_wp2_with fail
 rw[<-G.out,<-HV.out,<-HD.out,<-HA.out];refine Ax K1.out ?_;rintro e' w1 ⟨rfl,O1,b1⟩;obtain⟨j,M⟩:=nmH w0.1.size;rw[<-M.out];obtain⟨L,a0⟩:=nmH (w1.setCell (Q V 1 I) (.slice (Q j 0 I) n n));have a5:=RA.below b1 RA.lt;have Z:=RV.below b1 RV.lt;have b6:=RD.below b1 RD.lt;have y1:=Z.cell 1;have f1:=Z.free 1;have q2:=a5.cell 2;simp at y1 q2;have c4:=q.2.1;have c0:¬ A=V:=fun e=>q.2.1 e.symm
 have S2:L.1.size=w1.1.size:=by rw[a0.out];simp
 have b9:=b1.size;have H:Hid (Row L A 63 #[f,.slice a n c,.slice l zs.length d,.slice e m g]/\Row L V 48 #[f,.slice (Q j 0 I) n n,.slice I 0 0,.slice I 0 0]/\Row L D 48 #[(),.slice I 0 0,.slice I 0 0,.slice I 0 0]/\Ow L w (qR n N) (.slice (Q j 0 I) n n) (rng w0 w1.1.size)/\Ab w w L):=by
  rw[a0.out];refine⟨a5.other 1 _ (Cj q.2.1),Z.set 1 _,b6.other 1 _ (Cj q.1),?_,(jA a9 b1).setCell q.2.2.2.1 _⟩;have:=O1.base a9.size
  rw[<-M.out] at this;rw[<-M.out];exact this.apart 1 _ (fun k=>by have:=k.1;have:=q.2.2.2.2.1;have:=M.out;omega)
 have b7:Hid _:=K2 L H.2.2.2.2;go_wp2_with (fail)
 rw[<-a0.out];refine Ax b7.out ?_;rintro e' w3 ⟨u,rfl,O3,b3⟩;obtain⟨K,a4⟩:=nmH (w3.setCell (Q V 2 I) (.slice (Q u 0 I) zs.length zs.length));have a8:=H.1.below b3 H.1.lt;have a1:=H.2.1.below b3 H.2.1.lt;have b2:=H.2.2.1.below b3 H.2.2.1.lt;have y2:=a1.cell 2;have f2:=a1.free 2;have q3:=a8.cell 3;simp at y2 q3;have c1:=H.2.1.lt;have C:Hid (Row K A 63 #[f,.slice a n c,.slice l zs.length d,.slice e m g]/\Row K V 48 #[f,.slice (Q j 0 I) n n,.slice (Q u 0 I) zs.length zs.length,.slice I 0 0]/\Row K D 48 #[(),.slice I 0 0,.slice I 0 0,.slice I 0 0]/\Ow K w (qR n N) (.slice (Q j 0 I) n n) (rng w0 w1.1.size)/\Ow K w (inD zs) (.slice (Q u 0 I) zs.length zs.length) (rng L w3.1.size)/\Ab w w K):=by
  rw[a4.out];exact⟨a8.other 2 _ (Cj q.2.1),a1.set 2 _,b2.other 2 _ (Cj q.1),(H.2.2.2.1.below b3).apart 2 _ (fun k=>by have:=k.1;have:=q.2.2.2.2.1;omega),(O3.base H.out.2.2.2.2.size).apart 2 _ (fun k=>by have:=k.1;omega),(jA H.out.2.2.2.2 b3).setCell q.out.2.2.2.1 _⟩
 have S4:K.1.size=w3.1.size:=by rw[a4.out];simp
 have b4:Hid _:=K3 K C.2.2.2.2.2;have c9:=b3.size;go_wp2_with (fail)
 rw[<-a4.out];refine Ax b4.out ?_;rintro e' w5 ⟨rfl,O5,b5⟩;obtain⟨B,O⟩:=nmH K.1.size;rw[<-O.out];obtain⟨X,a6⟩:=nmH (w5.setCell (Q V 3 I) (.slice (Q B 0 I) m m));have a2:=C.2.1.below b5 C.2.1.lt;have b0:=C.2.2.1.below b5 C.2.2.1.lt;have y3:=a2.cell 3;have f3:=a2.free 3;simp at y3;have b8:=C.2.1.lt;have c7:=C.2.2.1.lt;have J6:Hid (Row X V 48 #[f,.slice (Q j 0 I) n n,.slice (Q u 0 I) zs.length zs.length,.slice (Q B 0 I) m m]/\Row X D 48 #[(),.slice I 0 0,.slice I 0 0,.slice I 0 0]/\Ow X w (qR n N) (.slice (Q j 0 I) n n) (rng w0 w1.1.size)/\Ow X w (inD zs) (.slice (Q u 0 I) zs.length zs.length) (rng L w3.1.size)/\Ow X w (qI m Y) (.slice (Q B 0 I) m m) (rng K w5.1.size)/\Ab w w X):=by
  rw[a6.out];refine⟨a2.set 3 _,b0.other 3 _ (Cj q.1),(C.2.2.2.1.below b5).apart 3 _ (fun k=>by have:=k.1;have:=q.2.2.2.2.1;omega),(C.out.2.2.2.2.1.below b5).apart 3 _ (fun k=>by have:=k.1;omega),?_,(jA C.out.2.2.2.2.2 b5).setCell q.out.2.2.2.1 _⟩;have:=O5.base C.2.2.2.2.2.size
  rw[<-O.out] at this;rw[<-O.out];exact this.apart 3 _ (fun k=>by have:=k.1;have:=O.out;omega)
 obtain⟨w7,a3⟩:=nmH (X.setRow D #[f,.slice (Q j 0 I) n n,.slice (Q u 0 I) zs.length zs.length,.slice (Q B 0 I) m m]);have ZR:Hid (Row w7 D 48 #[f,.slice (Q j 0 I) n n,.slice (Q u 0 I) zs.length zs.length,.slice (Q B 0 I) m m]):=by show Row _ _ _ _;rw[a3.out];exact J6.2.1.row
 have ZF:Hid (∃ (F1 R F3:Nat->Prop),Ow w7 w (qR n N) (.slice (Q j 0 I) n n) F1/\Ow w7 w (inD zs) (.slice (Q u 0 I) zs.length zs.length) R/\Ow w7 w (qI m Y) (.slice (Q B 0 I) m m) F3/\(∀ x,F1 x->¬ R x)/\(∀ x,F1 x->¬ F3 x)/\(∀ x,R x->¬ F3 x)/\Ab w w w7):=by
  rw[a3.out];have hD:=q.2.2.2.2.2;refine⟨_,_,_,J6.2.2.1.frame fun x J _=>Cd _ _ _ _ (fun e=>by have:=J.1;omega),J6.out.2.2.2.1.frame fun x J _=>Cd _ _ _ _ (fun e=>by have:=J.1;omega),J6.out.2.2.2.2.1.frame fun x J _=>Cd _ _ _ _ (fun e=>by have:=J.1;omega),fun x J hy=>?_,fun x J hy=>?_,fun x J hy=>?_,jF J6.2.2.2.2.2 q.2.2.1 _⟩
  .have:=J.2;have:=hy.1;omega
  .have:=J.2;have:=hy.1;omega
  .have:=J.2;have:=hy.1;omega
 go_wp2_with (first|(rw[<-a6.out];refine Bb rfl 48 _ rfl V rfl 48 #[f,.slice (some ⟨j,0,I⟩) n n,.slice (some ⟨u,0,I⟩) zs.length zs.length,.slice (some ⟨B,0,I⟩) m m] (0,0) _ ?_ Bp rfl Tryz.infoNt ?_;exact J6.1;clear y3 f3)|(refine Bw rfl 48 _ _ rfl D #[f,.slice (some ⟨j,0,I⟩) n n,.slice (some ⟨u,0,I⟩) zs.length zs.length,.slice (some ⟨B,0,I⟩) m m] rfl rfl 48 #[(),.slice I 0 0,.slice I 0 0,.slice I 0 0] ?_ Tryz.infoNt rfl (by simp[Aq]) ?_;exact J6.2.1;rw[<-a3.out]))
 exact B7 (v:=ntV f (.slice (Q j 0 I) n n) (.slice (Q u 0 I) zs.length zs.length) (.slice (Q B 0 I) m m)) (Ck results28 _ _ D 48 _ (0,0) _ rfl ZR Bp rfl Tryz.infoNt) rfl ⟨j,u,B,rfl,ZF⟩
end
section
def stI (f:Int) (e r:Nat):Int:=if 2*f+1<=(r:Int) then 2 else if 2*f+1<=(e:Int) then 1 else if f+1<=(r:Int) then 1 else 0
theorem vN (id f:Int) (v:Aj) (s:Sl) (v6:Aj) (a1 a2:OA) (n1 n2 c1 c2:Nat) (w:Ad) (hf:1<=f/\f<=3):CB 118 #[ndV id f v,slV s v6 (V a1 n1 c1) (V a2 n2 c2)] w (stI f n1 n2):=by
 obtain⟨A,HA⟩:=nmH w.1.size;obtain⟨wa,a0⟩:=nmH (w.alloc (J #[id,f,v] 26));have f0:=jZ a0 HA;have h0:=bl1 a0;obtain⟨B,HB⟩:=nmH wa.1.size;obtain⟨w0,b0⟩:=nmH (wa.alloc (J (slC s v6 (V a1 n1 c1) (V a2 n2 c2)) 42));have g0:=bl1 b0;have HR:=jZ b0 HB;have c0:=hd (jA h0 g0);have d0:H (B=A+1):=by show _=_;rw[HB.out,a0.out,HA.out];simp
 have RA:=f0.below g0 f0.lt;have r1:=RA.cell 1;obtain⟨i0,j0⟩:=HR.c2 11 12;simp[slC] at r1 i0 j0;have e0:IntKind.i64.wrap (2*f)=2*f:=by rw[A8];omega
 obtain⟨x,HX⟩:∃ x:Int,H (2*f+1=x):=⟨_,rfl⟩;have e1:IntKind.i64.wrap (2*f+1)=x:=by have:=HX.out;rw[A8];omega
 obtain⟨y,HY⟩:∃ y:Int,H (f+1=y):=⟨_,rfl⟩;have e2:IntKind.i64.wrap (f+1)=y:=by have:=HY.out;rw[A8];omega
 unfold stI;rw[HX.out,HY.out];by_cases h1:x<=(n2:Int)
 .rw[A6 h1];go_enter func118,ntmps118
  go_wp2_with fail
  rw[<-a0.out,<-b0.out,<-HA.out,<-d0.out];go_quiet (fail)
  go_wp2
  go_ret
  exact⟨rfl,Cz c0 _⟩
 rw[A5 h1];by_cases h2:x<=(n1:Int)
 .rw[A6 h2];go_enter func118,ntmps118
  go_wp2_with fail
  rw[<-a0.out,<-b0.out,<-HA.out,<-d0.out];go_quiet (fail)
  go_wp2
  go_ret
  exact⟨rfl,Cz c0 _⟩
 rw[A5 h2];by_cases h3:y<=(n2:Int)
 .rw[A6 h3];go_enter func118,ntmps118
  go_wp2_with fail
  rw[<-a0.out,<-b0.out,<-HA.out,<-d0.out];go_quiet (fail)
  go_wp2
  go_ret
  exact⟨rfl,Cz c0 _⟩
 rw[A5 h3];go_enter func118,ntmps118
 go_wp2_with fail
 rw[<-a0.out,<-b0.out,<-HA.out,<-d0.out];go_quiet (fail)
 go_wp2
 go_ret
 exact⟨rfl,Cz c0 _⟩
variable {H:Type} {enc:TypeId×Value->H} {w:World} {base:Nat} {spare:Nat->Bool} {held:Bool}
theorem jKh {a0:Nat} {cs:List Aj} {x:DataW H×List MemPlace} (h:DataW.trod enc prog w base spare held a0 66 cs=M x):∃ (y:Sy) (a:OA) (c:Nat),cs=(syC y (V a y.p.m c)).toList/\jL w a y.p.m y.p.S/\SyB y:=by
 have d0:Tryz.prog.cellsOf 66=10:=by kernel_rfl
 have h0:Tryz.prog.cellsOf 64=6:=by kernel_rfl
 have i0:Tryz.prog.cellsOf 9=1:=by kernel_rfl
 have f0:Tryz.prog.cellsOf 3=1:=by kernel_rfl
 obtain⟨xs,f,_,_,hl,b0,hf⟩:=Ex Ej h;rw[d0] at hl;obtain⟨c0,c1,c2,c3,c4,c5,c6,c7,c8,c9,rfl⟩:=jOe cs hl;obtain⟨y0,y1,y2,y3,y4,rfl⟩:=jRv xs b0;have g0:=hf 0 _ rfl;have g1:=hf 1 _ rfl;have g2:=hf 2 _ rfl;have g3:=hf 3 _ rfl;have g4:=hf 4 _ rfl;simp[i0,h0,f0] at g0 g1 g2 g3 g4;obtain⟨k,e0,_,_⟩:=Dr Dd g0;obtain⟨ff,e1,_,_⟩:=Dr Dd g1;obtain⟨tt,e2,_,_⟩:=Dr Dd g2;obtain⟨r,e3,_,hr⟩:=Fi C6 g3;obtain⟨pr,pk,pn,pi,pb,pa,pm,pc,pS,e4,_,k0,j0,ht⟩:=XJ g4;simp at e0 e1 e2 e3 e4;obtain⟨rfl,rfl,rfl,rfl,rfl,rfl⟩:=e4;subst e0 e1 e2 e3;exact⟨⟨k,ff,tt,r,⟨pr,pk,pn,pi,pb,pm,pS⟩⟩,pa,pc,rfl,ht.1,⟨hr,k0,j0,ht.2.1,ht.2.2⟩⟩
end
end Go.Proofs.YtcaejlalnjnifaaGreat
