import Derived.Test.YtcaejlalnjnifaaGreatP26
import Derived.Test.YtcaejlalnjnifaaGreatP30
set_option maxHeartbeats 8000000
set_option maxRecDepth 2000
open Go.Value renaming slice->V,string->Ag,agg->Ai,int->Ao,oneCell'->Aq
open Option renaming none->I,some->M
open Go.RowKit renaming Hid->H,Below->Ab
open Go.Addr renaming mk->Q
open Go renaming undef->O,World->Ad,Value->Aj,Calls->Ak,maxLen->Au
open Go.Obj renaming cells->J
open Go.Ending renaming returned->Ae
open ByteArray renaming empty->Ap
open Go.IntKind renaming i64->Ar
open Bool renaming false->Av,true->Aw
open Go.Proofs.Tryz
open Go.ChangeShapes Go.WideShapes Go.ChangeAt Go.RowKit
namespace Go.Proofs.YtcaejlalnjnifaaGreat
structure SyB (s:Sy):Prop where
 r:s.r.size<=Au
 pr:s.p.r.size<=Au
 pb:s.p.b.size<=Au
 m:s.p.m<=Au
 tx:∀ i,i<s.p.m->(s.p.S i).size<=Au
def wtY (s:Sy):Nat:=s.r.size+wtP s.p
def jGy (n:Nat) (N:Nat->Sy):Nat:=n+tot (fun i=>wtY (N i)) n
theorem Tryz.infoSyL:(Tryz.prog.info? 66).map (·.size)=M 10:=by kernel_rfl
theorem Tryz.infoSy2:(Tryz.prog.info? 31).map (·.size)=M 10:=by kernel_rfl
theorem zY {w:Ad} {n:Nat} {N:Nat->Sy} {a:OA} {cap:Nat} (h:Rd w (qJ n N) (V a n cap)) {c:Nat} (hc:c<n):∃ (b off:Nat) (an:OA) (cn:Nat),a=M (Q b off I)/\w.rangeAt b (off+c*10) [Ao Ar (N c).k,Ao Ar (N c).f,Ao Ar (N c).t,Ag (N c).r,Ag (N c).p.r,Ao Ar (N c).p.k,Ao Ar (N c).p.n,Ao Ar (N c).p.i,Ag (N c).p.b,V an (N c).p.m cn]/\jK w an (N c).p.m (N c).p.S:=by
 obtain⟨b,off,y,an,cn,ea,hy,e,ht⟩:=jB6 h hc;obtain⟨_,x⟩:=zU (sz:=9) w (Az _ _) hy;have R:=jPy x;have h':=D8 (fun v=>match v with|Ai a=>a.toList|_=>[]) e;have a0:[y 0,y 1,y 2,y 3,y 4,y 5,y 6,y 7,y 8,y 9]=[Ao Ar (N c).k,Ao Ar (N c).f,Ao Ar (N c).t,Ag (N c).r,Ag (N c).p.r,Ao Ar (N c).p.k,Ao Ar (N c).p.n,Ao Ar (N c).p.i,Ag (N c).p.b,V an (N c).p.m cn]:=h';rw[a0] at R;exact⟨b,off,an,cn,ea,R,ht⟩
theorem jGo (s:Sy) (an:OA) (cn l:Nat) (w:Ad) (h:jK w an s.p.m s.p.S) (hB:SyB s) (hl:l<=1048576):CB 82 #[syV s (V an s.p.m cn),(l:Int)] w (szN l (wtY s)):=by
 obtain⟨A,HA⟩:=nmH w.1.size;obtain⟨w0,a0⟩:=nmH (w.alloc (J (syC s (V an s.p.m cn)) 66));have c0:=bl1 a0;have f0:H (Ab w w w0):=c0;have KP:H (∀ l1:Nat,l1<=1048576->CB 143 #[pcV s.p.r s.p.k s.p.n s.p.i s.p.b (V an s.p.m cn),(l1:Int)] w0 (szN l1 (wtP s.p))):=fun l1 h1=>by
  rw[<-jLc];exact jGn s.p.r s.p.k s.p.n s.p.i s.p.b an s.p.m cn s.p.S l1 w0 (h.below c0) h1 hB.m hB.tx hB.pr hB.pb
 have e0:H (wtY s=s.r.size+wtP s.p):=rfl;rw[e0.out];obtain⟨x,HX⟩:=nnH s.r.size;obtain⟨wp,HP⟩:=nnH (wtP s.p);have hx:=hB.r;unfold Au at hx;rw[HX.out] at hx;rw[HX.out,HP.out];rw[HP.out] at KP;have k0:(s.r.size:Int)=(x:Int):=by rw[HX.out]
 clear h hB c0 e0;by_cases h1:x<=l
 case neg=>
  rw[qD (by omega)];have e1:IntKind.i64.wrap ((l:Int)-(x:Int))=(l:Int)-(x:Int):=by rw[A8];omega
  have h0:(l:Int)-(x:Int)<0:=by omega
  go_enter func82,ntmps82
  go_wp2
  rw[<-a0.out];go_ret
  exact⟨rfl,f0⟩
 obtain⟨l1,i0⟩:=nnH (l-x);have g0:=i0.out;have e1:IntKind.i64.wrap ((l:Int)-(x:Int))=(l1:Int):=by rw[A8];omega
 have n1:¬ ((l1:Int)<0):=by omega
 have b0:H _:=KP l1 (by omega);by_cases h2:wp<=l1
 obtain⟨l2,d0⟩:=nnH (l1-wp);have j0:=d0.out;have n2:¬ ((l2:Int)<0):=by omega
 have HR:H (szN l (x+wp)=(l2:Int)):=by show _=_;rw[qF (by omega)];congr 1;omega
 rw[qF h2,d0.out] at b0;rw[HR.out];clear h1 h2 g0 j0 KP;rotate_left;have HR:H (szN l (x+wp) = -1):=qD (by omega);rw[qD h2] at b0;rw[HR.out];clear h1 h2 g0 KP;rotate_left;all_goals
  go_enter func82,ntmps82
  go_wp2_with fail
  rw[<-a0.out];refine Ax b0.out ?_;rintro e w1 ⟨rfl,b1⟩;go_wp2
  go_ret
  exact⟨rfl,jA f0 b1⟩
theorem jLe (a:OA) (n cap:Nat) (N:Nat->Sy) (l:Nat) (w:Ad) (h:Rd w (qJ n N) (V a n cap)) (hl:l<=1048576) (hn:n<=Au) (hL:∀ i,i<n->SyB (N i)):CB 81 #[V a n cap,(l:Int)] w (szN l (jGy n N)):=by
 unfold Au at hn;by_cases h1:n<=l
 .obtain⟨d,hd⟩:∃ d,l-n=d:=⟨_,rfl⟩;have hw:IntKind.i64.wrap ((l:Int)-(n:Int))=(d:Int):=by rw[A8];omega
  have h0:¬ ((d:Int)<0):=by omega
  have KL:H (∀ i,i<n->SyB (N i)):=hL;have KH:H (Rd w (qJ n N) (V a n cap)):=h;clear hL h;go_enter func81,ntmps81
  go_wp2
  go_loopw [1,5] (fun p i wr=>∃ c q:Nat,c<=n/\q<=1048576/\H (tot (fun i=>wtY (N i)) c+q=d)/\p=Ao Ar (q:Int)/\i=Ao Ar (c:Int)/\Ab w w wr) (fun _ i _=>n-(intOf i).toNat)
  case atStart=>exact⟨0,d,Bi _,by omega,by show 0+d=d;omega,rfl,rfl,Az _ _⟩
  case round=>
   obtain⟨c,q,hc,hq,HT,rfl,rfl,a0⟩:=hrel;clear hw h0;by_cases hlt:c<n
   .obtain⟨b1,f1,an,cn,rfl,f0,g0⟩:=zY (KH.below a0) hlt;have i0:=jGs (fun i=>wtY (N i)) hlt;have k0:(c:Int)<(n:Int):=by omega
    have e0:=HT.out;obtain⟨lc,c0⟩:=nnH (wtY (N c));have d0:H (tot (fun i=>wtY (N i)) (c+1)=tot (fun i=>wtY (N i)) c+lc):=by rw[<-c0.out];rfl
    have b0:tot (fun i=>wtY (N i)) c+lc<=tot (fun i=>wtY (N i)) n:=by rw[<-c0.out];exact i0
    have KZ:H (CB 82 #[Ai #[Ao Ar (N c).k,Ao Ar (N c).f,Ao Ar (N c).t,Ag (N c).r,Ag (N c).p.r,Ao Ar (N c).p.k,Ao Ar (N c).p.n,Ao Ar (N c).p.i,Ag (N c).p.b,V an (N c).p.m cn],(q:Int)] wr (szN q lc)):=by
     rw[<-c0.out];exact jGo (N c) an cn q wr g0 (KL c hlt) hq
    have R1:H (wr.rangeAt b1 (f1+c*10) [Ao Ar (N c).k,Ao Ar (N c).f,Ao Ar (N c).t,Ag (N c).r,Ag (N c).p.r,Ao Ar (N c).p.k,Ao Ar (N c).p.n,Ao Ar (N c).p.i,Ag (N c).p.b,V an (N c).p.m cn]):=f0;have KB:H (Ab w w wr):=a0;clear i0 f0 g0 a0;by_cases h2:lc<=q
    .obtain⟨q',j0⟩:∃ q',q-lc=q':=⟨_,rfl⟩;have h3:¬ ((q':Int)<0):=by omega
     have HT2:H (tot (fun i=>wtY (N i)) (c+1)+q'=d):=by show _=_;rw[d0.out];omega
     have hq2:q'<=1048576:=by omega
     rw[qF h2,j0] at KZ;clear HT e0 b0 d0;go_wp2_with (refine Bv rfl 66 _ rfl b1 (f1+c*10) rfl [Ao Ar (N c).k,Ao Ar (N c).f,Ao Ar (N c).t,Ag (N c).r,Ag (N c).p.r,Ao Ar (N c).p.k,Ao Ar (N c).p.n,Ao Ar (N c).p.i,Ag (N c).p.b,V an (N c).p.m cn] _ ?_ Ei rfl Tryz.infoSyL ?_;exact R1)
     refine Ax KZ.out ?_;rintro e w1 ⟨rfl,bb⟩;have KB1:H (Ab w w w1):=jA KB bb;clear bb KZ R1;go_wp2
     go_roundw
     case rel=>exact⟨c+1,q',by omega,hq2,HT2,rfl,by go_num,KB1.out⟩
     case measure=>simp[intOf] <;> omega
    .have HR:H (szN l (jGy n N) = -1):=qD (by unfold jGy;omega);rw[qD h2] at KZ;clear HT e0 b0 d0;go_wp2_with (refine Bv rfl 66 _ rfl b1 (f1+c*10) rfl [Ao Ar (N c).k,Ao Ar (N c).f,Ao Ar (N c).t,Ag (N c).r,Ag (N c).p.r,Ao Ar (N c).p.k,Ao Ar (N c).p.n,Ao Ar (N c).p.i,Ag (N c).p.b,V an (N c).p.m cn] _ ?_ Ei rfl Tryz.infoSyL ?_;exact R1)
     refine Ax KZ.out ?_;rintro e w1 ⟨rfl,bb⟩;have KB1:H (Ab w w w1):=jA KB bb;clear bb KZ R1;go_wp2
     go_ret
     exact⟨jS HR.symm,KB1⟩
   .obtain rfl:c=n:=by omega
    have HR:H (szN l (jGy c N)=(q:Int)):=by
     have:=HT.out
     have e:l-(c+tot (fun i=>wtY (N i)) c)=q:=by omega
     exact(qF (by unfold jGy;omega)).trans (by unfold jGy;rw[e])
    clear KH;go_wp2
    go_ret
    exact⟨jS HR.symm,a0⟩
 .have h0:(l:Int)-(n:Int)<0:=by omega
  have hw:IntKind.i64.wrap ((l:Int)-(n:Int))=(l:Int)-(n:Int):=by rw[A8];omega
  have HR:H (szN l (jGy n N) = -1):=qD (by unfold jGy;omega);clear h hL;go_enter func81,ntmps81
  go_wp2
  go_ret
  exact⟨jS HR.symm,Az _ _⟩
theorem jGq (s:Sy) (an:OA) (cn:Nat) (w:Ad) (h:jK w an s.p.m s.p.S) (hm:s.p.m<=1048576):Ak prog 86 #[syV s (.slice an s.p.m cn)] w fun e w'=>∃ g,e=Ae (syV s (.slice (Q g 0 I) s.p.m s.p.m))/\Ow w' w (txD s.p.m s.p.S) (.slice (Q g 0 I) s.p.m s.p.m) (fun x=>x=g)/\w.1.size<=g/\g<w'.1.size/\Ab w w w':=by
 obtain⟨A,HA⟩:=nmH w.1.size;obtain⟨D,HD⟩:=nmH (w.1.size+1);obtain⟨V,HV⟩:=nmH (w.1.size+1+1);obtain⟨w0,b0⟩:=nmH (((w.alloc (J (syC s (.slice an s.p.m cn)) 66)).alloc (J #[(),(),(),Zs,Zs,(),(),(),Zs,.slice I 0 0] 31)).alloc (J #[s.k,s.f,s.t,s.r,Zs,(),(),(),Zs,.slice I 0 0] 31));have RD:=xL b0 HD;have RV:=xR b0 HV;have f0:=bl3 b0;have e0:=hd f0;have HL:H (V≠D/\w.1.size<=D/\w.1.size<=V/\V<w0/\D<w0):=⟨by have:=HV.out;have:=HD.out;omega,by have:=HD.out;omega,by have:=HV.out;omega,RV.out.lt,RD.out.lt⟩;have KT:H _:=jGp s.p.r s.p.k s.p.n s.p.i s.p.b an s.p.m cn s.p.S w0 (h.below f0) hm;go_enter func86,ntmps86
 go_wp2_with fail
 rw[<-b0.out,<-HV.out,<-HD.out,<-HA.out];refine Ax KT.out ?_;rintro e w2 ⟨g,rfl,O2,b2⟩;have a0:=RV.below b2 RV.lt;have g0:=RD.below b2 RD.lt;have y4:=a0.cell 4;have f4:=a0.free 4;have y5:=a0.cell 5;have f5:=a0.free 5;have y6:=a0.cell 6;have f6:=a0.free 6;have y7:=a0.cell 7;have f7:=a0.free 7;have y8:=a0.cell 8;have f8:=a0.free 8;have y9:=a0.cell 9;have f9:=a0.free 9;simp at y4 y5 y6 y7 y8 y9;obtain⟨w3,d0⟩:=nmH (((((((w2.setCell (Q V 4 I) s.p.r).setCell (Q V 5 I) s.p.k).setCell (Q V 6 I) s.p.n).setCell (Q V 7 I) s.p.i).setCell (Q V 8 I) s.p.b).setCell (Q V 9 I) (.slice (Q g 0 I) s.p.m s.p.m)));have l2:=A0 O2 g rfl;have K3:H (Row w3 V 31 (syC s (.slice (Q g 0 I) s.p.m s.p.m))/\Row w3 D 31 #[(),(),(),Zs,Zs,(),(),(),Zs,.slice I 0 0]/\jI w3 w0 (Q g 0 I) s.p.m s.p.m s.p.S/\Ab w w w3):=by
  rw[d0.out];exact⟨(((((a0.set 4 _).set 5 _).set 6 _).set 7 _).set 8 _).set 9 _,(((((g0.other 4 _ (Ci HL.1)).other 5 _ (Ci HL.1)).other 6 _ (Ci HL.1)).other 7 _ (Ci HL.1)).other 8 _ (Ci HL.1)).other 9 _ (Ci HL.1),(((((O2.setFar HL.2.2.2.1).setFar HL.2.2.2.1).setFar HL.2.2.2.1).setFar HL.2.2.2.1).setFar HL.2.2.2.1).setFar HL.2.2.2.1,((((((jA e0 b2).setCell HL.2.2.1 _).setCell HL.2.2.1 _).setCell HL.2.2.1 _).setCell HL.2.2.1 _).setCell HL.2.2.1 _).setCell HL.2.2.1 _⟩
 obtain⟨w7,c0⟩:=nmH (w3.setRow D (syC s (.slice (Q g 0 I) s.p.m s.p.m)));have ZR:H (Row w7 D 31 (syC s (.slice (Q g 0 I) s.p.m s.p.m))):=by show Row _ _ _ _;rw[c0.out];exact K3.2.1.row
 have ZB:H (Ab w w w7):=by show Ab _ _ _;rw[c0.out];exact jG K3.2.2.2 HL.2.1 _
 have h0:=e0.size;have ZO:H (jI w7 w (Q g 0 I) s.p.m s.p.m s.p.S):=by
  show jI _ _ _ _ _ _;rw[c0.out];exact jL (jI.base K3.2.2.1 h0) (qR _ _ _) (fun x e=>by cases e;show g≠D;have:=l2.1;have:=HL.out.2.2.2.2;omega)
 have l7:=A0 ZO g rfl;have KL:=hd l7;go_wp2_with (first|(rw[<-d0.out];refine Bg rfl 31 _ rfl V rfl 31 (syC s (.slice (M ⟨g,0,I⟩) s.p.m s.p.m)) (0,0) _ ?_ Cd rfl Tryz.infoSy2 ?_;exact K3.1;clear y4 f4 y5 f5 y6 f6 y7 f7 y8 f8 y9 f9)|(refine Ca rfl 31 _ _ rfl D (syC s (.slice (M ⟨g,0,I⟩) s.p.m s.p.m)) rfl rfl 31 #[(),(),(),Zs,Zs,(),(),(),Zs,.slice I 0 0] ?_ Tryz.infoSy2 rfl (by simp[Aq]) ?_;exact K3.2.1;rw[<-c0.out]))
 exact B7 (v:=syV s (.slice (Q g 0 I) s.p.m s.p.m)) (Cs results86 _ _ D 31 _ (0,0) _ rfl ZR Cd rfl Tryz.infoSy2) rfl ⟨g,rfl,xP ZO (fun x e=>by cases e;rfl),KL.out.1,KL.out.2,ZB.out⟩
def syN:Sy:=⟨0,0,0,Ap,⟨Ap,0,0,0,Ap,0,fun _=>Ap⟩⟩
def zcY:List Aj:=[Ao Ar 0,Ao Ar 0,Ao Ar 0,Ag Ap,Ag Ap,Ao Ar 0,Ao Ar 0,Ao Ar 0,Ag Ap,V I 0 0]
theorem Tryz.infoSyZ:(Tryz.prog.info? 31).map (fun i=>(i.zero,i.size,i.bytes))=M (M (Ai zcY.toArray),10,120):=by kernel_rfl
theorem jOd (w:Ad) (B q:Nat) (hq:q<10):Ow w B (syD syN q) (zcY.getD q O) (fun _=>False):=by
 match q,hq with
 | 0,_|1,_|2,_|3,_|4,_|5,_|6,_|7,_|8,_=>rfl
 | 9,_=>exact Ow.nil _ _ _ _ _ _
theorem jKb {w:Ad} {B:Nat} {d:Sy} {v:Aj} {F:Nat->Prop} (h:Ow w B (txD d.p.m d.p.S) v F) (q:Nat) (hq:q<10):Ow w B (syD d q) ((syC d v).toList.getD q O) (fun x=>q=9/\F x):=by
 match q,hq with
 | 0,_|1,_|2,_|3,_|4,_|5,_|6,_|7,_|8,_=>rfl
 | 9,_=>exact Ow.mono h fun g hg=>⟨rfl,hg⟩
theorem jLj (a:OA) (n cap:Nat) (N:Nat->Sy) (w:Ad) (h:Rd w (qJ n N) (V a n cap)) (hn:n<=1048576) (hs:∀ i,i<n->(N i).p.m<=1048576):Ak prog 85 #[V a n cap] w fun e w'=>e=Ae (V (Q w 0 I) n n)/\Ow w' w (qJ n N) (V (Q w 0 I) n n) (rng w w'.1.size)/\Ab w w w':=by
 obtain⟨i0,hi,k0,m0,n0⟩:=Ch Tryz.infoSyZ;have KH:H (Rd w (qJ n N) (V a n cap)):=h;have HS:H (∀ i,i<n->(N i).p.m<=1048576):=hs;clear h hs;go_enter func85,ntmps85
 go_wp2_with (at_make;refine Cx _ rfl _ _ 34 rfl w 31 i0 (Ai zcY.toArray) 10 Dm hi k0 m0 Ar Ar _ _ n rfl rfl rfl rfl (by rw[n0];omega) (by unfold Au;omega) (Ay _) ?_;intro w1 a0 c0)
 have hb1:Ab w w w1:=(Az _ _).grown c0 (Ay _) (by simp);obtain⟨g,HG⟩:=nmH w.1.size;have ho1:Ow w1 w (.lst 31 10 n (fun i=>if i<0 then syD (N i) else syD syN)) (V g n n) (rng w w1.1.size):=by
  have e:(madeCells (Ai zcY.toArray).cells (n*10)).toList=cL 10 (fun _ q=>zcY.getD q O) n:=xS (zs:=zcY) (by simp[zcY]);rw[e] at a0;rw[HG.out];have:=XG (F:=rng w w1.1.size) a0 (fun q hq=>jOd w1 w q hq) ⟨Ay _,(A0 a0 _ rfl).2⟩
  exact this.congr (fun i q _ _=>by simp)
 have gB:g=w.1.size:=HG.out;rw[<-HG.out];have HB:H (w.1.size<=g):=by show _<=_;omega
 clear a0 c0 gB;go_loopw [4] (fun i wr=>∃ k:Nat,k<=n/\i=Ao Ar k/\Ow wr w (.lst 31 10 n (fun i=>if i<k then syD (N i) else syD syN)) (V g n n) (rng w wr.1.size)/\Ab w w wr) (fun i _=>n-(intOf i).toNat)
 case atStart=>exact⟨0,Bi _,rfl,ho1,hb1⟩
 case round=>
  obtain⟨c,hc,rfl,a0,b0⟩:=hrel;clear ho1 hb1;by_cases hlt:c<n
  .have o0:(c:Int)<(n:Int):=by omega
   obtain⟨b1,f1,an,cn,rfl,e0,g0⟩:=zY (KH.below b0) hlt;have KT:H _:=jGq (N c) an cn wr g0 (HS c hlt);have R1:H (wr.rangeAt b1 (f1+c*10) [Ao Ar (N c).k,Ao Ar (N c).f,Ao Ar (N c).t,Ag (N c).r,Ag (N c).p.r,Ao Ar (N c).p.k,Ao Ar (N c).p.n,Ao Ar (N c).p.i,Ag (N c).p.b,V an (N c).p.m cn]):=e0;have KO:H (Ow wr w (.lst 31 10 n (fun i=>if i<c then syD (N i) else syD syN)) (V g n n) (rng w wr.1.size)/\Ab w w wr):=⟨a0,b0⟩;have lg:g<wr.1.size:=by
    obtain⟨a',f0,c',G',e',d0,_⟩:=a0;cases e';exact(A0 d0 g rfl).2
   clear e0 g0 b0 a0;go_wp2_with (refine Bv rfl 66 _ rfl b1 (f1+c*10) rfl [Ao Ar (N c).k,Ao Ar (N c).f,Ao Ar (N c).t,Ag (N c).r,Ag (N c).p.r,Ao Ar (N c).p.k,Ao Ar (N c).p.n,Ao Ar (N c).p.i,Ag (N c).p.b,V an (N c).p.m cn] _ ?_ Ei rfl Tryz.infoSyL ?_;exact R1)
   refine Ax KT.out ?_;rintro e w2 ⟨gs,rfl,o2,p0,q0,b2⟩;have O2:=KO.1.below b2;have TH:H (w2.there g (c*10) 10):=by
    obtain⟨a',f0,c',G',e',d0,_⟩:=O2;cases e';intro j hj;refine⟨?_,B0 d0 _⟩;rw[Bt d0 _ (qM hlt hj),jT _ _ _ _ _ hlt hj];rfl
   have h0:=KO.2.size;have HO:H (Ow (w2.setCells g (c*10) (syC (N c) (V gs (N c).p.m (N c).p.m)).toList) w (.lst 31 10 n (fun i=>if i<c+1 then syD (N i) else syD syN)) (V g n n) (rng w (w2.setCells g (c*10) (syC (N c) (V gs (N c).p.m (N c).p.m)).toList).1.size)):=by
    rw[jO];refine Ow.congr (Ow.store (d:=syD (N c)) O2 hlt rfl (fun q hq=>jKb (o2.base h0) q hq) ?_ ?_ ?_ ?_) ?_
    .intro q x _ hx hf;have h2:=hf.2;have h3:=hx.2;omega
    .intro q q' x _ _ hx j0;exact hx.1.trans j0.1.symm
    .intro x hx;have:=b2.size
     exact⟨hx.1,by have:=hx.2;omega⟩
    .intro q x _ hx;have h3:=hx.2;exact⟨by omega,by omega⟩
    .intro i q _ _;by_cases e:i=c
     .subst e;simp
     .by_cases e2:i<c
      .simp[e,e2,show i<c+1 by omega]
      .simp[e,e2,show ¬ i<c+1 by omega]
   have HBe:H (Ab w w (w2.setCells g (c*10) (syC (N c) (V gs (N c).p.m (N c).p.m)).toList)):=jP (jA KO.2 b2) HB _ _;clear O2 b2 o2 KT R1 KO;go_wp2_with (refine Dd rfl 31 _ _ rfl g (c*10) (syC (N c) (V gs (N c).p.m (N c).p.m)) rfl rfl ?_ Tryz.infoSy2 (by simp[Aq]) ?_;exact TH)
   go_roundw
   case rel=>exact⟨c+1,by omega,by go_num,HO.out,HBe.out⟩
   case measure=>simp[intOf];omega
  .obtain rfl:c=n:=by omega
   have HO:H (Ow wr w (qJ c N) (V g c c) (rng w wr.1.size)):=a0.congr (fun i q hi _=>by simp[hi]);clear a0;go_wp2
   go_ret
   exact⟨by rw[<-HG.out];rfl,by rw[<-HG.out];rw[HG.out];have:=HO.out;rw[HG.out] at this;exact this,b0⟩
structure jNp (w:Ad) (a:OA) (n c:Nat) (l:OA) (zs:List Int) (e:OA) (m g:Nat) (N:Nat->Nd) (Y:Nat->Sy):Prop where
 rn:Rd w (qS n N) (V a n c)
 rl:jH w l zs.length zs
 ry:Rd w (qJ m Y) (V e m g)
 hn:n<=Au
 hl:zs.length<=Au
 hm:m<=Au
 bn:∀ i,i<n->NdB (N i)
 by':∀ i,i<m->SyB (Y i)
abbrev ntV (f:Int) (v1 v2 v3:Aj):Aj:=Ai #[f,v1,v2,v3]
theorem jJi {α:Type} (l:List α) (h:l.length=4):∃ c0 c1 c2 c3,l=[c0,c1,c2,c3]:=by
 match l,h with
 | [c0,c1,c2,c3],_=>exact⟨c0,c1,c2,c3,rfl⟩
theorem jRc {α:Type} (l:List α) (h:l.length=5):∃ c0 c1 c2 c3 c4,l=[c0,c1,c2,c3,c4]:=by
 match l,h with
 | [c0,c1,c2,c3,c4],_=>exact⟨c0,c1,c2,c3,c4,rfl⟩
theorem jN0 {α:Type} (l:List α) (h:l.length=10):∃ c0 c1 c2 c3 c4 c5 c6 c7 c8 c9,l=[c0,c1,c2,c3,c4,c5,c6,c7,c8,c9]:=by
 match l,h with
 | [c0,c1,c2,c3,c4,c5,c6,c7,c8,c9],_=>exact⟨c0,c1,c2,c3,c4,c5,c6,c7,c8,c9,rfl⟩
section
variable {H:Type} {enc:TypeId×Value->H} {w:World} {base:Nat} {spare:Nat->Bool} {held:Bool}
theorem jMk {a0:Nat} {cs:List Aj} {x:DataW H×List MemPlace} (h:DataW.trod enc prog w base spare held a0 66 cs=some x):∃ s:Sy,cs.length=10/\(∀ q,q<10->Rd w (syD s q) (cs.getD q undef))/\SyB s:=by
 have A:Tryz.prog.cellsOf 66=10:=by kernel_rfl
 have J:Tryz.prog.cellsOf 64=6:=by kernel_rfl
 have C:Tryz.prog.cellsOf 9=1:=by kernel_rfl
 have B:Tryz.prog.cellsOf 3=1:=by kernel_rfl
 obtain⟨xs,f,_,_,hl,j,hf⟩:=Ey Ei h;rw[A] at hl;obtain⟨c0,c1,c2,c3,c4,c5,c6,c7,c8,c9,rfl⟩:=jN0 cs hl;obtain⟨y0,y1,y2,y3,y4,rfl⟩:=jRc xs j;have R:=hf 0 _ rfl;have L:=hf 1 _ rfl;have W:=hf 2 _ rfl;have Z:=hf 3 _ rfl;have K:=hf 4 _ rfl;simp[C,J,B] at R L W Z K;obtain⟨k,e0,_,_⟩:=Dr Db R;obtain⟨ff,M,_,_⟩:=Dr Db L;obtain⟨tt,e2,_,_⟩:=Dr Db W;obtain⟨r,O,_,hr⟩:=Fk C6 Z;obtain⟨pr,pk,pn,pi,pb,pa,pm,pc,pS,X,_,u,G,D⟩:=XF K;simp at e0 M e2 O X;obtain⟨rfl,rfl,rfl,rfl,rfl,rfl⟩:=X;subst e0 M e2 O;refine⟨⟨k,ff,tt,r,⟨pr,pk,pn,pi,pb,pm,pS⟩⟩,rfl,fun q hq=>?_,⟨hr,u,G,D.2.1,D.2.2⟩⟩;match q,hq with
 | 0,_|1,_|2,_|3,_|4,_|5,_|6,_|7,_|8,_=>rfl
 | 9,_=>exact zW.2 D.1
theorem jHo {a0:Nat} {cs:List Aj} {x:DataW H×List MemPlace} (h:DataW.trod enc prog w base spare held a0 190 cs=M x):∃ d:Nd,cs.length=3/\(∀ q,q<3->Rd w (ndD d q) (cs.getD q O))/\NdB d:=by
 obtain⟨id,f,a,n,c,S,rfl,h1,h2,u⟩:=jJ5 h;refine⟨⟨id,f,n,S⟩,rfl,fun q j=>?_,⟨h2,u⟩⟩;match q,j with
 | 0,_|1,_=>rfl
 | 2,_=>exact h1
theorem jGl {T e:Nat} {a0:Nat} {v:Aj} {x:DataW H×List MemPlace} (q:Tryz.prog.underlying T=M (.slice e)) (h:DataW.trod enc prog w base spare held a0 T [v]=M x):∃ a n c,v=V a n c:=by
 rcases Go.Deep.open_slice q h with ⟨j,_⟩|⟨ad,len,cap,m,A,D',u,j,_⟩
 .simp at j;exact⟨I,0,0,j⟩
 .simp at j;exact⟨M ad,len,cap,j⟩
theorem jMj {a0:Nat} {cs:List Aj} {x:DataW H×List MemPlace} (h:DataW.trod enc prog w base spare held a0 63 cs=some x):∃ (f:Int) (a:OA) (n c:Nat) (l:OA) (zs:List Int) (d:Nat) (e:OA) (m g:Nat) (N:Nat->Nd) (Y:Nat->Sy),cs=[Ao Ar f,V a n c,V l zs.length d,V e m g]/\jNp w a n c l zs e m g N Y:=by
 have W:Tryz.prog.cellsOf 63=4:=by kernel_rfl
 have B:Tryz.prog.cellsOf 3=1:=by kernel_rfl
 have D:Tryz.prog.cellsOf 60=1:=by kernel_rfl
 have u:Tryz.prog.cellsOf 40=1:=by kernel_rfl
 have A:Tryz.prog.cellsOf 61=1:=by kernel_rfl
 obtain⟨xs,ff,_,_,hl,j,hf⟩:=Ey Eh h;rw[W] at hl;obtain⟨c0,c1,c2,c3,rfl⟩:=jJi cs hl;obtain⟨y0,y1,y2,y3,rfl⟩:=jJi xs j;have G:=hf 0 _ rfl;have q:=hf 1 _ rfl;have J:=hf 2 _ rfl;have C:=hf 3 _ rfl;simp[B,D,u,A] at G q J C;obtain⟨f,e0,_,_⟩:=Dr Db G;simp at e0;subst e0;obtain⟨a,n,c,rfl⟩:=jGl underlying60 q;obtain⟨l,zs,d,rfl,X,O⟩:=zV J;obtain⟨e,m,g,rfl⟩:=jGl underlying61 C;obtain⟨N,K,M,n3⟩:=jAb ndN 26 ndD NdB underlying60 (by kernel_rfl) (by omega) jHo q;obtain⟨Y,L,Z,R⟩:=jAb syN 31 syD SyB underlying61 (by kernel_rfl) (by omega) jMk C;exact⟨f,a,n,c,l,zs,d,e,m,g,N,Y,rfl,⟨K,X,L,M,O,Z,n3,R⟩⟩
end
def wtT (n:Nat) (N:Nat->Nd) (zs:List Int) (m:Nat) (Y:Nat->Sy):Nat:=jIe n N+zs.length+jGy m Y
theorem jNc (f:Int) (a:OA) (n c:Nat) (l:OA) (zs:List Int) (d:Nat) (e:OA) (m g:Nat) (N:Nat->Nd) (Y:Nat->Sy) (lf:Nat) (w:Ad) (h:jNp w a n c l zs e m g N Y) (a1:lf<=1048576):CB 26 #[Ai #[f,V a n c,V l zs.length d,V e m g],(lf:Int)] w (szN lf (wtT n N zs m Y)):=by
 obtain⟨A,HA⟩:=nmH w.1.size;obtain⟨O,j⟩:=nmH (w.alloc (.cells #[f,V a n c,V l zs.length d,V e m g] 63));have RA:=jZ j HA;have J:=bl1 j;have D:=hd J;have L:=hd (jLb a n c N lf O (h.rn.below J) a1 h.hn h.bn);have K2:Hid (∀ (q:Nat) W,q<=1048576->CS 80 #[V l zs.length d,(q:Int)] W (szN q zs.length)):=fun q W hq=>jFf l _ d q W h.hl hq
 have K3:Hid (∀ (q:Nat) W,q<=1048576->Ab O O W->CB 81 #[V e m g,(q:Int)] W (szN q (jGy m Y))):=fun q W hq hW=>jLe e m g Y q W ((h.ry.below J).below hW) hq h.hm h.by'
 obtain⟨x1,Z⟩:=nnH (jIe n N);obtain⟨x2,C⟩:=nnH zs.length;obtain⟨x3,a0⟩:=nnH (jGy m Y);have a4:Hid (wtT n N zs m Y=x1+x2+x3):=by show _=_;unfold wtT;rw[Z.out,C.out,a0.out]
 rw[a4.out];rw[Z.out] at L;rw[C.out] at K2 RA;rw[a0.out] at K3;rw[C.out];rw[C.out] at j;by_cases h1:x1<=lf
 case neg=>
  rw[qD h1] at L;rw[qD (by omega)];go_enter func26,ntmps26
  go_wp2_with fail
  rw[<-j.out,<-HA.out];refine Ax L.out ?_;rintro M w1 ⟨rfl,G⟩;go_wp2
  go_ret
  exact⟨rfl,jA D G⟩
 obtain⟨l1,R⟩:=nnH (lf-x1);rw[qF h1,R.out] at L;have a6:=R.out;have n1:¬ ((l1:Int)<0):=by omega
 have B:Hid _:=fun W=>K2 l1 W (by omega)
 by_cases h2:x2<=l1
 case neg=>
  rw[qD (by omega)];simp only[qD h2] at B;go_enter func26,ntmps26
  go_wp2_with fail
  rw[<-j.out,<-HA.out];refine Ax L.out ?_;rintro M w1 ⟨rfl,G⟩;have R1:=RA.below G RA.lt;have y2:=R1.cell 2;simp at y2;have u:=hd (jA D G);go_wp2_with fail
  refine Ax (B _) ?_;rintro M w2 ⟨rfl,hw⟩;obtain rfl:=hw.symm;go_wp2
  go_ret
  exact⟨rfl,u⟩
 obtain⟨l2,X⟩:=nnH (l1-x2);simp only[qF h2,X.out] at B;have a5:=X.out;have n2:¬ ((l2:Int)<0):=by omega
 obtain⟨K,H⟩:=nnH (szN l2 x3);have HF:Hid (szN lf (x1+x2+x3)=K):=by
  show _=_;rw[<-H.out];by_cases h3:x3<=l2
  .rw[qF h3,qF (by omega)];congr 1;omega
  .rw[qD h3,qD (by omega)]
 have a3:Hid (∀ W,Ab O O W->CB 81 #[V e m g,(l2:Int)] W K):=fun W hW=>by have:=K3 l2 W (by omega) hW;rw[H.out] at this;exact this
 rw[HF.out];have a2:Hid (K<0->K = -1):=by
  show K<0->_;rw[<-H.out];by_cases h3:x3<=l2
  .rw[qF h3];intro hh;omega
  .rw[qD h3];intro _;rfl
 by_cases h3:K<0
 have e3:=a2 h3;subst e3;go_enter func26,ntmps26
 rotate_left;go_enter func26,ntmps26
 rotate_left;all_goals
  go_wp2_with fail
  rw[<-j.out,<-HA.out];refine Ax L.out ?_;rintro M w1 ⟨rfl,G⟩;have R1:=RA.below G RA.lt;have y2:=R1.cell 2;have y3:=R1.cell 3;simp at y2 y3;have u:=hd G;go_wp2_with fail
  refine Ax (B _) ?_;rintro M w2 ⟨rfl,hw⟩;obtain rfl:=hw.symm;go_wp2_with fail
  refine Ax (a3 _ u) ?_;rintro M w3 ⟨rfl,b3⟩;go_wp2
  go_ret
  exact⟨rfl,jA D (jA u b3)⟩
theorem jCv (f:Int) (a b:OA) (n R M:Nat) (l k:OA) (zs:List Int) (O L:Nat) (e q:OA) (m C J:Nat) (N:Nat->Nd) (Y:Nat->Sy) (w:Ad) (h1:Rd w (qS n N) (V a n R)) (h2:Rd w (qS n N) (V b n M)) (h3:jH w l zs.length zs) (h4:jH w k zs.length zs) (h5:Rd w (qJ m Y) (V e m C)) (h6:Rd w (qJ m Y) (V q m J)) (hn:n<=1048576) (hN:∀ i,i<n->NdS (N i)) (hz:zs.length<=1048576) (hm:m<=1048576) (hY:∀ i,i<m->(Y i).p.m<=1048576):CB 30 #[ntV f (V a n R) (V l zs.length O) (V e m C),ntV f (V b n M) (V k zs.length L) (V q m J)] w Aw:=by
 obtain⟨A,HA⟩:=nmH w.1.size;obtain⟨D,HD⟩:=nmH (w.1.size+1);obtain⟨H,u⟩:=nmH ((w.alloc (.cells #[f,V a n R,V l zs.length O,V e m C] 48)).alloc (.cells #[f,V b n M,V k zs.length L,V q m J] 48));have RA:=zP u HA;have RD:=JO u HD;have j:=bl2 u;have a0:=hd j;have K1:Hid _:=jG6 a b n R M N H (h1.below j) (h2.below j) hn hN;have K2:Hid (∀ W,Ab H H W->Ak prog 88 #[V l zs.length O,V k zs.length L] W _):=fun W B=>JT l k zs.length O L zs W ((h3.below j).below B) ((h4.below j).below B) hz
 have K3:Hid (∀ W,Ab H H W->Ak prog 89 #[V e m C,V q m J] W _):=fun W B=>jG8 e q m C J Y W ((h5.below j).below B) ((h6.below j).below B) hm hY
 have a1:(f !=f)=Av:=by simp
 go_enter func30,ntmps30
 go_wp2_with fail
 rw[<-u.out,<-HD.out,<-HA.out];refine Ax K1.out ?_;rintro e' w1 ⟨rfl,b1⟩;have R1:=RA.below b1 RA.lt;have S1:=RD.below b1 RD.lt;have x2:=R1.cell 2;have Z:=R1.cell 3;have y2:=S1.cell 2;have X:=S1.cell 3;simp at x2 Z y2 X;have G:=hd b1;go_wp2_with fail
 refine Ax (K2 _ G) ?_;rintro e' w2 ⟨rfl,b2⟩;replace Z:=(b2.cell (p:=Q A 3 I) (A7 Z)).trans Z
 replace X:=(b2.cell (p:=Q D 3 I) (A7 X)).trans X
 have K:=hd (jA G b2);go_wp2_with fail
 refine Ax (K3 _ K) ?_;rintro e' w3 ⟨rfl,b3⟩;go_wp2
 go_ret
 exact⟨rfl,jA a0 (jA K b3)⟩
theorem Ow.apart {w:Ad} {B:Nat} {d:Dt} {v:Aj} {F:Nat->Prop} (h:Ow w B d v F) {g:Nat} (o:Nat) (x:Aj) (hn:¬ F g):Ow (w.setCell (Q g o I) x) B d v F:=
 h.turned (Trn.set w o x (F:=fun y=>y=g) rfl) (fun _ j e=>hn (e▸j))
theorem Tryz.infoNt:(Tryz.prog.info? 48).map (·.size)=M 4:=by kernel_rfl
theorem jQf (a:OA) (cap:Nat) (zs:List Int) (w:Ad) (h:jH w a zs.length zs) (hn:zs.length<=1048576):Ak prog 84 #[V a zs.length cap] w fun e w'=>∃ g,e=Ae (V (Q g 0 I) zs.length zs.length)/\Ow w' w (inD zs) (V (Q g 0 I) zs.length zs.length) (rng w w'.1.size)/\Ab w w w':=by
 refine(XL a zs.length cap zs w h hn).mono ?_;rintro e w' ⟨rfl,j,hb⟩;have l:=A0 j w rfl;exact⟨_,rfl,vT j (fun x e=>by cases e;exact l),hb⟩
theorem jNi (f:Int) (a:OA) (n c:Nat) (l:OA) (zs:List Int) (d:Nat) (e:OA) (m g:Nat) (N:Nat->Nd) (Y:Nat->Sy) (w:Ad) (h:jNp w a n c l zs e m g N Y) (hn:n<=1048576) (hN:∀ i,i<n->NdS (N i)) (hz:zs.length<=1048576) (hm:m<=1048576) (hY:∀ i,i<m->(Y i).p.m<=1048576):Ak prog 28 #[Ai #[f,.slice a n c,.slice l zs.length d,.slice e m g]] w fun r w'=>∃ j u B,r=Ae (ntV f (.slice (Q j 0 I) n n) (.slice (Q u 0 I) zs.length zs.length) (.slice (Q B 0 I) m m))/\∃ (F1 R F3:Nat->Prop),Ow w' w (qS n N) (.slice (Q j 0 I) n n) F1/\Ow w' w (inD zs) (.slice (Q u 0 I) zs.length zs.length) R/\Ow w' w (qJ m Y) (.slice (Q B 0 I) m m) F3/\(∀ x,F1 x->¬ R x)/\(∀ x,F1 x->¬ F3 x)/\(∀ x,R x->¬ F3 x)/\Ab w w w':=by
 obtain⟨A,HA⟩:=nmH w.1.size;obtain⟨D,HD⟩:=nmH (w.1.size+1);obtain⟨V,HV⟩:=nmH (w.1.size+1+1);obtain⟨w0,G⟩:=nmH (((w.alloc (.cells #[f,.slice a n c,.slice l zs.length d,.slice e m g] 63)).alloc (.cells #[(),.slice I 0 0,.slice I 0 0,.slice I 0 0] 48)).alloc (.cells #[f,.slice I 0 0,.slice I 0 0,.slice I 0 0] 48));have RA:=zD G HA;have RD:=xL G HD;have RV:=xR G HV;have a7:=bl3 G;have a9:=hd a7;have q:Hid (V≠D/\V≠A/\w.1.size<=D/\w.1.size<=V/\V<w0/\D<w0):=⟨by have:=HV.out;have:=HD.out;omega,by have:=HV.out;have:=HA.out;omega,by have:=HD.out;omega,by have:=HV.out;omega,RV.out.lt,RD.out.lt⟩;have K1:Hid _:=jLh a n c N w0 (h.rn.below a7) hn hN;have K2:Hid (∀ W,Ab w w W->Ak prog 84 #[.slice l zs.length d] W _):=fun W hW=>jQf l d zs W (h.rl.below hW) hz
 have K3:Hid (∀ W,Ab w w W->Ak prog 85 #[.slice e m g] W _):=fun W hW=>jLj e m g Y W (h.ry.below hW) hm hY
 go_enter func28,ntmps28
 go_wp2_with fail
 rw[<-G.out,<-HV.out,<-HD.out,<-HA.out];refine Ax K1.out ?_;rintro e' w1 ⟨rfl,O1,b1⟩;obtain⟨j,M⟩:=nmH w0.1.size;rw[<-M.out];obtain⟨L,a0⟩:=nmH (w1.setCell (Q V 1 I) (.slice (Q j 0 I) n n));have a5:=RA.below b1 RA.lt;have Z:=RV.below b1 RV.lt;have b6:=RD.below b1 RD.lt;have y1:=Z.cell 1;have f1:=Z.free 1;have q2:=a5.cell 2;simp at y1 q2;have c4:=q.2.1;have c0:¬ A=V:=fun e=>q.2.1 e.symm
 have S2:L.1.size=w1.1.size:=by rw[a0.out];simp
 have b9:=b1.size;have H:Hid (Row L A 63 #[f,.slice a n c,.slice l zs.length d,.slice e m g]/\Row L V 48 #[f,.slice (Q j 0 I) n n,.slice I 0 0,.slice I 0 0]/\Row L D 48 #[(),.slice I 0 0,.slice I 0 0,.slice I 0 0]/\Ow L w (qS n N) (.slice (Q j 0 I) n n) (rng w0 w1.1.size)/\Ab w w L):=by
  rw[a0.out];refine⟨a5.other 1 _ (Ci q.2.1),Z.set 1 _,b6.other 1 _ (Ci q.1),?_,(jA a9 b1).setCell q.2.2.2.1 _⟩;have:=O1.base a9.size
  rw[<-M.out] at this;rw[<-M.out];exact this.apart 1 _ (fun k=>by have:=k.1;have:=q.2.2.2.2.1;have:=M.out;omega)
 have b7:Hid _:=K2 L H.2.2.2.2;go_wp2_with (fail)
 rw[<-a0.out];refine Ax b7.out ?_;rintro e' w3 ⟨u,rfl,O3,b3⟩;obtain⟨K,a4⟩:=nmH (w3.setCell (Q V 2 I) (.slice (Q u 0 I) zs.length zs.length));have a8:=H.1.below b3 H.1.lt;have a1:=H.2.1.below b3 H.2.1.lt;have b2:=H.2.2.1.below b3 H.2.2.1.lt;have y2:=a1.cell 2;have f2:=a1.free 2;have q3:=a8.cell 3;simp at y2 q3;have c1:=H.2.1.lt;have C:Hid (Row K A 63 #[f,.slice a n c,.slice l zs.length d,.slice e m g]/\Row K V 48 #[f,.slice (Q j 0 I) n n,.slice (Q u 0 I) zs.length zs.length,.slice I 0 0]/\Row K D 48 #[(),.slice I 0 0,.slice I 0 0,.slice I 0 0]/\Ow K w (qS n N) (.slice (Q j 0 I) n n) (rng w0 w1.1.size)/\Ow K w (inD zs) (.slice (Q u 0 I) zs.length zs.length) (rng L w3.1.size)/\Ab w w K):=by
  rw[a4.out];exact⟨a8.other 2 _ (Ci q.2.1),a1.set 2 _,b2.other 2 _ (Ci q.1),(H.2.2.2.1.below b3).apart 2 _ (fun k=>by have:=k.1;have:=q.2.2.2.2.1;omega),(O3.base H.out.2.2.2.2.size).apart 2 _ (fun k=>by have:=k.1;omega),(jA H.out.2.2.2.2 b3).setCell q.out.2.2.2.1 _⟩
 have S4:K.1.size=w3.1.size:=by rw[a4.out];simp
 have b4:Hid _:=K3 K C.2.2.2.2.2;have c9:=b3.size;go_wp2_with (fail)
 rw[<-a4.out];refine Ax b4.out ?_;rintro e' w5 ⟨rfl,O5,b5⟩;obtain⟨B,O⟩:=nmH K.1.size;rw[<-O.out];obtain⟨X,a6⟩:=nmH (w5.setCell (Q V 3 I) (.slice (Q B 0 I) m m));have a2:=C.2.1.below b5 C.2.1.lt;have b0:=C.2.2.1.below b5 C.2.2.1.lt;have y3:=a2.cell 3;have f3:=a2.free 3;simp at y3;have b8:=C.2.1.lt;have c7:=C.2.2.1.lt;have J6:Hid (Row X V 48 #[f,.slice (Q j 0 I) n n,.slice (Q u 0 I) zs.length zs.length,.slice (Q B 0 I) m m]/\Row X D 48 #[(),.slice I 0 0,.slice I 0 0,.slice I 0 0]/\Ow X w (qS n N) (.slice (Q j 0 I) n n) (rng w0 w1.1.size)/\Ow X w (inD zs) (.slice (Q u 0 I) zs.length zs.length) (rng L w3.1.size)/\Ow X w (qJ m Y) (.slice (Q B 0 I) m m) (rng K w5.1.size)/\Ab w w X):=by
  rw[a6.out];refine⟨a2.set 3 _,b0.other 3 _ (Ci q.1),(C.2.2.2.1.below b5).apart 3 _ (fun k=>by have:=k.1;have:=q.2.2.2.2.1;omega),(C.out.2.2.2.2.1.below b5).apart 3 _ (fun k=>by have:=k.1;omega),?_,(jA C.out.2.2.2.2.2 b5).setCell q.out.2.2.2.1 _⟩;have:=O5.base C.2.2.2.2.2.size
  rw[<-O.out] at this;rw[<-O.out];exact this.apart 3 _ (fun k=>by have:=k.1;have:=O.out;omega)
 obtain⟨w7,a3⟩:=nmH (X.setRow D #[f,.slice (Q j 0 I) n n,.slice (Q u 0 I) zs.length zs.length,.slice (Q B 0 I) m m]);have ZR:Hid (Row w7 D 48 #[f,.slice (Q j 0 I) n n,.slice (Q u 0 I) zs.length zs.length,.slice (Q B 0 I) m m]):=by show Row _ _ _ _;rw[a3.out];exact J6.2.1.row
 have ZF:Hid (∃ (F1 R F3:Nat->Prop),Ow w7 w (qS n N) (.slice (Q j 0 I) n n) F1/\Ow w7 w (inD zs) (.slice (Q u 0 I) zs.length zs.length) R/\Ow w7 w (qJ m Y) (.slice (Q B 0 I) m m) F3/\(∀ x,F1 x->¬ R x)/\(∀ x,F1 x->¬ F3 x)/\(∀ x,R x->¬ F3 x)/\Ab w w w7):=by
  rw[a3.out];have hD:=q.2.2.2.2.2;refine⟨_,_,_,J6.2.2.1.frame fun x J _=>Cj _ _ _ _ (fun e=>by have:=J.1;omega),J6.out.2.2.2.1.frame fun x J _=>Cj _ _ _ _ (fun e=>by have:=J.1;omega),J6.out.2.2.2.2.1.frame fun x J _=>Cj _ _ _ _ (fun e=>by have:=J.1;omega),fun x J hy=>?_,fun x J hy=>?_,fun x J hy=>?_,jG J6.2.2.2.2.2 q.2.2.1 _⟩
  .have:=J.2;have:=hy.1;omega
  .have:=J.2;have:=hy.1;omega
  .have:=J.2;have:=hy.1;omega
 go_wp2_with (first|(rw[<-a6.out];refine Bg rfl 48 _ rfl V rfl 48 #[f,.slice (some ⟨j,0,I⟩) n n,.slice (some ⟨u,0,I⟩) zs.length zs.length,.slice (some ⟨B,0,I⟩) m m] (0,0) _ ?_ Bu rfl Tryz.infoNt ?_;exact J6.1;clear y3 f3)|(refine Ca rfl 48 _ _ rfl D #[f,.slice (some ⟨j,0,I⟩) n n,.slice (some ⟨u,0,I⟩) zs.length zs.length,.slice (some ⟨B,0,I⟩) m m] rfl rfl 48 #[(),.slice I 0 0,.slice I 0 0,.slice I 0 0] ?_ Tryz.infoNt rfl (by simp[Aq]) ?_;exact J6.2.1;rw[<-a3.out]))
 exact B7 (v:=ntV f (.slice (Q j 0 I) n n) (.slice (Q u 0 I) zs.length zs.length) (.slice (Q B 0 I) m m)) (Cs results28 _ _ D 48 _ (0,0) _ rfl ZR Bu rfl Tryz.infoNt) rfl ⟨j,u,B,rfl,ZF⟩
end Go.Proofs.YtcaejlalnjnifaaGreat
namespace Go.Proofs.YtcaejlalnjnifaaGreat
variable {H:Type} {enc:TypeId×Value->H} {w:World} {base:Nat} {spare:Nat->Bool} {held:Bool}
theorem jJ6 {a0:Nat} {cs:List Aj} {x:DataW H×List MemPlace} (h:DataW.trod enc prog w base spare held a0 66 cs=M x):∃ (y:Sy) (a:OA) (c:Nat),cs=(syC y (V a y.p.m c)).toList/\jK w a y.p.m y.p.S/\SyB y:=by
 have d0:Tryz.prog.cellsOf 66=10:=by kernel_rfl
 have h0:Tryz.prog.cellsOf 64=6:=by kernel_rfl
 have i0:Tryz.prog.cellsOf 9=1:=by kernel_rfl
 have f0:Tryz.prog.cellsOf 3=1:=by kernel_rfl
 obtain⟨xs,f,_,_,hl,b0,hf⟩:=Ey Ei h;rw[d0] at hl;obtain⟨c0,c1,c2,c3,c4,c5,c6,c7,c8,c9,rfl⟩:=jN0 cs hl;obtain⟨y0,y1,y2,y3,y4,rfl⟩:=jRc xs b0;have g0:=hf 0 _ rfl;have g1:=hf 1 _ rfl;have g2:=hf 2 _ rfl;have g3:=hf 3 _ rfl;have g4:=hf 4 _ rfl;simp[i0,h0,f0] at g0 g1 g2 g3 g4;obtain⟨k,e0,_,_⟩:=Dr Db g0;obtain⟨ff,e1,_,_⟩:=Dr Db g1;obtain⟨tt,e2,_,_⟩:=Dr Db g2;obtain⟨r,e3,_,hr⟩:=Fk C6 g3;obtain⟨pr,pk,pn,pi,pb,pa,pm,pc,pS,e4,_,k0,j0,ht⟩:=XF g4;simp at e0 e1 e2 e3 e4;obtain⟨rfl,rfl,rfl,rfl,rfl,rfl⟩:=e4;subst e0 e1 e2 e3;exact⟨⟨k,ff,tt,r,⟨pr,pk,pn,pi,pb,pm,pS⟩⟩,pa,pc,rfl,ht.1,⟨hr,k0,j0,ht.2.1,ht.2.2⟩⟩
end Go.Proofs.YtcaejlalnjnifaaGreat
namespace Go.Proofs.YtcaejlalnjnifaaGreat
open Go.ChangeShapes Go.WideShapes Go.ChangeAt Go.RowKit Go.Sort
noncomputable def liB (f:Int) (zs:List Int):Bool:=decide ((zs.length:Int)<=f)&&JH f zs
theorem jCo (f:Int) (a:OA) (cap:Nat) (zs:List Int) (w:Ad) (h:jH w a zs.length zs) (hf:1<=f/\f<=3) (hn:zs.length<=1048576):CB 73 #[V a zs.length cap,f] w (liB f zs):=by
 have KA:H _:=zQ 0 f (V I 0 0) a zs.length cap zs w h hf hn;obtain⟨n,HN⟩:=nnH zs.length;unfold liB;rw[HN.out] at KA |-;by_cases hl:(n:Int)<=f
 .rw[Bf hl,Gy];go_enter func73,ntmps73
  go_wp2_with fail
  refine Ax KA.out ?_;rintro e w1 ⟨rfl,b1⟩;go_wp2
  go_ret
  exact⟨rfl,b1⟩
 .rw[Bh hl,Bool.false_and];go_enter func73,ntmps73
  go_wp2
  go_ret
  exact⟨rfl,Az _ _⟩
def seD (d:Nd) (i:Nat) (f:Int):Nat->Dt
 | 0=>.val (Ao Ar d.i)
 | 1=>.val (Ao Ar d.f)
 | 2=>qG d.n d.S
 | 3=>.val (Ao Ar (i:Int))
 | _=>.val (Ao Ar f)
def jR8 (n:Nat) (N:Nat->Nd) (f:Int):Dt:=.lst 124 5 n fun i=>seD (N i) i f
def zcE:List Aj:=[Ao Ar 0,Ao Ar 0,V I 0 0,Ao Ar 0,Ao Ar 0]
theorem Tryz.infoSeZ:(Tryz.prog.info? 124).map (fun i=>(i.zero,i.size,i.bytes))=M (M (Ai zcE.toArray),5,56):=by kernel_rfl
theorem Tryz.infoSe:(Tryz.prog.info? 124).map (·.size)=M 5:=by kernel_rfl
theorem jK3 (f:Int) (a:OA) (n c:Nat) (v2 v3:Aj) (N:Nat->Nd) (w:Ad) (h:Rd w (qS n N) (V a n c)) (hn:n<=1048576):Ak prog 74 #[ntV f (V a n c) v2 v3] w fun e w'=>∃ g,e=Ae (V (Q g 0 I) n n)/\Rd w' (jR8 n N f) (V (Q g 0 I) n n)/\Ab w w w':=by
 obtain⟨i0,hi,q0,r0,s0⟩:=Ch Tryz.infoSeZ;obtain⟨A,HA⟩:=nmH w.1.size;obtain⟨w0,g0⟩:=nmH (w.alloc (J #[f,V a n c,v2,v3] 48));have RA:=jZ g0 HA;have j0:=bl1 g0;have p0:=hd j0;have KH:=hd (h.below j0);obtain⟨g,HG⟩:=nmH w0.1.size;have x1:=RA.cell 1;simp at x1;clear h j0;go_enter func74,ntmps74
 go_wp2_with (at_make;rw[<-g0.out,<-HA.out];refine Cx _ rfl _ _ 119 rfl w0 124 i0 (Ai zcE.toArray) 5 underlying119 hi q0 r0 Ar Ar _ _ n rfl rfl rfl rfl (by rw[s0];omega) (by unfold Au;omega) (Ay _) ?_;intro w1 c0 b0;have hb1:Ab w0 w0 w1:=(Az _ _).grown b0 (Ay _) (by simp);have y1:=(hb1.cell (p:=Q A 1 I) RA.lt).trans x1)
 have n0:w1.ownsRow w0 124 5 (V (Q g 0 I) n n) n (cL 5 (fun _ q=>zcE.getD q O) n):=by
  have e:(madeCells (Ai zcE.toArray).cells (n*5)).toList=cL 5 (fun _ q=>zcE.getD q O) n:=xS (zs:=zcE) (by simp[zcE]);rw[e] at c0;rw[HG.out];exact c0
 rw[<-HG.out];have KO1:=hd n0;clear c0 b0 n0;go_loopw [13] (fun vi wr=>∃ k:Nat,k<=n/\vi=Ao Ar (k:Int)/\H (∃ y,wr.ownsRow w0 124 5 (V (Q g 0 I) n n) n (cL 5 y n)/\∀ i,i<k->∀ q,q<5->Rd w0 (seD (N i) i f q) (y i q))/\Ab w0 w0 wr) (fun vi _=>n-(intOf vi).toNat)
 case atStart=>exact⟨0,Bi _,rfl,⟨_,KO1,fun i hi=>Bo hi (Bk _)⟩,hb1⟩
 case round=>
  obtain⟨k,hk,rfl,HY,a0⟩:=hrel;clear KO1 hb1 y1 x1;by_cases hlt:k<n
  .have t0:(k:Int)<(n:Int):=by omega
   obtain⟨b1,f1,an,cn,rfl,_,R0,o0⟩:=zH KH hlt;have R1:H (wr.rangeAt b1 (f1+k*3) [Ao Ar (N k).i,Ao Ar (N k).f,V an (N k).n cn]):=fun j v hv=>(a0.cell (A7 (R0 j v hv))).trans (R0 j v hv)
   obtain⟨w2,k0⟩:=nmH (wr.alloc (J #[Ao Ar (N k).i,Ao Ar (N k).f,V an (N k).n cn] 26));have b2:=bl1 k0;obtain⟨y,e0,f0⟩:=HY.out;have d0:=jF e0 b2;have TH:H (w2.there g (k*5) 5):=by
    intro j hj;refine⟨?_,B0 d0 _⟩;rw[Bt d0 _ (qM hlt hj),jT _ _ _ _ _ hlt hj];rfl
   have x0:=(RA.below a0 RA.lt).cell 0;have lA:=(RA.below a0 RA.lt).lt;simp at x0;obtain⟨w3,h0⟩:=nmH (w2.setCells g (k*5) [Ao Ar (N k).i,Ao Ar (N k).f,V an (N k).n cn,(k:Int),f]);have HY3:H (∃ y,w3.ownsRow w0 124 5 (V (Q g 0 I) n n) n (cL 5 y n)/\∀ i,i<k+1->∀ q,q<5->Rd w0 (seD (N i) i f q) (y i q)):=by
    rw[h0.out];have:=qH hlt [Ao Ar (N k).i,Ao Ar (N k).f,V an (N k).n cn,(k:Int),f] 0 w2 y rfl d0
    rw[Cp] at this;refine⟨_,this,fun i hi q hq=>?_⟩;by_cases e:i=k
    .subst e;match q,hq with
     | 0,_|1,_|3,_|4,_=>simp[seD,Rd]
     | 2,_=>simpa [seD] using o0
    .simp only[e,false_and,Dj];exact f0 i (by omega) q hq
   have m0:w0.1.size<=g:=by rw[HG.out];exact Ay _
   have KB3:H (Ab w0 w0 w3):=by show Ab _ _ _;rw[h0.out];exact jP (jA a0 b2) m0 _ _
   clear HY e0 d0 b2 R0 o0 a0 f0 m0;go_wp2_with (first|(refine Bv rfl 26 _ rfl b1 (f1+k*3) rfl [Ao Ar (N k).i,Ao Ar (N k).f,V an (N k).n cn] _ ?_ Cg rfl Tryz.infoNd ?_;exact R1)|(rw[<-k0.out];refine Dd rfl 124 _ _ rfl g (k*5) #[Ao Ar (N k).i,Ao Ar (N k).f,V an (N k).n cn,(k:Int),f] rfl rfl ?_ Tryz.infoSe (by simp[Aq]) ?_;exact TH;rw[<-h0.out]))
   go_roundw
   case rel=>exact⟨k+1,by omega,by go_num,HY3,KB3.out⟩
   case measure=>simp[intOf];omega
  .obtain rfl:k=n:=by omega
   have HF:H (Rd wr (jR8 k N f) (V (Q g 0 I) k k)):=by
    obtain⟨y,e0,f0⟩:=HY.out;refine⟨_,_,rfl,fun i hi=>⟨g,0,rfl,fun q hq=>⟨y i q,?_,(f0 i hi q hq).below a0⟩⟩⟩;rw[Bq,Bt e0 _ (qM hi hq),jT _ _ _ _ _ hi hq]
   go_wp2
   go_ret
   exact⟨g,rfl,HF,jA p0 a0⟩
theorem jEp (i0 f0 bi bf:Int) (an:OA) (nn cn:Nat) (S:Nat->Sl) (w:Ad) (h:Rd w (qG nn S) (V an nn cn)) (hn:nn<=1048576) (hs:∀ i,i<nn->SlN (S i)):CB 75 #[Ai #[i0,f0,V an nn cn,bi,bf]] w (decide (bi=i0/\bf=f0)&&ndB i0 f0 nn S):=by
 obtain⟨w0,a0⟩:=nmH (w.alloc (J #[i0,f0,V an nn cn,bi,bf] 124));have c0:=bl1 a0;have b0:=hd c0;have KN:H _:=jHm i0 f0 an nn cn S w0 (h.below c0) hn hs;by_cases e1:bi=i0
 .by_cases e2:bf=f0
  .rw[Bf ⟨e1,e2⟩,Gy];subst e1 e2;go_enter func75,ntmps75
   go_wp2_with fail
   rw[<-a0.out];refine Ax KN.out ?_;rintro e w1 ⟨rfl,b1⟩;go_wp2
   go_ret
   exact⟨rfl,jA b0 b1⟩
  .rw[Bh (fun h=>e2 h.2),Bool.false_and];have e0:(bf==f0)=Av:=by simp[e2]
   subst e1;go_enter func75,ntmps75
   go_wp2
   rw[<-a0.out];go_ret
   exact⟨rfl,b0⟩
 .rw[Bh (fun h=>e1 h.1),Bool.false_and];have d0:(bi==i0)=Av:=by simp[e1]
  go_enter func75,ntmps75
  go_wp2
  rw[<-a0.out];go_ret
  exact⟨rfl,b0⟩
def NtP (f:Int) (n:Nat) (N:Nat->Nd) (zs:List Int) (m:Nat):Prop:=(1<=f/\f<=3)/\(n:Int)=3*f+1/\(zs.length:Int)<=f/\JH f zs=Aw/\m<=3000/\∀ i,i<n->(N i).i=(i:Int)/\(N i).f=f/\NdP (N i).i (N i).f (N i).n (N i).S
noncomputable def ntB (f:Int) (n:Nat) (N:Nat->Nd) (zs:List Int) (m:Nat):Bool:=@decide (NtP f n N zs m) (Classical.propDecidable _)
theorem jJ0 {f:Int} {n:Nat} {N:Nat->Nd} {zs:List Int} {m:Nat} (h:NtP f n N zs m):ntB f n N zs m=Aw:=by unfold ntB;exact @Bf _ (Classical.propDecidable _) h
theorem xO {f:Int} {n:Nat} {N:Nat->Nd} {zs:List Int} {m:Nat} (h:¬ NtP f n N zs m):ntB f n N zs m=Av:=by unfold ntB;exact @Bh _ (Classical.propDecidable _) h
structure NdN (d:Nd):Prop where
 n:d.n<=1048576
 s:∀ i,i<d.n->SlN (d.S i)
theorem jP5 {w:Ad} {n:Nat} {N:Nat->Nd} {f:Int} {a:OA} {cap:Nat} (h:Rd w (jR8 n N f) (V a n cap)) {k:Nat} (hk:k<n):∃ (b off:Nat) (an:OA) (cn:Nat),a=M (Q b off I)/\w.rangeAt b (off+k*5) [Ao Ar (N k).i,Ao Ar (N k).f,V an (N k).n cn,(k:Int),f]/\Rd w (qG (N k).n (N k).S) (V an (N k).n cn):=by
 obtain⟨b,off,y,ea,hy,hr⟩:=h.row hk;have r2:=hr 2 (by omega);obtain⟨an,cn,e2⟩:=r2.shape;rw[e2] at r2;have g0:=hr 0 (by omega);have g1:=hr 1 (by omega);have g3:=hr 3 (by omega);have g4:=hr 4 (by omega);simp only[Rd,seD] at g0 g1 g3 g4;refine⟨b,off,an,cn,ea,fun j v hv=>?_,r2⟩;have hj:=(Bz.1 hv).1;have c:=hy j hj;rw[<-Ee] at c;rw[c,<-hv];match j,hj with
 | 0,_=>rw[g0];rfl
 | 1,_=>rw[g1];rfl
 | 2,_=>rw[e2];rfl
 | 3,_=>rw[g3];rfl
 | 4,_=>rw[g4];rfl
theorem jDh (f:Int) (a:OA) (n c:Nat) (l:OA) (zs:List Int) (d:Nat) (e:OA) (m g:Nat) (N:Nat->Nd) (w:Ad) (h1:Rd w (qS n N) (V a n c)) (h2:jH w l zs.length zs) (hn:n<=1048576) (hz:zs.length<=1048576) (hN:∀ i,i<n->NdN (N i)):CB 21 #[Ai #[f,V a n c,V l zs.length d,V e m g]] w (ntB f n N zs m):=by
 obtain⟨A,HA⟩:=nmH w.1.size;obtain⟨w0,d0⟩:=nmH (w.alloc (J #[f,V a n c,V l zs.length d,V e m g] 48));have RA:=jZ d0 HA;have g0:=bl1 d0;have f0:H (Ab w w w0):=g0;have KH:H (Rd w0 (qS n N) (V a n c)):=h1.below g0;have q0:H (∀ i,i<n->NdN (N i)):=hN;have x0:=RA.cell 0;have x1:=RA.cell 1;have x2:=RA.cell 2;have x3:=RA.cell 3;simp at x0 x1 x2 x3;have X0:∀ d os,(grow (redrawn w0 d) os).cell? (Q A 0 I)=_:=fun d os=>cell_regrown x0 d os
 have X1:∀ d os,(grow (redrawn w0 d) os).cell? (Q A 1 I)=_:=fun d os=>cell_regrown x1 d os
 have X2:∀ d os,(grow (redrawn w0 d) os).cell? (Q A 2 I)=_:=fun d os=>cell_regrown x2 d os
 have X3:∀ d os,(grow (redrawn w0 d) os).cell? (Q A 3 I)=_:=fun d os=>cell_regrown x3 d os
 have N1:∀ d os,Ak prog 71 #[f] (grow (redrawn w0 d) os) fun e w'=>e=Ae (fB f)/\∃ p:Regrown,w'=grow (redrawn w0 p.d) p.os:=fun d os=>Calls.regrown_of ((jEo f _).mono fun e w' h=>⟨h.1,by rw[h.2];exact Az _ _⟩)
 by_cases hf:1<=f/\f<=3
 case neg=>
  have e1:fB f=Av:=Bh hf;rw[e1] at N1;have N2:=N1;have N3:=N1;rw[xO (fun h=>hf h.1)];go_enter func21,ntmps21
  go_wp2_with fail
  rw[<-d0.out,<-HA.out];refine wp_region_quiet_below (by kernel_rfl) (by kernel_rfl) ?_;repeat (go_big_quiet_step (first|(with_reducible exact N1 _ _)|(with_reducible exact N2 _ _)|(with_reducible exact N3 _ _)))
  refine Ct ?_;intro _ c0;obtain⟨⟨dq,b0⟩,a0⟩:=c0;subst a0;go_wp2
  go_ret
  exact⟨rfl,jA f0 (below_regrown w0 dq b0)⟩
 have e1:fB f=Aw:=Bf hf;rw[e1] at N1;obtain⟨q,HQ⟩:∃ q:Int,H (3*f+1=q):=⟨_,rfl⟩;have N2:∀ d os,Ak prog 72 #[f] (grow (redrawn w0 d) os) fun e w'=>e=Ae q/\∃ p:Regrown,w'=grow (redrawn w0 p.d) p.os:=fun d os=>Calls.regrown_of ((vG f _ hf).mono fun e w' h=>⟨by rw[h.1,HQ.out],by rw[h.2];exact Az _ _⟩)
 obtain⟨b,i0⟩:=nnH (liB f zs);have N3:∀ d' os,Ak prog 73 #[V l zs.length d,f] (grow (redrawn w0 d') os) fun e w'=>e=Ae b/\∃ p:Regrown,w'=grow (redrawn w0 p.d) p.os:=fun d' os=>Calls.regrown_of (by have:=jCo f l d zs (grow (redrawn w0 d') os) ((h2.below g0).below (below_regrown w0 d' os)) hf hz;rw[i0.out] at this;exact this)
 have HF:H (1<=f/\f<=3):=hf;clear hf e1 h1 h2 hN g0;by_cases hq:(n:Int)=q
 case neg=>
  have c1:((n:Int) !=q)=Aw:=by simp[hq]
  rw[xO (fun h=>hq (h.2.1.trans HQ.out))];go_enter func21,ntmps21
  go_wp2_with fail
  rw[<-d0.out,<-HA.out];refine wp_region_quiet_below (by kernel_rfl) (by kernel_rfl) ?_;repeat (go_big_quiet_step (first|(with_reducible exact N1 _ _)|(with_reducible exact N2 _ _)|(with_reducible exact N3 _ _)))
  refine Ct ?_;intro _ c0;obtain⟨⟨dq,b0⟩,a0⟩:=c0;subst a0;go_wp2
  go_ret
  exact⟨rfl,jA f0 (below_regrown w0 dq b0)⟩
 have c1:((n:Int) !=q)=Av:=by simp[hq]
 cases b with
 | false=>
  rw[xO (fun h=>by have:=i0.out;unfold liB at this;rw[Bf h.2.2.1,h.2.2.2.1] at this;cases this)];go_enter func21,ntmps21
  go_wp2_with fail
  rw[<-d0.out,<-HA.out];refine wp_region_quiet_below (by kernel_rfl) (by kernel_rfl) ?_;repeat (go_big_quiet_step (first|(with_reducible exact N1 _ _)|(with_reducible exact N2 _ _)|(with_reducible exact N3 _ _)))
  refine Ct ?_;intro _ c0;obtain⟨⟨dq,b0⟩,a0⟩:=c0;subst a0;go_wp2
  go_ret
  exact⟨rfl,jA f0 (below_regrown w0 dq b0)⟩
 | true=>
 have m0:H ((zs.length:Int)<=f/\JH f zs=Aw):=by
  have:=i0.out
  unfold liB at this;rw[Cr,Ed] at this;exact this
 by_cases hm:m<=3000
 case neg=>
  have z0:decide ((3000:Int)<(m:Int))=Aw:=Bf (by omega);have a1:(m:Int)>3000:=by omega
  rw[xO (fun h=>hm h.2.2.2.2.1)];go_enter func21,ntmps21
  go_wp2_with fail
  rw[<-d0.out,<-HA.out];refine wp_region_quiet_below (by kernel_rfl) (by kernel_rfl) ?_;repeat (go_big_quiet_step (first|(with_reducible exact N1 _ _)|(with_reducible exact N2 _ _)|(with_reducible exact N3 _ _)))
  refine Ct ?_;intro _ c0;obtain⟨⟨dq,b0⟩,a0⟩:=c0;subst a0;go_wp2
  go_ret
  exact⟨rfl,jA f0 (below_regrown w0 dq b0)⟩
 have z0:decide ((3000:Int)<(m:Int))=Av:=Bh (by omega);have a1:¬ (m:Int)>3000:=by omega
 have u0:H ((n:Int)=3*f+1):=hq.trans HQ.symm;go_enter func21,ntmps21
 go_wp2_with fail
 rw[<-d0.out,<-HA.out];refine wp_region_quiet_below (by kernel_rfl) (by kernel_rfl) ?_;repeat (go_big_quiet_step (first|(with_reducible exact N1 _ _)|(with_reducible exact N2 _ _)|(with_reducible exact N3 _ _)))
 refine Ct ?_;intro _ c0;obtain⟨⟨dq,b0⟩,a0⟩:=c0;subst a0;have j0:H (Ab w0 w0 (grow (redrawn w0 dq) b0)):=below_regrown w0 dq b0;generalize grow (redrawn w0 dq) b0=w1 at *;clear X0 X1 X2 X3 N1 N2 N3;have n0:H (Row w1 A 48 #[f,V a n c,V l zs.length d,V e m g]):=RA.below j0 RA.lt;have r0:H _:=jK3 f a n c (V l zs.length d) (V e m g) N w1 (KH.below j0) hn;go_wp2_with (refine Bg rfl 48 _ rfl A rfl 48 #[f,V a n c,V l zs.length d,V e m g] (0,0) _ ?_ Bu rfl Tryz.infoNt ?_;exact n0)
 refine Ax r0.out ?_;rintro e' w2 ⟨gs,rfl,RS,b2⟩;have KR:H (Rd w2 (jR8 n N f) (V gs n n)):=RS;have p0:H (Ab w w w2):=jA f0 (jA j0 b2);clear RS b2 x0 x1 x2 x3 r0 n0;go_wp2_with fail
 go_loopw [35] (fun vi wr=>∃ k:Nat,k<=n/\vi=Ao Ar (k:Int)/\H (∀ i,i<k->(N i).i=(i:Int)/\(N i).f=f/\NdP (N i).i (N i).f (N i).n (N i).S)/\Ab w2 w2 wr) (fun vi _=>n-(intOf vi).toNat)
 case atStart=>exact⟨0,Bi _,rfl,fun i hi=>Bo hi (Bk _),Az _ _⟩
 case round=>
  obtain⟨k,hk,rfl,HP,e0⟩:=hrel;by_cases hlt:k<n
  case neg=>
   obtain rfl:k=n:=by omega
   have HY:H (ntB f k N zs m=Aw):=jJ0 ⟨HF,u0,m0.1,m0.2,hm,HP⟩;go_wp2
   go_ret
   exact⟨jQ HY.symm,jA p0 e0⟩
  have g1:(k:Int)<(n:Int):=by omega
  obtain⟨b1,f1,an,cn,ea,s0,t0⟩:=jP5 (KR.below e0) hlt;cases ea;have R1:H (wr.rangeAt gs (0+k*5) [Ao Ar (N k).i,Ao Ar (N k).f,V an (N k).n cn,(k:Int),f]):=s0;rw[Bq] at R1;obtain⟨w3,o0⟩:=nmH (wr.alloc (J #[Ao Ar (N k).i,Ao Ar (N k).f,V an (N k).n cn,(k:Int),f] 124));have b3:=bl1 o0;have k0:H _:=jEp (N k).i (N k).f (k:Int) f an (N k).n cn (N k).S w3 (t0.below b3) (q0 k hlt).n (q0 k hlt).s;have v0:H (Ab w2 w2 w3):=jA e0 b3;obtain⟨y0,h0⟩:=nnH ((decide ((k:Int)=(N k).i/\f=(N k).f)&&ndB (N k).i (N k).f (N k).n (N k).S));rw[h0.out] at k0;clear s0 t0 b3 e0;go_wp2_with (refine Bv rfl 124 _ rfl gs (k*5) rfl [Ao Ar (N k).i,Ao Ar (N k).f,V an (N k).n cn,(k:Int),f] _ ?_ Ff rfl Tryz.infoSe ?_;exact R1)
  rw[<-o0.out];refine Ax k0.out ?_;rintro e' w4 ⟨rfl,b4⟩;have KB4:H (Ab w2 w2 w4):=jA v0 b4;clear b4 R1 k0;cases y0 with
  | false=>
   have HN:H (ntB f n N zs m=Av):=xO fun h=>by
    have hh:=h.2.2.2.2.2 k hlt;have:=h0.out
    rw[Bf ⟨hh.1.symm,hh.2.1.symm⟩,ZX hh.2.2] at this;cases this
   go_wp2
   go_ret
   exact⟨jQ HN.symm,jA p0 KB4⟩
  | true=>
   have HP2:H (∀ i,i<k+1->(N i).i=(i:Int)/\(N i).f=f/\NdP (N i).i (N i).f (N i).n (N i).S):=fun i hi=>by
    by_cases ei:i=k
    .subst ei;have:=h0.out
     rw[Cr,Ed] at this;refine⟨this.1.1.symm,this.1.2.symm,?_⟩;exact Classical.byContradiction fun hc=>by rw[xX hc] at this;cases this.2
    .exact HP i (by omega)
   go_wp2
   go_roundw
   case rel=>exact⟨k+1,by omega,by go_num,HP2,KB4.out⟩
   case measure=>simp[intOf];omega
end Go.Proofs.YtcaejlalnjnifaaGreat
