import Derived.Test.YtcaejlalnjnifaaGreatR16
import Derived.Deep.CutRange
set_option maxHeartbeats 8000000
set_option maxRecDepth 2000
open Go.Value renaming slice->V,string->Ag,int->Ao,oneCell'->Aq
open Option renaming none->I,some->M
open Go.RowKit renaming Hid->H,Below->Ab
open Go.Addr renaming mk->Q
open Go.Obj renaming cells->J
open Go renaming World->Ad,Value->Aj,Calls->Ak,Addr->Al,maxLen->Au
open Go.Ending renaming returned->Ae
open ByteArray renaming empty->Ap
open Go.IntKind renaming i64->Ar
open Bool renaming false->Av,true->Aw
open Go.Proofs.Tryz
open Go.ChangeShapes Go.WideShapes Go.ChangeAt Go.RowKit
namespace Go.Proofs.YtcaejlalnjnifaaGreat
theorem jDa (B E:Nat) (a:OA) (n cap k:Nat) (zs:List Int) (w:Ad) (h:jSp w B E a n cap zs) (hn:n<=1048576) (hk:k<=500000000):Ak prog 92 #[V a n cap,(k:Int)] w fun e w'=>e=Ae (Ao Ar ((k+n:Nat):Int))/\jSp w' B E a n cap (jW k n)/\jFw w w' B E:=by
 obtain⟨ho,hl,c0,hb⟩:=h;rcases ho.2 with ⟨e,hz⟩|⟨g,e0,n0,e,hB,hg,_⟩
 .cases e;rw[hl] at *;clear hl;have HM:H (jSp w B E I 0 0 (jW k 0)):=⟨Fm w _ _ _,rfl,Ay _,fun k hk=>by cases hk⟩;have HT:H (jFw w w B E):=⟨I,F7 _ _,fun g hg=>by cases hg⟩;rw[hz];clear ho hb hz hn c0;go_enter func92,ntmps92
  go_wp2
  go_loopw [1,5] (fun p i wr=>p=Ao Ar (k:Int)/\i=Ao Ar 0/\wr=w) (fun _ _ _=>0)
  case atStart=>exact⟨rfl,rfl,rfl⟩
  case round=>
   obtain⟨rfl,rfl,rfl⟩:=hrel;go_wp2
   go_ret
   exact⟨rfl,HM,HT⟩
 .have j0:cap=e0/\a=M (Q g 0 I):=by cases e;exact⟨rfl,rfl⟩
  obtain⟨rfl,rfl⟩:=j0;have g0:=hb g rfl;have HL:=hd hl.symm;have i0:w.ownsRow B 3 1 (V (Q g 0 I) n cap) n ((jW k 0++zs.drop 0).map (Ao Ar)):=by
   have h2:=ho;unfold jQ4 at h2;rw[<-hl] at h2;exact h2
  have H0:H _:=i0;clear ho i0 hg e hl hb;go_enter func92,ntmps92
  go_wp2
  go_loopw [1,5] (fun p i wr=>∃ c:Nat,c<=n/\p=Ao Ar ((k+c:Nat):Int)/\i=Ao Ar c/\wr.ownsRow B 3 1 (V (Q g 0 I) n cap) n ((jW k c++zs.drop c).map (Ao Ar))/\w.grownBy wr (M g)) (fun _ i _=>n-(intOf i).toNat)
  case atStart=>exact⟨0,Bi _,rfl,rfl,H0,F7 _ _⟩
  case round=>
   obtain⟨c,hc,rfl,rfl,a0,b0⟩:=hrel;clear H0;by_cases hlt:c<n
   .have k0:(c:Int)<(n:Int):=by omega
    obtain⟨old,m0⟩:∃ v,wr.cell? (Q g c I)=M v:=by
     rw[a0.cellAt c (by omega)];exact⟨_,Bj (by rw[a0.1];omega)⟩
    have o0:=a0.frozenAt c;have d0:=a0.stored c (Ao Ar ((k+c:Nat):Int));rw[jHv k n c zs HL.out hlt] at d0;have f0:wr.grownBy (wr.setCell (Q g c I) (Ao Ar ((k+c:Nat):Int))) (M g):=⟨rfl,rfl,rfl,by simp,fun j _ hj=>Cn wr (Q g c I) j _ (fun e=>hj (by simp[e]))⟩;have HO:H _:=And.intro d0.1 (jBq b0 f0);clear d0 f0 a0 b0;obtain⟨kc,h0⟩:∃ kc,k+c=kc:=⟨_,rfl⟩;rw[h0] at HO;rw[h0];go_wp2
    go_roundw
    case rel=>exact⟨c+1,by omega,by rw[show k+(c+1)=kc+1 by omega];go_num,by go_num,HO.out.1,HO.out.2⟩
    case measure=>simp[intOf] <;> omega
   .obtain rfl:c=n:=by omega
    have HR:H (jSp wr B E (Q g 0 I) c cap (jW k c)):=by
     have e:jW k c++zs.drop c=jW k c:=by rw[List.drop_eq_nil_of_le (by rw[HL.out];omega),List.append_nil]
     rw[e] at a0;have hm:(jW k c).length=c:=vA _ _;refine⟨?_,hm.symm,c0,fun j hj=>by cases hj;exact⟨hB,g0.2⟩⟩;unfold jQ4;rw[hm];exact a0
    have HT:H (jFw w wr B E):=⟨M g,b0,fun j hj=>by cases hj;exact⟨hB,g0.2⟩⟩;clear a0 b0;go_wp2
    go_ret
    exact⟨rfl,HR,HT⟩
theorem jA1 (a:OA) (n cap k q:Nat) (w:Ad) (h:jL w a n (fun i=>vT (k+i))) (hn:n<=1048576) (hk:k<=500000000) (hq:k+n=q):CB 151 #[V a n cap,(k:Int)] w (q:Int):=by
 subst hq;have KH:=hd h;go_enter func151,ntmps151
 go_wp2
 go_loopw [1,5] (fun p i wr=>∃ c x:Nat,c<=n/\k+c=x/\p=Ao Ar (x:Int)/\i=Ao Ar (c:Int)/\Ab w.1.size w wr) (fun _ i _=>n-(intOf i).toNat)
 case atStart=>exact⟨0,k,Bi _,rfl,rfl,rfl,Az _ _⟩
 case round=>
  obtain⟨c,x,hc,hx,rfl,rfl,b0⟩:=hrel;by_cases hlt:c<n
  .have f0:(c:Int)<(n:Int):=by omega
   obtain⟨b,off,rfl,a0⟩:=KH.below b0 c hlt;simp only[hx] at a0;have KC:H (∀ w,CB 98 #[(x:Int)] w (vT x)):=fun w=>jM x w (by omega)
   generalize vT x=mx at a0 KC;have h0:=vD mx;have e0:=A7 a0;go_wp2_with fail
   go_region_held3 (fun w'=>w'.cell? (Q b (off+c) I)=M (Ag mx)) (go_keep) ((go_at_call 98;refine Ax (KC _) ?_;rintro e w5 ⟨rfl,c0⟩;have d0:=jC c0;clear c0;have g0:=(d0.cell (p:=Q b (off+c) I) e0).trans a0))
   all_goals
    have HB:=hd (jA b0 d0);go_wp2
    go_roundw
    case rel=>exact⟨c+1,x+1,by omega,by omega,by go_num,by go_num,HB.out⟩
    case measure=>simp[intOf] <;> omega
  .obtain rfl:c=n:=by omega
   subst hx;go_wp2
   go_ret
   exact⟨rfl,b0⟩
theorem zW (k n:Nat):(jW k n).length=n:=by simp[jW,eI]
theorem Trn.ofTurned {w w':Ad} {B E:Nat} {F:Nat->Prop} (h:jFw w w' B E) (hF:∀ g,B<=g->g<E->F g):Trn w w' F:=by
 obtain⟨r,hg,hr⟩:=h;exact⟨hg.os,hg.tape,hg.output,hg.size,fun j hj hn=>hg.block j hj (fun e=>hn (hF j (hr j e.symm).1 (hr j e.symm).2))⟩
theorem JH (B:Nat) (v:Aj) (zs:List Int) (k q:Nat) (F:Nat->Prop) (w:Ad) (h:Ow w B (inD zs) v F) (hn:zs.length<=1048576) (hk:k<=500000000) (hq:k+zs.length=q):Ak prog 92 #[v,(k:Int)] w fun e w'=>e=Ae (q:Int)/\Ow w' B (inD (jW k zs.length)) v F/\Trn w w' F:=by
 obtain⟨a,cap,rfl,ho,hF⟩:=JX h;subst hq;have a0:∀ {w':Ad} {C:Nat},jQ4 w' C (V a zs.length cap) (jW k zs.length)->B<=C->Ow w' B (inD (jW k zs.length)) (V a zs.length cap) F:=fun {w'} {C} h' hC=>by
  have h2:w'.ownsRow C 3 1 (V a (jW k zs.length).length cap) (jW k zs.length).length ((jW k zs.length).map (Ao Ar)):=by
   have:=h'
   unfold jQ4 at this;rw[zW] at this |-;exact this
  have:=vV (jY h2 hC) hF
  rw[zW] at this;exact this
 rcases ho.2 with ⟨h0,hz⟩|⟨g,c0,d0,e,hB,hg,b0,hr⟩
 .have ea:a=I/\cap=0:=by
   simp only[Ek] at h0;exact⟨h0.1,h0.2.2⟩
  obtain⟨rfl,rfl⟩:=ea;refine(jDa B B I zs.length 0 k zs w ⟨ho,rfl,by omega,fun x hx=>by cases hx⟩ hn hk).mono ?_;rintro e w' ⟨rfl,hR,hT⟩;exact⟨rfl,a0 hR.1 (Ay _),Trn.ofTurned hT (fun g h1 h2=>Bo h1 (by omega))⟩
 .have ea:a=M (Q g 0 I)/\cap=c0:=by
   simp only[Ek] at e;exact⟨e.1,e.2.2⟩
  obtain⟨rfl,rfl⟩:=ea;have hO:jQ4 w g (V (Q g 0 I) zs.length cap) zs:=⟨ho.1,.inr ⟨g,cap,d0,e,Ay _,hg,b0,hr⟩⟩;refine(jDa g (g+1) (Q g 0 I) zs.length cap k zs w ⟨hO,rfl,b0,fun x hx=>by cases hx;exact⟨Ay _,Gi _⟩⟩ hn hk).mono ?_;rintro e w' ⟨rfl,hR,hT⟩;exact⟨rfl,a0 hR.1 hB,Trn.ofTurned hT (fun x h1 h2=>(show x=g by omega)▸hF _ rfl)⟩
theorem jN0 {w:Ad} {ad:Al} {m:Nat} {S:Nat->BA} (h:jL w (M ad) m S):∀ (j:Nat) (u:Aj),(sL S m)[j]?=M u->w.cell? (ad.add j)=M u:=fun j u hu=>by
 have hj:j<m:=by
  have:=(Ca.1 hu).1
  rw[qX] at this;exact this
 obtain⟨b,off,e,hc⟩:=h j hj;cases e;have ea:((Q b off I):Al).add j=(Q b (off+j) I):=by unfold Addr.add;split <;> simp_all
 rw[ea,hc,<-hu,zB _ _ _ hj]
theorem XN (r:BA) (k n i:Int) (b:BA) (a:OA) (m c:Nat) (S:Nat->BA) (w:Ad) (h:jL w a m S) (hm:m<=1048576):Ak prog 52 #[pcV r k n i b (V a m c)] w fun e w'=>∃ g c',e=Ae (pcV r k n i b (V (Q g 0 I) m c'))/\jI w' w (Q g 0 I) m c' S/\Ab w w w':=by
 obtain⟨i0,hi,r0,s0,t0⟩:=Cg Tryz.infoStr;obtain⟨A,HA⟩:=nmH w.1.size;obtain⟨D,HD⟩:=nmH (w.1.size+1);obtain⟨G,HG⟩:=nmH (w.1.size+1+1);obtain⟨w0,d0⟩:=nmH (((w.alloc (J (pcC r k n i b (V a m c)) 29)).alloc (J #[Zs,(),(),(),Zs,V I 0 0] 29)).alloc (J #[] 9));have RA:=zS d0 HA;have RD:=xV d0 HD;have n0:=bl3 d0;have m0:=hd n0;have HO:H (w0.ownsRow G 9 1 (V G 0 0) 0 []):=by
  show World.ownsRow _ _ _ _ _ _ _;rw[d0.out,HG.out];have:=Cc (e:=9) (size:=1) (base:=((w.alloc (J (pcC r k n i b (V a m c)) 29)).alloc (J #[Zs,(),(),(),Zs,V I 0 0] 29)).1.size) ((w.alloc (J (pcC r k n i b (V a m c)) 29)).alloc (J #[Zs,(),(),(),Zs,V I 0 0] 29)) #[] 0 (by simp) (by unfold Au;omega) (by simp)
  simpa using this
 have HL:H (A≠D/\w.1.size<=A/\w.1.size<=D/\A<G/\D<G/\w.1.size<=G/\G<=w0):=by
  have h1:=HA.out;have h2:=HD.out;have h3:=HG.out;have h4:=(A0 HO G rfl).2;exact⟨by omega,by omega,by omega,by omega,by omega,by omega,by omega⟩
 have j0:H (∀ (W:Ad) (g c':Nat),Row W A 29 (pcC r k n i b (V a m c))->Row W D 29 #[Zs,(),(),(),Zs,V I 0 0]->jI W G (Q g 0 I) m c' S->Ab w w W->Row (W.setCell (Q A 5 I) (V (Q g 0 I) m c')) A 29 (pcC r k n i b (V (Q g 0 I) m c'))/\Row (W.setCell (Q A 5 I) (V (Q g 0 I) m c')) D 29 #[Zs,(),(),(),Zs,V I 0 0]/\Row ((W.setCell (Q A 5 I) (V (Q g 0 I) m c')).setRow D (pcC r k n i b (V (Q g 0 I) m c'))) D 29 (pcC r k n i b (V (Q g 0 I) m c'))/\jI ((W.setCell (Q A 5 I) (V (Q g 0 I) m c')).setRow D (pcC r k n i b (V (Q g 0 I) m c'))) w (Q g 0 I) m c' S/\Ab w w ((W.setCell (Q A 5 I) (V (Q g 0 I) m c')).setRow D (pcC r k n i b (V (Q g 0 I) m c')))):=fun W g c' h1 h2 h3 h4=>by
  have l:=A0 h3 g rfl;refine⟨h1.set 5 _,h2.other 5 _ (Cj HL.1),(h2.other 5 _ (Cj HL.1)).row,?_,jF (h4.setCell HL.2.1 _) HL.2.2.1 _⟩;refine jK (jI.base (h3.setFar HL.2.2.2.1) HL.2.2.2.2.2.1) (qT _ _ _) (fun x e=>?_);cases e;show g≠D;have:=HL.2.2.2.2.1
  omega
 have x5:=RA.cell 5;have f5:=RA.free 5;have lA:=RA.lt;simp at x5;match a,h with
 | none,h=>
  have e0:m=0:=by
   by_cases h0:m=0
   .exact h0
   .obtain⟨b',off,e,_⟩:=h 0 (by omega);cases e
  subst e0;go_enter func52,ntmps52
  go_wp2_with fail
  refine B7 (v:=pcV r k n i b (V (Q (w.1.size+1+1) 0 I) 0 0)) (by simp[results,results52,go_sem]) rfl ⟨w.1.size+1+1,0,rfl,?_,(((Az _ _).alloc (Ay _) _).alloc (by simp) _).alloc (by simp;omega) _⟩;have:=Cc (e:=9) (size:=1) (base:=w.1.size) ((w.alloc (J (pcC r k n i b (V (Q (w.1.size+1+1) 0 I) 0 0)) 29)).alloc (J (pcC r k n i b (V (Q (w.1.size+1+1) 0 I) 0 0)) 29)) #[] 0 (by simp;omega) (by unfold Au;omega) (by simp)
  unfold jI;simpa [sL] using this
 | some ad,h=>
  have p0:H (∀ (j:Nat) (u:Aj),(sL S m)[j]?=M u->w0.cell? (ad.add j)=M u):=fun j u hu=>by
   have:=jN0 h j u hu
   rw[n0.cell (A7 this)];exact this
  have o0:H ((sL S m).length=m*1):=by show _=_;rw[qX];omega
  have k0:H (∀ u∈sL S m,u.oneCell'=Aw):=by
   show ∀ u∈sL S m,_;intro u hu;obtain⟨j,hj⟩:=List.getElem?_of_mem hu;have q0:j<m:=by have:=(Ca.1 hj).1;rw[qX] at this;exact this
   rw[zB _ _ _ q0] at hj;cases hj;rfl
  go_enter func52,ntmps52
  go_wp2_with (first|(at_builtin;rw[<-d0.out,<-HG.out,<-HD.out,<-HA.out];refine qF _ rfl _ _ 27 rfl G 9 i0 Ap 1 16 C3 hi r0 s0 t0 rfl (by decide) G 0 0 [] rfl ?_ ad m c (sL S m) rfl ?_ ?_ ?_ (by unfold Au;omega) (by omega) ?_ ?_;exact HO.out;exact o0.out;exact p0.out;exact k0.out;exact HL.out.2.2.2.2.2.2;intro g3 a0 w3 f0 c0;have bG:Ab G w0 w3:=(Az _ _).grown c0 HL.out.2.2.2.2.2.2 (fun x hx=>by cases hx;exact Ay _);have g0:Row w3 A 29 (pcC r k n i b (V (M ad) m c))/\Row w3 D 29 #[Zs,(),(),(),Zs,V I 0 0]/\jI w3 G g3 m a0 S/\Ab w w w3:=⟨RA.out.below bG HL.out.2.2.2.1,RD.out.below bG HL.out.2.2.2.2.1,(by have:=f0;unfold jI;simpa using this),m0.out.grown c0 m0.out.size (fun x hx=>by cases hx;exact HL.out.2.2.2.2.2.1)⟩;have y5:=g0.1.cell 5;have g5:=g0.1.free 5;simp at y5;have b0:H _:=g0;clear f0 c0 bG g0 x5 f5)|(refine Bb rfl 29 _ rfl A rfl 29 (pcC r k n i b (V g3 m a0)) (0,0) _ ?_ underlying29 rfl Tryz.infoPc ?_;exact(j0.out w3 g3 a0 b0.out.1 b0.out.2.1 b0.out.2.2.1 b0.out.2.2.2).1)|(refine Bw rfl 29 _ _ rfl D (pcC r k n i b (V g3 m a0)) rfl rfl 29 #[Zs,(),(),(),Zs,V I 0 0] ?_ Tryz.infoPc rfl (by simp[Aq]) ?_;exact(j0.out w3 g3 a0 b0.out.1 b0.out.2.1 b0.out.2.2.1 b0.out.2.2.2).2.1))
  have KF:=j0 w3 g3 a0 b0.1 b0.2.1 b0.2.2.1 b0.2.2.2;exact B7 (v:=pcV r k n i b (V g3 m a0)) (Ck results52 _ _ D 29 _ (0,0) _ rfl KF.2.2.1 underlying29 rfl Tryz.infoPc) rfl ⟨g3,a0,rfl,KF.2.2.2.1,KF.2.2.2.2⟩
theorem jDf (B g n cap:Nat) (F:Nat->Prop) (S:Nat->Sy) (k:Nat) (w:Ad) (h:Ow w B (qI n S) (V g n cap) F) (_hn:n<=1048576) (hm:∀ i,i<n->(S i).p.m<=1048576) (hk:ofy k S n<=400000000):Ak prog 93 #[V g n cap,(k:Int)] w fun e w'=>e=Ae (Ao Ar ((ofy k S n:Nat):Int))/\Ow w' B (qI n (zG k S)) (V g n cap) F/\Trn w w' F:=by
 obtain⟨G,c0,k2⟩:=Ow.mk h;have KS:H (Sep g n 10 G F):=c0;have HG:H (F g):=c0.head _ rfl;have K0:H (MkS w B 31 10 g n cap G (fun i=>if i<0 then syD (zG k S i) else syD (S i))):=k2.congr (fun i q _ _=>by simp);have HM:H (∀ i,i<n->(S i).p.m<=1048576):=hm;clear h hm c0 k2;go_enter func93,ntmps93
 go_wp2
 go_loopw [1,5] (fun vk vi wr=>∃ c:Nat,c<=n/\vk=Ao Ar ((ofy k S c:Nat):Int)/\vi=Ao Ar (c:Int)/\MkS wr B 31 10 g n cap G (fun i=>if i<c then syD (zG k S i) else syD (S i))/\Trn w wr F) (fun _ vi _=>n-(intOf vi).toNat)
 case atStart=>exact⟨0,Bi _,rfl,rfl,K0,Trn.refl _ _⟩
 case round=>
  obtain⟨c,v2,rfl,rfl,m2,n2⟩:=hrel;clear K0;have KO:H (MkS wr B 31 10 g n cap G (fun i=>if i<c then syD (zG k S i) else syD (S i))/\Trn w wr F):=⟨m2,n2⟩;clear m2 n2;by_cases hlt:c<n
  .have y2:(c:Int)<(n:Int):=by omega
   obtain⟨o0,e0⟩:=nnH (ofy k S c);have ho:o0+9+(S c).p.m<=400000000:=by rw[<-e0.out];exact By (jGg k S (show c+1<=n by omega)) hk
   have q1:H (ofy k S (c+1)=o0+9+(S c).p.m):=by show ofy k S c+9+(S c).p.m=_;rw[e0.out]
   have s2:=HM c hlt;rw[e0.out];obtain⟨o1,g0⟩:=nmH (o0+1);obtain⟨o2,h0⟩:=nmH (o0+2);obtain⟨o3,HO3⟩:=nmH (o0+3);obtain⟨o4,i0⟩:=nmH (o0+4);obtain⟨o5,j0⟩:=nmH (o0+5);obtain⟨o6,k0⟩:=nmH (o0+6);obtain⟨o7,m0⟩:=nmH (o0+7);obtain⟨o8,n0⟩:=nmH (o0+8);obtain⟨o9,p0⟩:=nmH (o0+9);have e1:(o0:Int)+1=(o1:Int):=by have:=g0.out;omega
   have e2:(o1:Int)+1=(o2:Int):=by have:=h0.out;have:=g0.out;omega
   have e3:(o2:Int)+1=(o3:Int):=by have:=HO3.out;have:=h0.out;omega
   have e4:(o3:Int)+1=(o4:Int):=by have:=i0.out;have:=HO3.out;omega
   have e5:(o4:Int)+1=(o5:Int):=by have:=j0.out;have:=i0.out;omega
   have e6:(o5:Int)+1=(o6:Int):=by have:=k0.out;have:=j0.out;omega
   have e7:(o6:Int)+1=(o7:Int):=by have:=m0.out;have:=k0.out;omega
   have e8:(o7:Int)+1=(o8:Int):=by have:=n0.out;have:=m0.out;omega
   have e9:(o8:Int)+1=(o9:Int):=by have:=p0.out;have:=n0.out;omega
   obtain⟨m,g1⟩:=nnH ((S c).p.m);rw[g1.out] at ho s2 q1;obtain⟨q6,r1⟩:=nnH (o9+m);have u0:o0<=400000000:=by omega
   have u1:o1<=400000000:=by have:=g0.out;omega
   have u2:o2<=400000000:=by have:=h0.out;omega
   have u3:o3<=400000000:=by have:=HO3.out;omega
   have u4:o4<=400000000:=by have:=i0.out;omega
   have u5:o5<=400000000:=by have:=j0.out;omega
   have u6:o6<=400000000:=by have:=k0.out;omega
   have u7:o7<=400000000:=by have:=m0.out;omega
   have u8:o8<=400000000:=by have:=n0.out;omega
   have u9:o9<=400000000:=by have:=p0.out;omega
   obtain⟨s3,s1⟩:=nnH (vT o3);have p2:H (∀ W,CB 98 #[(o3:Int)] W s3):=fun W=>by rw[<-s1.out];exact jM o3 W (by omega)
   obtain⟨s4,t1⟩:=nnH (vT o4);have q2:H (∀ W,CB 98 #[(o4:Int)] W s4):=fun W=>by rw[<-t1.out];exact jM o4 W (by omega)
   obtain⟨s8,v1⟩:=nnH (vT o8);have r2:H (∀ W,CB 98 #[(o8:Int)] W s8):=fun W=>by rw[<-v1.out];exact jM o8 W (by omega)
   clear hk ho;obtain⟨z2,x0,f0,_⟩:=MkS.cell KO.1 hlt (show 0<10 by omega);obtain⟨a3,x1,f1,_⟩:=MkS.cell KO.1 hlt (show 1<10 by omega);obtain⟨g3,x2,f2,_⟩:=MkS.cell KO.1 hlt (show 2<10 by omega);simp only[Cp] at x0 f0 x1 f1 x2 f2;obtain⟨W1,i1⟩:=nmH ((((wr.setCell (Q g (c*10) I) (o0:Int)).setCell (Q g (c*10+1) I) (o1:Int)).setCell (Q g (c*10+2) I) (o2:Int)));have M1:=KO.1;have M1:=MkS.set M1 KS hlt (show 0<10 by omega) (o0:Int);rw[Cp] at M1;have M1:=MkS.set M1 KS hlt (show 1<10 by omega) (o1:Int);have M1:=MkS.set M1 KS hlt (show 2<10 by omega) (o2:Int);rw[<-i1.out] at M1;have r0:H (MkS W1 B 31 10 g n cap G _):=M1;clear M1;have y0:H (Trn w W1 F):=by show Trn _ _ _;rw[i1.out];exact(((KO.2.trans (Trn.set _ (c*10) _ HG)).trans (Trn.set _ (c*10+1) _ HG)).trans (Trn.set _ (c*10+2) _ HG))
   go_wp2_with fail
   rw[<-i1.out];clear x0 f0 x1 f1 x2 f2;refine CM (p2 _) fun w1 b1=>?_
   have w0:H (MkS w1 B 31 10 g n cap G _):=MkS.below r0 b1;have z1:H (Trn w w1 F):=y0.trans (Trn.ofBelow F b1);clear b1 r0 y0;obtain⟨h3,x3,f3,_⟩:=MkS.cell w0 hlt (show 3<10 by omega);obtain⟨W2,j1⟩:=nmH ((w1.setCell (Q g (c*10+3) I) s3));have M2:=w0.out;have M2:=MkS.set M2 KS hlt (show 3<10 by omega) s3;rw[<-j1.out] at M2;have s0:H (MkS W2 B 31 10 g n cap G _):=M2;clear M2;have z0:H (Trn w W2 F):=by show Trn _ _ _;rw[j1.out];exact(z1.trans (Trn.set _ (c*10+3) _ HG))
   go_wp2_with fail
   rw[<-j1.out];clear x3 f3;refine CM (q2 _) fun w2 b2=>?_
   have a0:H (MkS w2 B 31 10 g n cap G _):=MkS.below s0 b2;have a2:H (Trn w w2 F):=z0.trans (Trn.ofBelow F b2);clear b2 s0 z0;obtain⟨i3,x4,f4,_⟩:=MkS.cell a0 hlt (show 4<10 by omega);obtain⟨j3,x5,f5,_⟩:=MkS.cell a0 hlt (show 5<10 by omega);obtain⟨k3,x6,f6,_⟩:=MkS.cell a0 hlt (show 6<10 by omega);obtain⟨l3,x7,f7,_⟩:=MkS.cell a0 hlt (show 7<10 by omega);obtain⟨W3,k1⟩:=nmH (((((w2.setCell (Q g (c*10+4) I) s4).setCell (Q g (c*10+5) I) (o5:Int)).setCell (Q g (c*10+6) I) (o6:Int)).setCell (Q g (c*10+7) I) (o7:Int)));have M3:=a0.out;have M3:=MkS.set M3 KS hlt (show 4<10 by omega) s4;have M3:=MkS.set M3 KS hlt (show 5<10 by omega) (o5:Int);have M3:=MkS.set M3 KS hlt (show 6<10 by omega) (o6:Int);have M3:=MkS.set M3 KS hlt (show 7<10 by omega) (o7:Int);rw[<-k1.out] at M3;have t0:H (MkS W3 B 31 10 g n cap G _):=M3;clear M3;have a1:H (Trn w W3 F):=by show Trn _ _ _;rw[k1.out];exact((((a2.trans (Trn.set _ (c*10+4) _ HG)).trans (Trn.set _ (c*10+5) _ HG)).trans (Trn.set _ (c*10+6) _ HG)).trans (Trn.set _ (c*10+7) _ HG))
   go_wp2_with fail
   rw[<-k1.out];clear x4 f4 x5 f5 x6 f6 x7 f7;refine CM (r2 _) fun w3 b3=>?_
   have b0:H (MkS w3 B 31 10 g n cap G _):=MkS.below t0 b3;have g2:H (Trn w w3 F):=a1.trans (Trn.ofBelow F b3);clear b3 t0 a1;obtain⟨m3,x8,f8,_⟩:=MkS.cell b0 hlt (show 8<10 by omega);obtain⟨v9,x9,_,t2⟩:=MkS.cell b0 hlt (show 9<10 by omega);obtain⟨W4,q0⟩:=nmH ((w3.setCell (Q g (c*10+8) I) s8));have M4:=b0.out;have M4:=MkS.set M4 KS hlt (show 8<10 by omega) s8;rw[<-q0.out] at M4;have v0:H (MkS W4 B 31 10 g n cap G _):=M4;clear M4;have i2:H (Trn w W4 F):=by show Trn _ _ _;rw[q0.out];exact(g2.trans (Trn.set _ (c*10+8) _ HG))
   obtain⟨d0,n1,_,c1⟩:=MkS.cell v0 hlt (show 9<10 by omega);have ev:d0=v9:=by
    have h1:=n1;rw[q0.out,C9 _ _ _ _ (by simp)] at h1;exact Ee (h1.symm.trans x9)
   subst ev;have p1:H (Ow W4 B (txD m (S c).p.S) d0 (G c 9)):=by
    have:=c1
    show Ow _ _ _ _ _;rw[<-g1.out];simpa [syD] using this
   have y1:H _:=QP B d0 m (S c).p.S o9 q6 (G c 9) W4 p1 (by omega) (by omega) r1.out;have X9:H (W4.cell? (Q g (c*10+9) I)=M d0):=n1;clear t2 c1 n1;obtain⟨a9,c9,e9⟩:∃ a9 c9,d0=V a9 m c9:=by
    obtain⟨a,cp,e,_⟩:=jEf p1;exact⟨a,cp,e⟩
   subst e9;go_wp2_with fail
   rw[<-q0.out];refine Ax y1.out ?_;rintro e w9 ⟨rfl,j2,m1⟩;have M9:=MkS.turn v0 KS hlt (show 9<10 by omega) X9.out j2 m1;have KT9:H (Trn w w9 F):=i2.trans (m1.mono (fun x hx=>KS.sub c 9 x hlt (by omega) hx));have HN:H (MkS w9 B 31 10 g n cap G (fun i=>if i<c+1 then syD (zG k S i) else syD (S i))):=by
    refine MkS.congr M9 fun i q hi hq=>?_
    by_cases ei:i=c
    .subst ei;have hd:zG k S i=⟨(o0:Int),(o1:Int),(o2:Int),s3,⟨s4,(o5:Int),(o6:Int),(o7:Int),s8,m,fun j=>vT (o9+j)⟩⟩:=by
      unfold zG;rw[e0.out,<-g0.out,<-h0.out,<-HO3.out,<-i0.out,<-j0.out,<-k0.out,<-m0.out,<-n0.out,<-p0.out,s1.out,t1.out,v1.out,g1.out]
     rw[A6 (show i<i+1 by omega),hd];match q,hq with
     | 0,_|1,_|2,_|3,_|4,_|5,_|6,_|7,_|8,_|9,_=>simp[syD]
    .by_cases e2:i<c
     .simp[ei,e2,show i<c+1 by omega]
     .simp[ei,e2,show ¬ i<c+1 by omega]
   have HQQ:H ((q6:Int)=((ofy k S (c+1):Nat):Int)):=by show _=_;rw[q1.out,<-r1.out,p0.out]
   clear M9 j2 m1 y1 x8 f8 x9;go_wp2
   go_roundw
   case rel=>exact⟨c+1,by omega,by rw[HQQ.out],by go_num,HN.out,KT9.out⟩
   case measure=>simp[intOf];omega
  .obtain rfl:c=n:=by omega
   have HN:H (MkS wr B 31 10 g c cap G (fun i=>syD (zG k S i))):=KO.1.congr (fun i q hi _=>by simp[hi]);go_wp2
   go_ret
   exact⟨rfl,HN.ow KS,KO.2⟩
theorem jC6 (a:OA) (n cap:Nat) (S:Nat->Sy) (k:Nat) (w:Ad) (h:Rd w (qI n (zG k S)) (V a n cap)) (_hn:n<=1048576) (hm:∀ i,i<n->(S i).p.m<=1048576) (hk:ofy k S n<=400000000):CB 97 #[V a n cap,(k:Int)] w (Ao Ar ((ofy k S n:Nat):Int)):=by
 have KH:H (Rd w (qI n (zG k S)) (V a n cap)):=h;have HM:H (∀ i,i<n->(S i).p.m<=1048576):=hm;clear h hm;go_enter func97,ntmps97
 go_wp2
 go_loopw [1,5] (fun vk vi wr=>∃ c:Nat,c<=n/\vk=Ao Ar ((ofy k S c:Nat):Int)/\vi=Ao Ar (c:Int)/\Ab w w wr) (fun _ vi _=>n-(intOf vi).toNat)
 case atStart=>exact⟨0,Bi _,rfl,rfl,Az _ _⟩
 case round=>
  obtain⟨c,q1,rfl,rfl,b0⟩:=hrel;by_cases hlt:c<n
  .have r1:(c:Int)<(n:Int):=by omega
   obtain⟨b1,f1,y,p9,q9,rfl,z0,ey,m0⟩:=jCa (KH.below b0) hlt;obtain⟨o0,c0⟩:=nnH (ofy k S c);have ho:o0+9+(S c).p.m<=400000000:=by rw[<-c0.out];exact By (jGg k S (show c+1<=n by omega)) hk
   have q0:H (ofy k S (c+1)=o0+9+(S c).p.m):=by show ofy k S c+9+(S c).p.m=_;rw[c0.out]
   have p1:=HM c hlt;rw[c0.out];obtain⟨o1,d0⟩:=nmH (o0+1);obtain⟨o2,e0⟩:=nmH (o0+2);obtain⟨o3,HO3⟩:=nmH (o0+3);obtain⟨o4,f0⟩:=nmH (o0+4);obtain⟨o5,g0⟩:=nmH (o0+5);obtain⟨o6,h0⟩:=nmH (o0+6);obtain⟨o7,i0⟩:=nmH (o0+7);obtain⟨o8,j0⟩:=nmH (o0+8);obtain⟨o9,k0⟩:=nmH (o0+9);have e1:(o0:Int)+1=(o1:Int):=by have:=d0.out;omega
   have e2:(o1:Int)+1=(o2:Int):=by have:=e0.out;have:=d0.out;omega
   have e3:(o2:Int)+1=(o3:Int):=by have:=HO3.out;have:=e0.out;omega
   have e4:(o3:Int)+1=(o4:Int):=by have:=f0.out;have:=HO3.out;omega
   have e5:(o4:Int)+1=(o5:Int):=by have:=g0.out;have:=f0.out;omega
   have e6:(o5:Int)+1=(o6:Int):=by have:=h0.out;have:=g0.out;omega
   have e7:(o6:Int)+1=(o7:Int):=by have:=i0.out;have:=h0.out;omega
   have e8:(o7:Int)+1=(o8:Int):=by have:=j0.out;have:=i0.out;omega
   have e9:(o8:Int)+1=(o9:Int):=by have:=k0.out;have:=j0.out;omega
   obtain⟨m,p0⟩:=nnH ((S c).p.m);rw[p0.out] at ho p1 q0;obtain⟨q6,r0⟩:=nnH (o9+m);have u0:o0<=400000000:=by omega
   have u1:o1<=400000000:=by have:=d0.out;omega
   have u2:o2<=400000000:=by have:=e0.out;omega
   have u3:o3<=400000000:=by have:=HO3.out;omega
   have u4:o4<=400000000:=by have:=f0.out;omega
   have u5:o5<=400000000:=by have:=g0.out;omega
   have u6:o6<=400000000:=by have:=h0.out;omega
   have u7:o7<=400000000:=by have:=i0.out;omega
   have u8:o8<=400000000:=by have:=j0.out;omega
   have u9:o9<=400000000:=by have:=k0.out;omega
   obtain⟨s3,s0⟩:=nnH (vT o3);have i1:H (∀ W,CB 98 #[(o3:Int)] W s3):=fun W=>by rw[<-s0.out];exact jM o3 W (by omega)
   have n3:(s3.toList !=s3.toList)=Av:=by simp
   have s1:=vD s3;obtain⟨s4,t0⟩:=nnH (vT o4);have j1:H (∀ W,CB 98 #[(o4:Int)] W s4):=fun W=>by rw[<-t0.out];exact jM o4 W (by omega)
   have n4:(s4.toList !=s4.toList)=Av:=by simp
   have t1:=vD s4;obtain⟨s8,v0⟩:=nnH (vT o8);have k1:H (∀ W,CB 98 #[(o8:Int)] W s8):=fun W=>by rw[<-v0.out];exact jM o8 W (by omega)
   have n8:(s8.toList !=s8.toList)=Av:=by simp
   have w1:=vD s8;have n0:((o0:Int) !=(o0:Int))=Av:=by simp
   have n1:((o1:Int) !=(o1:Int))=Av:=by simp
   have n2:((o2:Int) !=(o2:Int))=Av:=by simp
   have n5:((o5:Int) !=(o5:Int))=Av:=by simp
   have n6:((o6:Int) !=(o6:Int))=Av:=by simp
   have n7:((o7:Int) !=(o7:Int))=Av:=by simp
   have hd:zG k S c=⟨(o0:Int),(o1:Int),(o2:Int),s3,⟨s4,(o5:Int),(o6:Int),(o7:Int),s8,m,fun j=>vT (o9+j)⟩⟩:=by
    unfold zG;rw[c0.out,<-d0.out,<-e0.out,<-HO3.out,<-f0.out,<-g0.out,<-h0.out,<-i0.out,<-j0.out,<-k0.out,s0.out,t0.out,v0.out,p0.out]
   rw[hd] at ey m0;simp only[jRc,syV,syC,Value.agg.injEq,Array.mk.injEq,List.cons.injEq,and_true] at ey;obtain⟨y0,y1,y2,y3,y4,y5,y6,y7,y8,y9⟩:=ey;obtain⟨x0,xq⟩:=zK (sz:=9) wr (Az _ _) z0;have x1:=xq 1 (by omega);have x2:=xq 2 (by omega);have x3:=xq 3 (by omega);have x4:=xq 4 (by omega);have x5:=xq 5 (by omega);have x6:=xq 6 (by omega);have x7:=xq 7 (by omega);have x8:=xq 8 (by omega);have x9:=xq 9 (by omega);rw[y0] at x0;rw[y1] at x1;rw[y2] at x2;rw[y3] at x3;rw[y4] at x4;rw[y5] at x5;rw[y6] at x6;rw[y7] at x7;rw[y8] at x8;rw[y9] at x9;have m1:H (∀ W,Ab wr.1.size wr W->CB 151 #[V p9 m q9,(o9:Int)] W (q6:Int)):=fun W hW=>jA1 p9 m q9 o9 q6 W (m0.below hW) (by omega) (by omega) r0.out
   have z1:¬ ((q6:Int)<0):=by omega
   have KB:H (Ab w w wr):=b0;have HQQ:H ((q6:Int)=((ofy k S (c+1):Nat):Int)):=by show _=_;rw[q0.out,<-r0.out,k0.out]
   have lg:=A7 x0;have g1:H (Ab wr.1.size wr wr):=Az _ _;clear z0 m0 b0 hk ho hd xq y0 y1 y2 y3 y4 y5 y6 y7 y8 y9 KH;go_wp2_with fail
   go_region_held3 (fun w'=>w'.cell? (Q b1 (f1+c*10+3) I)=M (Ag s3)) (go_keep) ((go_at_call 98;refine Ax (i1 _) ?_;rintro e v1 ⟨rfl,a0⟩;have bq:=jC a0;clear a0;have z3:=(bq.cell (p:=Q b1 (f1+c*10+3) I) (A7 x3)).trans x3))
   all_goals
    replace x4:=(bq.cell (p:=Q b1 (f1+c*10+4) I) (A7 x4)).trans x4
    replace x5:=(bq.cell (p:=Q b1 (f1+c*10+5) I) (A7 x5)).trans x5
    replace x6:=(bq.cell (p:=Q b1 (f1+c*10+6) I) (A7 x6)).trans x6
    replace x7:=(bq.cell (p:=Q b1 (f1+c*10+7) I) (A7 x7)).trans x7
    replace x8:=(bq.cell (p:=Q b1 (f1+c*10+8) I) (A7 x8)).trans x8
    replace x9:=(bq.cell (p:=Q b1 (f1+c*10+9) I) (A7 x9)).trans x9
    have a1:H (Ab wr.1.size wr v1):=jA g1 bq;clear bq z3 x0 x1 x2 x3;go_wp2_with fail
    go_region_held3 (fun w'=>w'.cell? (Q b1 (f1+c*10+4) I)=M (Ag s4)) (go_keep) ((go_at_call 98;refine Ax (j1 _) ?_;rintro e v2 ⟨rfl,a0⟩;have bq:=jC a0;clear a0;have z4:=(bq.cell (p:=Q b1 (f1+c*10+4) I) (A7 x4)).trans x4))
    all_goals
     replace x5:=(bq.cell (p:=Q b1 (f1+c*10+5) I) (A7 x5)).trans x5
     replace x6:=(bq.cell (p:=Q b1 (f1+c*10+6) I) (A7 x6)).trans x6
     replace x7:=(bq.cell (p:=Q b1 (f1+c*10+7) I) (A7 x7)).trans x7
     replace x8:=(bq.cell (p:=Q b1 (f1+c*10+8) I) (A7 x8)).trans x8
     replace x9:=(bq.cell (p:=Q b1 (f1+c*10+9) I) (A7 x9)).trans x9
     have c1:H (Ab wr.1.size wr v2):=jA a1 bq;clear bq z4 x4;go_wp2_with fail
     go_region_held3 (fun w'=>w'.cell? (Q b1 (f1+c*10+8) I)=M (Ag s8)) (go_keep) ((go_at_call 98;refine Ax (k1 _) ?_;rintro e v3 ⟨rfl,a0⟩;have bq:=jC a0;clear a0;have z8:=(bq.cell (p:=Q b1 (f1+c*10+8) I) (A7 x8)).trans x8))
     all_goals
      replace x9:=(bq.cell (p:=Q b1 (f1+c*10+9) I) (A7 x9)).trans x9
      have w0:H (Ab wr.1.size wr v3):=jA c1 bq;clear bq z8 x5 x6 x7 x8;go_wp2_with fail
      refine CM (m1 _ w0) fun w3 b3=>?_
      have HB3:H (Ab w w w3):=jA KB (jA w0 b3);clear b3 x9;go_wp2
      go_roundw
      case rel=>exact⟨c+1,by omega,by rw[HQQ.out],by go_num,HB3.out⟩
      case measure=>simp[intOf];omega
  .obtain rfl:c=n:=by omega
   go_wp2
   go_ret
   exact⟨rfl,b0⟩
end Go.Proofs.YtcaejlalnjnifaaGreat
