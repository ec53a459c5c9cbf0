import Derived.Test.YtcaejlalnjnifaaGreatP25
import Derived.Deep.CutRange
set_option maxHeartbeats 8000000
set_option maxRecDepth 2000
open Go.Value renaming slice->V,string->Ag,int->Ao,oneCell'->Aq
open Option renaming none->I,some->M
open Go.RowKit renaming Hid->H,Below->Ab
open Go.Addr renaming mk->Q
open Go.Obj renaming cells->J
open Go renaming World->Ad,Value->Aj,Calls->Ak,Addr->Al,maxLen->Au
open Go.Ending renaming returned->Ae
open ByteArray renaming empty->Ap
open Go.IntKind renaming i64->Ar
open Bool renaming false->Av,true->Aw
open Go.Proofs.Tryz
open Go.ChangeShapes Go.WideShapes Go.ChangeAt Go.RowKit
namespace Go.Proofs.YtcaejlalnjnifaaGreat
theorem ZT {w:Ad} {b off n:Nat} {zs:List Int} (h:jH w (Q b off I) n zs):∀ (j:Nat) (u:Aj),(zs.map (Ao Ar))[j]?=M u->w.cell? (((Q b off I):Al).add j)=M u:=fun j u hu=>by
 have hj:j<zs.length:=by
  have:=(Bz.1 hu).1
  simpa using this
 obtain⟨b',a0,e,hc⟩:=h.2 j (by rw[<-h.1];exact hj);cases e;have ea:((Q b off I):Al).add j=(Q b (off+j) I):=by unfold Addr.add;split <;> simp_all
 rw[ea,hc,<-hu];simp[hj]
theorem ZU {w:Ad} {a:Al} {n:Nat} {zs:List Int} (h:jH w (M a) n zs) (hn:0<n):a=(Q a.block a.off I):=by
 obtain⟨b,off,e,_⟩:=h.2 0 hn;cases e;rfl
theorem jH5 (n c:Nat) (w:Ad):Sem.run prog (binOp BinOp.eql 40 (V I n c) (V I 0 0)) w=.ok Aw w:=by rfl
theorem jH6 (x:Al) (n c:Nat) (w:Ad):Sem.run prog (binOp BinOp.eql 40 (V (M x) n c) (V I 0 0)) w=.ok Av w:=by rfl
theorem XB (a:OA) (cap:Nat) (zs:List Int) (w:Ad) (h:jH w a zs.length zs) (hn:zs.length<=1048576):Ak prog 77 #[V a zs.length cap] w fun e w'=>∃ a' c',e=Ae (V a' zs.length c')/\Ow w' w (inD zs) (V a' zs.length c') (rng w w'.1.size)/\Ab w w w':=by
 obtain⟨i0,hi,m0,n0,o0⟩:∃ i0,Tryz.prog.info? 3=M i0/\i0.zero=M (Ao Ar 0)/\i0.size=1/\i0.bytes=8:=⟨_,rfl,rfl,rfl,rfl⟩;obtain⟨n,HN⟩:=nnH zs.length;rw[HN.out] at h hn |-;match a,h with
 | none,h=>
  have e0:n=0:=by
   by_cases h0:n=0
   .exact h0
   .obtain⟨b,off,e,_⟩:=h.2 0 (by omega);cases e
  subst e0;have ez:zs=[]:=E0.1 HN;subst ez;have p0:=jH5;go_enter func77,ntmps77
  go_wp2
  go_ret
  exact⟨I,0,rfl,vT (zs:=[]) (Fp _ _ _ _) (fun x e=>by cases e),Az _ _⟩
 | some ad,h=>
  obtain⟨b,off,sp⟩:=ad;have k0:H (∀ (j:Nat) (u:Aj),(zs.map (Ao Ar))[j]?=M u->w.cell? ((⟨b,off,sp⟩:Al).add j)=M u):=fun j u hu=>by
   have hj:0<n:=by
    have:=(Bz.1 hu).1
    have:=HN.out
    simp at *;omega
   have e:=ZU h hj;simp at e;subst e;exact ZT h j u hu
  have g0:H ((zs.map (Ao Ar)).length=n*1):=by show _=_;simp[HN.out]
  have HO:H ((w.alloc (J #[] 3)).ownsRow w 3 1 (V (Q w 0 I) 0 0) 0 []):=by
   have:=Cc (e:=3) (size:=1) (base:=w.1.size) w #[] 0 (by simp) (by unfold Au;omega) (by simp)
   exact this
  have j0:H (∀ (j:Nat) (u:Aj),(zs.map (Ao Ar))[j]?=M u->(w.alloc (J #[] 3)).cell? ((⟨b,off,sp⟩:Al).add j)=M u):=fun j u hu=>by
   have:=k0 j u hu
   rw[((Az w w).alloc (Ay _) _).cell (A7 this)];exact this
  have d0:H (Ab w w (w.alloc (J #[] 3))):=(Az _ _).alloc (Ay _) _;clear h;have q0:=jH6;go_enter func77,ntmps77
  go_wp2_with (at_builtin;refine qC _ rfl _ _ 40 rfl w 3 i0 () 1 8 Ec hi m0 n0 o0 rfl (by decide) w 0 0 [] rfl ?_ ⟨b,off,sp⟩ n cap (zs.map (Ao Ar)) rfl ?_ ?_ (by simp[Aq]) (by unfold Au;omega) (by omega) (by simp) ?_;exact HO.out;exact g0.out;exact j0.out;intro g3 c0 w3 b0 a0)
  have f0:H (Ab w w w3):=d0.grown a0 (by simp) (fun x hx=>by cases hx;exact Ay _);have HO3:H (w3.ownsRow w 3 1 (V g3 zs.length c0) zs.length (zs.map (Ao Ar))):=by
   show World.ownsRow _ _ _ _ _ _ _;rw[HN.out];simpa using b0
  have lg:=A0 HO3 g3 rfl;clear b0 a0;go_wp2
  go_ret
  refine⟨M (Q g3 0 I),c0,by simp,?_,f0⟩;have:=vT HO3 (F:=rng w w3.1.size) (fun x e=>by cases e;exact lg)
  rw[HN.out] at this;exact this
theorem jNl {w:Ad} {ad:Al} {m:Nat} {S:Nat->BA} (h:jK w (M ad) m S):∀ (j:Nat) (u:Aj),(sL S m)[j]?=M u->w.cell? (ad.add j)=M u:=fun j u hu=>by
 have hj:j<m:=by
  have:=(Bz.1 hu).1
  rw[qW] at this;exact this
 obtain⟨b,off,e,hc⟩:=h j hj;cases e;have ea:((Q b off I):Al).add j=(Q b (off+j) I):=by unfold Addr.add;split <;> simp_all
 rw[ea,hc,<-hu,zA _ _ _ hj]
theorem XJ (r:BA) (k n i:Int) (b:BA) (a:OA) (m c:Nat) (S:Nat->BA) (w:Ad) (h:jK w a m S) (hm:m<=1048576):Ak prog 52 #[pcV r k n i b (V a m c)] w fun e w'=>∃ g c',e=Ae (pcV r k n i b (V (Q g 0 I) m c'))/\jI w' w (Q g 0 I) m c' S/\Ab w w w':=by
 obtain⟨i0,hi,r0,s0,t0⟩:=Ch Tryz.infoStr;obtain⟨A,HA⟩:=nmH w.1.size;obtain⟨D,HD⟩:=nmH (w.1.size+1);obtain⟨G,HG⟩:=nmH (w.1.size+1+1);obtain⟨w0,d0⟩:=nmH (((w.alloc (J (pcC r k n i b (V a m c)) 29)).alloc (J #[Zs,(),(),(),Zs,V I 0 0] 29)).alloc (J #[] 9));have RA:=zD d0 HA;have RD:=xL d0 HD;have n0:=bl3 d0;have m0:=hd n0;have HO:H (w0.ownsRow G 9 1 (V G 0 0) 0 []):=by
  show World.ownsRow _ _ _ _ _ _ _;rw[d0.out,HG.out];have:=Cc (e:=9) (size:=1) (base:=((w.alloc (J (pcC r k n i b (V a m c)) 29)).alloc (J #[Zs,(),(),(),Zs,V I 0 0] 29)).1.size) ((w.alloc (J (pcC r k n i b (V a m c)) 29)).alloc (J #[Zs,(),(),(),Zs,V I 0 0] 29)) #[] 0 (by simp) (by unfold Au;omega) (by simp)
  simpa using this
 have HL:H (A≠D/\w.1.size<=A/\w.1.size<=D/\A<G/\D<G/\w.1.size<=G/\G<=w0):=by
  have h1:=HA.out;have h2:=HD.out;have h3:=HG.out;have h4:=(A0 HO G rfl).2;exact⟨by omega,by omega,by omega,by omega,by omega,by omega,by omega⟩
 have j0:H (∀ (W:Ad) (g c':Nat),Row W A 29 (pcC r k n i b (V a m c))->Row W D 29 #[Zs,(),(),(),Zs,V I 0 0]->jI W G (Q g 0 I) m c' S->Ab w w W->Row (W.setCell (Q A 5 I) (V (Q g 0 I) m c')) A 29 (pcC r k n i b (V (Q g 0 I) m c'))/\Row (W.setCell (Q A 5 I) (V (Q g 0 I) m c')) D 29 #[Zs,(),(),(),Zs,V I 0 0]/\Row ((W.setCell (Q A 5 I) (V (Q g 0 I) m c')).setRow D (pcC r k n i b (V (Q g 0 I) m c'))) D 29 (pcC r k n i b (V (Q g 0 I) m c'))/\jI ((W.setCell (Q A 5 I) (V (Q g 0 I) m c')).setRow D (pcC r k n i b (V (Q g 0 I) m c'))) w (Q g 0 I) m c' S/\Ab w w ((W.setCell (Q A 5 I) (V (Q g 0 I) m c')).setRow D (pcC r k n i b (V (Q g 0 I) m c')))):=fun W g c' h1 h2 h3 h4=>by
  have l:=A0 h3 g rfl;refine⟨h1.set 5 _,h2.other 5 _ (Ci HL.1),(h2.other 5 _ (Ci HL.1)).row,?_,jG (h4.setCell HL.2.1 _) HL.2.2.1 _⟩;refine jL (jI.base (h3.setFar HL.2.2.2.1) HL.2.2.2.2.2.1) (qR _ _ _) (fun x e=>?_);cases e;show g≠D;have:=HL.2.2.2.2.1
  omega
 have x5:=RA.cell 5;have f5:=RA.free 5;have lA:=RA.lt;simp at x5;match a,h with
 | none,h=>
  have e0:m=0:=by
   by_cases h0:m=0
   .exact h0
   .obtain⟨b',off,e,_⟩:=h 0 (by omega);cases e
  subst e0;go_enter func52,ntmps52
  go_wp2_with fail
  refine B7 (v:=pcV r k n i b (V (Q (w.1.size+1+1) 0 I) 0 0)) (by simp[results,results52,go_sem]) rfl ⟨w.1.size+1+1,0,rfl,?_,(((Az _ _).alloc (Ay _) _).alloc (by simp) _).alloc (by simp;omega) _⟩;have:=Cc (e:=9) (size:=1) (base:=w.1.size) ((w.alloc (J (pcC r k n i b (V (Q (w.1.size+1+1) 0 I) 0 0)) 29)).alloc (J (pcC r k n i b (V (Q (w.1.size+1+1) 0 I) 0 0)) 29)) #[] 0 (by simp;omega) (by unfold Au;omega) (by simp)
  unfold jI;simpa [sL] using this
 | some ad,h=>
  have p0:H (∀ (j:Nat) (u:Aj),(sL S m)[j]?=M u->w0.cell? (ad.add j)=M u):=fun j u hu=>by
   have:=jNl h j u hu
   rw[n0.cell (A7 this)];exact this
  have o0:H ((sL S m).length=m*1):=by show _=_;rw[qW];omega
  have k0:H (∀ u∈sL S m,u.oneCell'=Aw):=by
   show ∀ u∈sL S m,_;intro u hu;obtain⟨j,hj⟩:=List.getElem?_of_mem hu;have q0:j<m:=by have:=(Bz.1 hj).1;rw[qW] at this;exact this
   rw[zA _ _ _ q0] at hj;cases hj;rfl
  go_enter func52,ntmps52
  go_wp2_with (first|(at_builtin;rw[<-d0.out,<-HG.out,<-HD.out,<-HA.out];refine qC _ rfl _ _ 27 rfl G 9 i0 Ap 1 16 C3 hi r0 s0 t0 rfl (by decide) G 0 0 [] rfl ?_ ad m c (sL S m) rfl ?_ ?_ ?_ (by unfold Au;omega) (by omega) ?_ ?_;exact HO.out;exact o0.out;exact p0.out;exact k0.out;exact HL.out.2.2.2.2.2.2;intro g3 a0 w3 f0 c0;have bG:Ab G w0 w3:=(Az _ _).grown c0 HL.out.2.2.2.2.2.2 (fun x hx=>by cases hx;exact Ay _);have g0:Row w3 A 29 (pcC r k n i b (V (M ad) m c))/\Row w3 D 29 #[Zs,(),(),(),Zs,V I 0 0]/\jI w3 G g3 m a0 S/\Ab w w w3:=⟨RA.out.below bG HL.out.2.2.2.1,RD.out.below bG HL.out.2.2.2.2.1,(by have:=f0;unfold jI;simpa using this),m0.out.grown c0 m0.out.size (fun x hx=>by cases hx;exact HL.out.2.2.2.2.2.1)⟩;have y5:=g0.1.cell 5;have g5:=g0.1.free 5;simp at y5;have b0:H _:=g0;clear f0 c0 bG g0 x5 f5)|(refine Bg rfl 29 _ rfl A rfl 29 (pcC r k n i b (V g3 m a0)) (0,0) _ ?_ underlying29 rfl Tryz.infoPc ?_;exact(j0.out w3 g3 a0 b0.out.1 b0.out.2.1 b0.out.2.2.1 b0.out.2.2.2).1)|(refine Ca rfl 29 _ _ rfl D (pcC r k n i b (V g3 m a0)) rfl rfl 29 #[Zs,(),(),(),Zs,V I 0 0] ?_ Tryz.infoPc rfl (by simp[Aq]) ?_;exact(j0.out w3 g3 a0 b0.out.1 b0.out.2.1 b0.out.2.2.1 b0.out.2.2.2).2.1))
  have KF:=j0 w3 g3 a0 b0.1 b0.2.1 b0.2.2.1 b0.2.2.2;exact B7 (v:=pcV r k n i b (V g3 m a0)) (Cs results52 _ _ D 29 _ (0,0) _ rfl KF.2.2.1 underlying29 rfl Tryz.infoPc) rfl ⟨g3,a0,rfl,KF.2.2.2.1,KF.2.2.2.2⟩
theorem JQ (r:BA) (k n i:Int) (b:BA) (a:OA) (m c:Nat) (S:Nat->BA) (w:Ad) (h:jK w a m S) (hm:m<=1048576) (hr:r.size<=1048576) (hb:b.size<=1048576) (hS:∀ i,i<m->(S i).size<=1048576):Ak prog 121 #[pcV r k n i b (V a m c)] w fun e w'=>∃ g,e=Ae (pcV r k n i b (V (Q g 0 I) m m))/\jI w' w (Q g 0 I) m m S/\Ab w w w':=by
 obtain⟨i0,hi,k2,m2,n2⟩:=Ch Tryz.infoStr;obtain⟨A,HA⟩:=nmH w.1.size;obtain⟨D,HD⟩:=nmH (w.1.size+1);obtain⟨w0,o0⟩:=nmH ((w.alloc (J (pcC r k n i b (V a m c)) 29)).alloc (J #[Zs,(),(),(),Zs,V I 0 0] 29));have RA:=zP o0 HA;have RD:=JO o0 HD;have o1:=bl2 o0;have g1:H (Ab w w w0):=o1;have b0:H (A≠D/\w.1.size<=A/\w.1.size<=D):=⟨by have:=HA.out;have:=HD.out;omega,by have:=HA.out;omega,by have:=HD.out;omega⟩;have KH:H (jK w a m S):=h;have k1:H (∀ W,CB 120 #[r] W r):=fun W=>qN r W hr
 have j1:H (∀ W,CB 120 #[b] W b):=fun W=>qN b W hb
 have g2:H (∀ i,i<m->∀ W,CB 120 #[(S i)] W (S i)):=fun i hi W=>qN (S i) W (hS i hi)
 clear h o1 hr hb hS;go_enter func121,ntmps121
 go_wp2_with fail
 rw[<-o0.out,<-HD.out,<-HA.out];go_cut [] from 6 to 13 (fun wx=>H (Row wx A 29 (pcC r k n i b (V a m c))/\Row wx D 29 #[Zs,(),(),(),Zs,V I 0 0]/\Ab w w wx))
 case first=>
  have lA:=RA.lt;have lD:=RD.lt;have q0:=RA.cell 0;have q1:=RA.cell 1;have q2:=RA.cell 2;have q3:=RA.cell 3;have q4:=RA.cell 4;have q5:=RA.cell 5;have f0:=RA.free 0;have f4:=RA.free 4;simp at q0 q1 q2 q3 q4 q5;have r0:H (∀ W,Ab w0 w0 W->Row W A 29 (pcC r k n i b (V a m c))/\Row W D 29 #[Zs,(),(),(),Zs,V I 0 0]/\Ab w w W):=fun W hW=>⟨RA.below hW lA,RD.below hW lD,jA g1 hW⟩
  have KQ:H (∀ W,Ab w0 w0 W->W.cell? A=M (Ag r)/\W.cell? (Q A 1 I)=M (Ao Ar k)/\W.cell? (Q A 2 I)=M (Ao Ar n)/\W.cell? (Q A 3 I)=M (Ao Ar i)/\W.cell? (Q A 4 I)=M (Ag b)/\W.cell? (Q A 5 I)=M (V a m c)):=fun W hW=>by
   have:=(r0 W hW).1
   have z0:=this.cell 0;have z1:=this.cell 1;have z2:=this.cell 2;have z3:=this.cell 3;have z4:=this.cell 4;have z5:=this.cell 5;simp at z0 z1 z2 z3 z4 z5;exact⟨z0,z1,z2,z3,z4,z5⟩
  have KF:H (∀ W,Ab w0 w0 W->W.frozen? A=Av/\W.frozen? (Q A 4 I)=Av):=fun W hW=>⟨(r0 W hW).1.free 0,(r0 W hW).1.free 4⟩
  go_region_held3 (fun w'=>w'.cell? (Q A 0 I)=M (Ag r)/\w'.cell? (Q A 1 I)=M (Ao Ar k)/\w'.cell? (Q A 2 I)=M (Ao Ar n)/\w'.cell? (Q A 3 I)=M (Ao Ar i)/\w'.cell? (Q A 4 I)=M (Ag b)/\w'.cell? (Q A 5 I)=M (V a m c)) (go_keep) ((first|(guard_hyp d1;go_at_call 120;refine Ax (j1 _) ?_;rintro e w8 ⟨rfl,b8⟩;have u0:=jA n1 b8;obtain⟨t0,t1,t2,t3,t4,t5⟩:=KQ _ u0;have g0:=(KF _ u0).1;have g4:=(KF _ u0).2;have j0:=(r0 _ u0).1.set 0 r;have k0:=j0.set 4 b;have s0:=j0.cell 0;have v0:=k0.cell 0;have s1:=j0.cell 1;have v1:=k0.cell 1;have s2:=j0.cell 2;have v2:=k0.cell 2;have s3:=j0.cell 3;have v3:=k0.cell 3;have s4:=j0.cell 4;have v4:=k0.cell 4;have s5:=j0.cell 5;have v5:=k0.cell 5;simp at s0 v0 s1 v1 s2 v2 s3 v3 s4 v4 s5 v5;clear j0 k0)|(go_at_call 120;refine Ax (k1 _) ?_;rintro e w7 ⟨rfl,b7'⟩;have n1:=jC b7';clear b7';have d1:H True:=trivial;obtain⟨p0,p1,p2,p3,p4,p5⟩:=KQ _ n1)))
  all_goals
   obtain⟨i2,j2,B8⟩:=r0 _ u0;go_wp2_with fail
   go_meet
   exact⟨(i2.set 0 _).set 4 _,(j2.other 0 _ (Ci b0.1)).other 4 _ (Ci b0.1),(B8.setCell b0.2.1 _).setCell b0.2.1 _⟩
 obtain⟨c1,m1,Bc⟩:=hcut.out;clear hcut RA RD g1 o0 k1 j1;have RA:H (Row wc A 29 (pcC r k n i b (V a m c))):=c1;have RD:H (Row wc D 29 #[Zs,(),(),(),Zs,V I 0 0]):=m1;have b1:H (Ab w w wc):=Bc;have x5:=c1.cell 5;simp at x5;obtain⟨g,HG⟩:=nmH wc.1.size;clear c1 m1 Bc;go_wp2_with (at_make;refine Cx _ rfl _ _ 27 rfl wc 9 i0 Ap 1 C3 hi k2 m2 Ar Ar _ _ m rfl rfl rfl rfl (by rw[n2];omega) (by unfold Au;omega) (Ay _) ?_;intro w1 d0 a1;have ho1:jI w1 wc (Q wc 0 I) m m (fun i=>if i<0 then S i else Ap):=(by have e:sL (fun i=>if i<0 then S i else Ap) m=List.replicate m (Ag Ap):=(by rw[<-ZE];exact xQ (fun i _=>by simp));unfold jI;rw[e];simpa [Value.cells,Dp] using d0);have hb1:Ab wc wc w1:=(Az _ _).grown a1 (Ay _) (by simp);have y5:=(hb1.cell (p:=Q A 5 I) RA.lt).trans x5)
 rw[<-HG.out] at ho1;rw[<-HG.out];clear d0 a1;go_loopw [21] (fun vi wr=>∃ q:Nat,q<=m/\vi=Ao Ar (q:Int)/\H (jI wr g (Q g 0 I) m m (fun i=>if i<q then S i else Ap))/\Ab wc wc wr) (fun vi _=>m-(intOf vi).toNat)
 case atStart=>exact⟨0,Bi _,rfl,ho1,hb1⟩
 case round=>
  obtain⟨q,hq,rfl,d0,c0⟩:=hrel;clear ho1 hb1 y5 x5;by_cases hlt:q<m
  .obtain⟨b',a3,rfl,hc⟩:=(KH.below b1).below c0 q hlt;have r2:(q:Int)<(m:Int):=by omega
   have i1:H _:=g2 q hlt;obtain⟨s,HS⟩:=nnH (S q);rw[HS.out] at hc i1;have a2:H (Ab wc wc wr):=c0;clear c0;go_wp2_with fail
   refine Ax (i1 _) ?_;rintro e w2 ⟨rfl,b2⟩;have e0:jI w2 g (Q g 0 I) m m (fun i=>if i<q then S i else Ap):=d0.below b2;obtain⟨old,u2⟩:∃ v,w2.cell? (Q g q I)=M v:=by
    rw[Bt e0 q (by omega)];exact⟨_,zA _ _ _ hlt⟩
   have e3:=B0 e0 q;have e1:=Dh e0 q s;rw[jA5 _ _ _ _ hlt] at e1;have HO:H (jI (w2.setCell (Q g q I) s) g (Q g 0 I) m m (fun i=>if i<q+1 then S i else Ap)):=jI.congr e1.1 (fun i _=>by
    by_cases e:i=q
    .simp[e,HS.out]
    .by_cases e2:i<q
     .simp[e,e2,show i<q+1 by omega]
     .simp[e,e2,show ¬ i<q+1 by omega])
   have r1:Ab wc wc (w2.setCell (Q g q I) s):=(jA a2 b2).setCell (by rw[HG.out];exact Ay _) _;have KNE:H _:=r1;clear e1 e0 d0 b2 r1 hc;go_wp2
   go_roundw
   case rel=>exact⟨q+1,by omega,by go_num,HO,KNE.out⟩
   case measure=>simp[intOf];omega
  .obtain rfl:q=m:=by omega
   have HO:jI wr g (Q g 0 I) q q S:=d0.congr (fun i hi=>A6 hi);have h0:=RA.below c0 RA.lt;have a0:=RD.below c0 RD.lt;have m0:A<g/\D<g:=by rw[HG.out];exact⟨RA.lt,RD.lt⟩
   have n0:H (Row (((((((wr.setCell (Q A 5 I) (V (Q g 0 I) q q)).setCell (Q D 0 I) r).setCell (Q D 1 I) k).setCell (Q D 2 I) n).setCell (Q D 3 I) (Ao Ar i)).setCell (Q D 4 I) b).setCell (Q D 5 I) (V (Q g 0 I) q q)) D 29 (pcC r k n i b (V (Q g 0 I) q q))):=((((((a0.other 5 _ (Ci b0.1)).set 0 _).set 1 _).set 2 _).set 3 _).set 4 _).set 5 _;have HO3:H (jI (((((((wr.setCell (Q A 5 I) (V (Q g 0 I) q q)).setCell (Q D 0 I) r).setCell (Q D 1 I) k).setCell (Q D 2 I) n).setCell (Q D 3 I) (Ao Ar i)).setCell (Q D 4 I) b).setCell (Q D 5 I) (V (Q g 0 I) q q)) w (Q g 0 I) q q S):=jI.base ((((((((HO.setFar m0.1).setFar m0.2).setFar m0.2).setFar m0.2).setFar m0.2).setFar m0.2).setFar m0.2)) (by rw[HG.out];exact b1.size);have u1:H (Ab w w (((((((wr.setCell (Q A 5 I) (V (Q g 0 I) q q)).setCell (Q D 0 I) r).setCell (Q D 1 I) k).setCell (Q D 2 I) n).setCell (Q D 3 I) (Ao Ar i)).setCell (Q D 4 I) b).setCell (Q D 5 I) (V (Q g 0 I) q q))):=(((((((jA b1 c0).setCell b0.2.1 _).setCell b0.2.2 _).setCell b0.2.2 _).setCell b0.2.2 _).setCell b0.2.2 _).setCell b0.2.2 _).setCell b0.2.2 _;have x0:=h0.cell 0;have x1:=h0.cell 1;have x2:=h0.cell 2;have x3:=h0.cell 3;have x4:=h0.cell 4;have x5:=h0.cell 5;have y0:=a0.cell 0;have y1:=a0.cell 1;have y2:=a0.cell 2;have y3:=a0.cell 3;have y4:=a0.cell 4;have y5:=a0.cell 5;have fA:=h0.free 5;have f0:=a0.free 0;have f1:=a0.free 1;have f2:=a0.free 2;have f3:=a0.free 3;have f4:=a0.free 4;have f5:=a0.free 5;simp at x0 x1 x2 x3 x4 x5 y0 y1 y2 y3 y4 y5;have b3:¬ D=A:=fun e=>b0.1 e.symm
   have o2:¬ A=D:=b0.1;clear h0 a0 HO c0 d0;go_wp2
   refine B7 (v:=pcV r k n i b (V (Q g 0 I) q q)) (by
    have p0:=n0.cell 0;have p1:=n0.cell 1;have p2:=n0.cell 2;have p3:=n0.cell 3;have p4:=n0.cell 4;have p5:=n0.cell 5;simp at p0 p1 p2 p3 p4 p5;simp[results,results121,go_sem,p0,p1,p2,p3,p4,p5]) rfl ⟨g,rfl,HO3,u1⟩
end Go.Proofs.YtcaejlalnjnifaaGreat
