import Derived.Test.YtcaejlalnjnifaaGreatR17
import Derived.Test.YtcaejlalnjnifaaGreatR19
import Derived.Test.YtcaejlalnjnifaaGreatR18
import Derived.Lib.SlBuf
set_option maxHeartbeats 8000000
set_option maxRecDepth 2000
open Go.Value renaming slice->V,pointer->Af,string->Ag,tuple->Ah,agg->Ai,int->Ao,oneCell'->Aq
open Option renaming none->I,some->M
open Go.RowKit renaming Hid->H,Below->Ab
open Go.Addr renaming mk->Q
open Go renaming undef->O,World->Ad,Value->Aj,Calls->Ak,Addr->Al,maxLen->Au
open Go.Obj renaming cells->J
open Go.Ending renaming returned->Ae
open ByteArray renaming empty->Ap
open Go.IntKind renaming i64->Ar
open Bool renaming false->Av,true->Aw
open Go.Proofs.Tryz
open Go.ChangeShapes Go.WideShapes Go.ChangeAt Go.RowKit
namespace Go.Proofs.YtcaejlalnjnifaaGreat
theorem Ow.far {w:Ad} {B:Nat} {d:Dt} {v:Aj} {F:Nat->Prop} (h:Ow w B d v F) {g:Nat} (o:Nat) (x:Aj) (hn:¬ F g):Ow (w.setCell (Q g o I) x) B d v F:=
 h.turned (Trn.set w o x (F:=fun y=>y=g) rfl) (fun _ hy e=>hn (e▸hy))
structure SlO (w:Ad) (B:Nat) (s:Sl) (v6 v11 v12:Aj) (F6 F11 F12:Nat->Prop):Prop where
 t:Ow w B (txD s.p.m s.p.S) v6 F6
 e:Ow w B (inD s.ze) v11 F11
 z:Ow w B (inD s.zr) v12 F12
 d1:∀ g,F6 g->¬ F11 g
 d2:∀ g,F6 g->¬ F12 g
 d3:∀ g,F11 g->¬ F12 g
structure SlK (s:Sl):Prop where
 r:s.r.size<=1048576
 pr:s.p.r.size<=1048576
 pb:s.p.b.size<=1048576
 m:s.p.m<=1048576
 tx:∀ i,i<s.p.m->(s.p.S i).size<=1048576
 ne:s.ze.length<=1048576
 nr:s.zr.length<=1048576
def CpB (w0 wc w:Ad) (s:Sl) (A D g6:Nat) (wx:Ad):Prop:=∃ (e11 e12:OA) (h11 h12:Nat) (F11 F12:Nat->Prop),Row wx A 42 (slC s (V g6 s.p.m s.p.m) (V e11 s.ze.length h11) (V e12 s.zr.length h12))/\Row wx D 42 #[Zs,Zs,(),(),(),Zs,V I 0 0,Av,Av,Av,Av,V I 0 0,V I 0 0]/\jI wx w0 g6 s.p.m s.p.m s.p.S/\Ow wx wc (inD s.ze) (V e11 s.ze.length h11) F11/\Ow wx wc (inD s.zr) (V e12 s.zr.length h12) F12/\(∀ x,F11 x->¬ F12 x)/\(∀ x,F11 x->wc.1.size<=x)/\(∀ x,F12 x->wc.1.size<=x)/\Ab w w wx
theorem jSy {w0 wc w w7 w8:Ad} {s:Sl} {A D g6 e0 f0 i0 j0:Nat} {c0 d0 g0 h0:OA} (RA:Row wc A 42 (slC s (V g6 s.p.m s.p.m) (V g0 s.ze.length i0) (V h0 s.zr.length j0))) (RD:Row wc D 42 #[Zs,Zs,(),(),(),Zs,V I 0 0,Av,Av,Av,Av,V I 0 0,V I 0 0]) (O6:jI wc w0 g6 s.p.m s.p.m s.p.S) (hA:A<w0) (b0:A≠D/\w.1.size<=A) (B:Ab w w wc) (b7:Ab wc wc w7) (O7:Ow w7 wc (inD s.ze) (V c0 s.ze.length e0) (rng wc w7.1.size)) (b8:Ab w7 w7 w8) (O8:Ow w8 w7 (inD s.zr) (V d0 s.zr.length f0) (rng w7 w8.1.size)):CpB w0 wc w s A D g6 ((w8.setCell (Q A 11 I) (V c0 s.ze.length e0)).setCell (Q A 12 I) (V d0 s.zr.length f0)):=by
 have lA:=RA.lt;have n7:=b7.size;have a0:=jA b7 b8;have h1:¬ rng wc w7.1.size A:=fun h=>by have:=h.1;omega
 have h2:¬ rng w7 w8.1.size A:=fun h=>by have:=h.1;omega
 exact⟨c0,d0,e0,f0,_,_,((RA.below a0 lA).set 11 _).set 12 _,((RD.below a0 RD.lt).other 11 _ (Cj b0.1)).other 12 _ (Cj b0.1),((O6.below a0).setFar hA).setFar hA,((O7.below b8).far 11 _ h1).far 12 _ h1,((O8.base n7).far 11 _ h2).far 12 _ h2,fun x hx hy=>by have:=hx.2;have:=hy.1;omega,fun x hx=>hx.1,fun x hx=>by have:=hx.1;omega,((jA B a0).setCell b0.2 _).setCell b0.2 _⟩
theorem jEp (s:Sl) (a6 b0 a0:OA) (c6 e0 c0:Nat) (w:Ad) (h6:jL w a6 s.p.m s.p.S) (d0:jH w b0 s.ze.length s.ze) (f0:jH w a0 s.zr.length s.zr) (hs:SlK s):Ak prog 61 #[slV s (V a6 s.p.m c6) (V b0 s.ze.length e0) (V a0 s.zr.length c0)] w fun e w'=>∃ (g6:Nat) (g0 h0:OA) (d0 f0:Nat) (F6 o0 r0:Nat->Prop),e=Ae (slV s (V (Q g6 0 I) s.p.m s.p.m) (V g0 s.ze.length d0) (V h0 s.zr.length f0))/\SlO w' w s (V (Q g6 0 I) s.p.m s.p.m) (V g0 s.ze.length d0) (V h0 s.zr.length f0) F6 o0 r0/\Ab w w w':=by
 obtain⟨A,HA⟩:=nmH w.1.size;obtain⟨D,HD⟩:=nmH (w.1.size+1);obtain⟨w0,j0⟩:=nmH ((w.alloc (J (slC s (V a6 s.p.m c6) (V b0 s.ze.length e0) (V a0 s.zr.length c0)) 42)).alloc (J #[Zs,Zs,(),(),(),Zs,V I 0 0,Av,Av,Av,Av,V I 0 0,V I 0 0] 42));have RA:=xS j0 HA;have RD:=zR j0 HD;have v1:=bl2 j0;have b1:H (Ab w w w0):=v1;have hAD:H (A≠D/\w.1.size<=A/\w.1.size<=D):=⟨by have:=HA.out;have:=HD.out;omega,by have:=HA.out;omega,by have:=HD.out;omega⟩;have g1:H (∀ W,CB 120 #[s.r] W s.r):=fun W=>qO s.r W hs.r
 have f1:H (∀ W,Ab w w W->Ak prog 121 #[pcV s.p.r s.p.k s.p.n s.p.i s.p.b (V a6 s.p.m c6)] W fun e w'=>∃ g,e=Ae (pcV s.p.r s.p.k s.p.n s.p.i s.p.b (V (Q g 0 I) s.p.m s.p.m))/\jI w' W.1.size (Q g 0 I) s.p.m s.p.m s.p.S/\Ab W.1.size W w'):=fun W hW=>JT _ _ _ _ _ a6 _ c6 _ W (h6.below hW) hs.m hs.pr hs.pb hs.tx
 have c1:H (∀ W,Ab w w W->Ak prog 77 #[V b0 s.ze.length e0] W _):=fun W hW=>XF b0 e0 s.ze W (d0.below hW) hs.ne
 have e1:H (∀ W,Ab w w W->Ak prog 77 #[V a0 s.zr.length c0] W _):=fun W hW=>XF a0 c0 s.zr W (f0.below hW) hs.nr
 clear h6 d0 f0 v1 hs;go_enter func61,ntmps61
 go_wp2_with fail
 rw[<-j0.out,<-HD.out,<-HA.out];go_cut [] from 3 to 10 (fun wx=>H (∃ g6,Row wx A 42 (slC s (V (Q g6 0 I) s.p.m s.p.m) (V b0 s.ze.length e0) (V a0 s.zr.length c0))/\Row wx D 42 #[Zs,Zs,(),(),(),Zs,V I 0 0,Av,Av,Av,Av,V I 0 0,V I 0 0]/\jI wx w0 (Q g6 0 I) s.p.m s.p.m s.p.S/\Ab w w wx))
 case first=>
  have lA:=RA.lt;have lD:=RD.lt;obtain⟨q0,q1,q2,q3,q4,q5⟩:=RA.c6 0 1 2 3 4 5;obtain⟨q6,q7,q8,q9,i2,y0⟩:=RA.c6 6 7 8 9 10 11;have a1:=RA.cell 12;simp at q0 q1 q2 q3 q4 q5 q6 q7 q8 q9 i2 y0 a1;have s0:H (∀ W,Ab w0 w0 W->Row W A 42 (slC s (V a6 s.p.m c6) (V b0 s.ze.length e0) (V a0 s.zr.length c0))/\Row W D 42 #[Zs,Zs,(),(),(),Zs,V I 0 0,Av,Av,Av,Av,V I 0 0,V I 0 0]/\Ab w w W/\w0.1.size<=W.1.size):=fun W hW=>⟨RA.below hW lA,RD.below hW lD,jA b1 hW,hW.size⟩
  have j1:H (∀ W,Row W A 42 (slC s (V a6 s.p.m c6) (V b0 s.ze.length e0) (V a0 s.zr.length c0))/\Row W D 42 #[Zs,Zs,(),(),(),Zs,V I 0 0,Av,Av,Av,Av,V I 0 0,V I 0 0]/\Ab w w W/\w0.1.size<=W.1.size->Row (W.setCell A s.r) A 42 (slC s (V a6 s.p.m c6) (V b0 s.ze.length e0) (V a0 s.zr.length c0))/\Row (W.setCell A s.r) D 42 #[Zs,Zs,(),(),(),Zs,V I 0 0,Av,Av,Av,Av,V I 0 0,V I 0 0]/\Ab w w (W.setCell A s.r)/\w0.1.size<=(W.setCell A s.r).1.size):=fun W hW=>⟨hW.1.set 0 _,hW.2.1.other 0 _ (Cj hAD.1),hW.2.2.1.setCell hAD.2.1 _,by simpa using hW.2.2.2⟩
  have i1:H (∀ W W' g,Row W A 42 (slC s (V a6 s.p.m c6) (V b0 s.ze.length e0) (V a0 s.zr.length c0))/\Row W D 42 #[Zs,Zs,(),(),(),Zs,V I 0 0,Av,Av,Av,Av,V I 0 0,V I 0 0]/\Ab w w W/\w0.1.size<=W.1.size->jI W' W.1.size (Q g 0 I) s.p.m s.p.m s.p.S->Ab W.1.size W W'->Row W' A 42 (slC s (V a6 s.p.m c6) (V b0 s.ze.length e0) (V a0 s.zr.length c0))/\Row W' D 42 #[Zs,Zs,(),(),(),Zs,V I 0 0,Av,Av,Av,Av,V I 0 0,V I 0 0]/\jI W' w0 (Q g 0 I) s.p.m s.p.m s.p.S/\Ab w w W'):=fun W W' g hW hO hB=>⟨hW.1.below hB hW.1.lt,hW.2.1.below hB hW.2.1.lt,jI.base hO hW.2.2.2,jA hW.2.2.1 hB⟩
  have KQ:H (∀ W,Row W A 42 (slC s (V a6 s.p.m c6) (V b0 s.ze.length e0) (V a0 s.zr.length c0))->W.cell? A=M (Ag s.r)/\W.cell? (Q A 1 I)=M (Ag s.p.r)/\W.cell? (Q A 2 I)=M (Ao Ar s.p.k)/\W.cell? (Q A 3 I)=M (Ao Ar s.p.n)/\W.cell? (Q A 4 I)=M (Ao Ar s.p.i)/\W.cell? (Q A 5 I)=M (Ag s.p.b)/\W.cell? (Q A 6 I)=M (V a6 s.p.m c6)/\W.cell? (Q A 7 I)=M (.bool s.h)/\W.cell? (Q A 8 I)=M (.bool s.e)/\W.cell? (Q A 9 I)=M (.bool s.d)/\W.cell? (Q A 10 I)=M (.bool s.o)/\W.cell? (Q A 11 I)=M (V b0 s.ze.length e0)/\W.cell? (Q A 12 I)=M (V a0 s.zr.length c0)):=fun W hW=>by
   obtain⟨z0,z1,z2,z3,z4,z5⟩:=hW.c6 0 1 2 3 4 5;obtain⟨z6,z7,z8,z9,x1,n0⟩:=hW.c6 6 7 8 9 10 11;have i0:=hW.cell 12;simp at z0 z1 z2 z3 z4 z5 z6 z7 z8 z9 x1 n0 i0;exact⟨z0,z1,z2,z3,z4,z5,z6,z7,z8,z9,x1,n0,i0⟩
  have KF:H (∀ W,Row W A 42 (slC s (V a6 s.p.m c6) (V b0 s.ze.length e0) (V a0 s.zr.length c0))->W.frozen? A=Av/\W.frozen? (Q A 1 I)=Av/\W.frozen? (Q A 2 I)=Av/\W.frozen? (Q A 3 I)=Av/\W.frozen? (Q A 4 I)=Av/\W.frozen? (Q A 5 I)=Av/\W.frozen? (Q A 6 I)=Av):=fun W hW=>⟨hW.free 0,hW.free 1,hW.free 2,hW.free 3,hW.free 4,hW.free 5,hW.free 6⟩
  go_region_with ((first|(go_at_call 121;refine Ax (f1 _ (by first|exact K7.2.2.1|exact(j1 _ K7).2.2.1)) ?_;rintro e w8 ⟨g6,rfl,O8,b8⟩;have K8:H (Row w8 A 42 (slC s (V a6 s.p.m c6) (V b0 s.ze.length e0) (V a0 s.zr.length c0))/\Row w8 D 42 #[Zs,Zs,(),(),(),Zs,V I 0 0,Av,Av,Av,Av,V I 0 0,V I 0 0]/\jI w8 w0 (Q g6 0 I) s.p.m s.p.m s.p.S/\Ab w w w8):=(by first|exact i1 _ _ _ K7 O8 b8|exact i1 _ _ _ (j1 _ K7) O8 b8);clear O8 b8;obtain⟨t0,t1,t2,t3,t4,t5,t6,t7,t8,t9,t10,t11,t12⟩:=KQ _ K8.1;obtain⟨gf0,gf1,gf2,gf3,gf4,gf5,gf6⟩:=KF _ K8.1)|(go_at_call 120;refine Ax (g1 _) ?_;rintro e w7 ⟨rfl,b7'⟩;have m0:=jC b7';clear b7';have K7:H _:=s0.out _ m0;clear m0;obtain⟨p0,p1,p2,p3,p4,p5,p6,p7,p8,p9,p10,p11,p12⟩:=KQ _ K7.1;obtain⟨pf0,pf1,pf2,pf3,pf4,pf5,pf6⟩:=KF _ K7.1)))
  all_goals
   have lA8:=lA;go_wp2_with fail
   go_meet
   first
    | exact⟨g6,(((((((K8.1.set 0 _).set 1 _).set 2 _).set 3 _).set 4 _).set 5 _).set 6 _),(((((((K8.2.1.other 0 _ (Cj hAD.1)).other 1 _ (Cj hAD.1)).other 2 _ (Cj hAD.1)).other 3 _ (Cj hAD.1)).other 4 _ (Cj hAD.1)).other 5 _ (Cj hAD.1)).other 6 _ (Cj hAD.1)),(((((((K8.2.2.1.setFar lA8).setFar lA8).setFar lA8).setFar lA8).setFar lA8).setFar lA8).setFar lA8),(((((((K8.2.2.2.setCell hAD.2.1 _).setCell hAD.2.1 _).setCell hAD.2.1 _).setCell hAD.2.1 _).setCell hAD.2.1 _).setCell hAD.2.1 _).setCell hAD.2.1 _)⟩
    | exact⟨g6,((((((K8.1.set 1 _).set 2 _).set 3 _).set 4 _).set 5 _).set 6 _),((((((K8.2.1.other 1 _ (Cj hAD.1)).other 2 _ (Cj hAD.1)).other 3 _ (Cj hAD.1)).other 4 _ (Cj hAD.1)).other 5 _ (Cj hAD.1)).other 6 _ (Cj hAD.1)),((((((K8.2.2.1.setFar lA8).setFar lA8).setFar lA8).setFar lA8).setFar lA8).setFar lA8),((((((K8.2.2.2.setCell hAD.2.1 _).setCell hAD.2.1 _).setCell hAD.2.1 _).setCell hAD.2.1 _).setCell hAD.2.1 _).setCell hAD.2.1 _)⟩
 obtain⟨g6,n1,r1,Oc,Bc⟩:=hcut.out;clear hcut RA RD g1 f1;have RA:H (Row wc A 42 (slC s (V (Q g6 0 I) s.p.m s.p.m) (V b0 s.ze.length e0) (V a0 s.zr.length c0))):=n1;have RD:H (Row wc D 42 #[Zs,Zs,(),(),(),Zs,V I 0 0,Av,Av,Av,Av,V I 0 0,V I 0 0]):=r1;have KO6:H (jI wc w0 (Q g6 0 I) s.p.m s.p.m s.p.S):=Oc;have KBc:H (Ab w w wc):=Bc;have HL0:H (A<w0/\D<w0):=by
  have h1:=HA.out;have h2:=HD.out;rw[j0.out];show A<_/\D<_;simp
  omega
 clear n1 r1 Oc Bc b1 j0;go_upto_region 2 with fail
 obtain⟨wb,e2⟩:∃ x,x=wc:=⟨wc,rfl⟩;subst e2;go_cut [] from 11 to 18 (fun wx=>H (CpB w0 wb w s A D g6 wx))
 case first=>
  have lA:=RA.lt;have lD:=RD.lt;obtain⟨y0,a1⟩:=RA.c2 11 12;simp at y0 a1;have s0:H (∀ W,Ab wb wb W->(W.cell? (Q A 11 I)=M (V b0 s.ze.length e0)/\W.cell? (Q A 12 I)=M (V a0 s.zr.length c0))/\W.frozen? (Q A 11 I)=Av/\W.frozen? (Q A 12 I)=Av):=fun W hW=>by
   have R:=RA.below hW lA;obtain⟨n0,i0⟩:=R.c2 11 12;simp at n0 i0;exact⟨⟨n0,i0⟩,R.free 11,R.free 12⟩
  have f2:H (∀ W v W',Ab wb wb W->Ab (W.setCell (Q A 11 I) v).1.size (W.setCell (Q A 11 I) v) W'->W'.cell? (Q A 12 I)=M (V a0 s.zr.length c0)/\W'.frozen? (Q A 12 I)=Av):=fun W v W' hW g2=>by
   have R:=((RA.below hW lA).set 11 v).below g2 (by simp;exact Bu lA hW.size);have i0:=R.cell 12;simp at i0;exact⟨i0,R.free 12⟩
  go_region_with ((first|(guard_hyp d1;go_at_call 77;refine Ax (e1 _ (by first|exact jA KBc K7.1|exact(jA KBc K7.1).setCell hAD.2.1 _)) ?_;rintro e w8 ⟨h0,f0,rfl,O8,b8⟩;have KO8:H _:=O8;have KB8:H _:=b8;first|(obtain⟨⟨t11,t12⟩,tf11,tf12⟩:=s0 _ (jA K7.1 b8);clear O8 b8)|(obtain⟨t12,tf12⟩:=f2.out _ _ _ K7.1 b8;clear O8 b8))|(go_at_call 77;refine Ax (c1 _ (Cz KBc 1)) ?_;rintro e w7 ⟨g0,d0,rfl,O7,b7'⟩;have m0:=jC b7';have K7:H (Ab wb wb w7/\Ow w7 wb (inD s.ze) (V g0 s.ze.length d0) (rng wb w7.1.size)):=⟨m0,O7⟩;have d1:H True:=trivial;clear b7' O7;obtain⟨⟨p11,p12⟩,pf11,pf12⟩:=s0 _ m0;clear m0)))
  all_goals
   go_wp2_with fail
   go_meet
   first
    | exact jSy RA RD KO6 HL0.1 ⟨hAD.1,hAD.2.1⟩ KBc K7.1 K7.2 KB8 KO8
    | exact cpB_b RA RD KO6 HL0.1 ⟨hAD.1,hAD.2.1⟩ KBc K7.1 K7.2 KB8 KO8
 obtain⟨g0,h0,d0,f0,o0,r0,o1,u0,O6,k1,m1,hd,v0,x0,Bd⟩:=hcut.out;clear hcut c1 e1;have LC:H (A<wb/\D<wb/\w.1.size<=wb.1.size):=⟨RA.lt,RD.lt,KBc.size⟩;have l6:=A0 KO6 g6 rfl;have w1:w.1.size<=w0.1.size:=by have:=HA.out;have:=HL0.1;omega
 have y1:H (Row wc A 42 (slC s (V (Q g6 0 I) s.p.m s.p.m) (V g0 s.ze.length d0) (V h0 s.zr.length f0))):=o1;have a2:H (Row wc D 42 #[Zs,Zs,(),(),(),Zs,V I 0 0,Av,Av,Av,Av,V I 0 0,V I 0 0]):=u0;obtain⟨w7,k0⟩:=nmH (wc.setRow D (slC s (V (Q g6 0 I) s.p.m s.p.m) (V g0 s.ze.length d0) (V h0 s.zr.length f0)));have ZR:H (Row w7 D 42 (slC s (V (Q g6 0 I) s.p.m s.p.m) (V g0 s.ze.length d0) (V h0 s.zr.length f0))):=by show Row _ _ _ _;rw[k0.out];exact u0.row
 have ZB:H (Ab w w w7):=by show Ab _ _ _;rw[k0.out];exact jF Bd hAD.2.2 _
 have Z6:H (Ow w7 w (txD s.p.m s.p.S) (V (Q g6 0 I) s.p.m s.p.m) (fun x=>x=g6)):=by
  show Ow _ _ _ _ _;rw[k0.out];refine xQ (jK (jI.base O6 w1) (qT _ _ _) (fun x e=>?_)) (fun x e=>by cases e;rfl);cases e;show g6≠D;have:=l6.1
  have:=HL0.2
  omega
 have s1:H (Ow w7 w (inD s.ze) (V g0 s.ze.length d0) o0):=by
  show Ow _ _ _ _ _;rw[k0.out];exact(k1.base LC.2.2).frame fun x hx _=>Cd _ _ _ _ (fun e=>by have:=v0 x hx;have:=LC.2.1;omega)
 have u1:H (Ow w7 w (inD s.zr) (V h0 s.zr.length f0) r0):=by
  show Ow _ _ _ _ _;rw[k0.out];exact(m1.base LC.2.2).frame fun x hx _=>Cd _ _ _ _ (fun e=>by have:=x0 x hx;have:=LC.2.1;omega)
 have b2:H (SlO w7 w s (V (Q g6 0 I) s.p.m s.p.m) (V g0 s.ze.length d0) (V h0 s.zr.length f0) (fun x=>x=g6) o0 r0):=⟨Z6,s1,u1,fun x e h=>by have:=v0 x h;have:=l6.2;omega,fun x e h=>by have:=x0 x h;have:=l6.2;omega,hd⟩;clear o1 u0 O6 k1 m1 hd v0 x0 Bd l6 w1 Z6 s1 u1 RA RD KO6 KBc;go_wp2_with (first|(refine Bb rfl 42 _ rfl A rfl 42 (slC s (V (M ⟨g6,0,I⟩) s.p.m s.p.m) (V g0 s.ze.length d0) (V h0 s.zr.length f0)) (0,0) _ ?_ C5 rfl Tryz.infoSl ?_;exact y1)|(refine Bw rfl 42 _ _ rfl D (slC s (V (M ⟨g6,0,I⟩) s.p.m s.p.m) (V g0 s.ze.length d0) (V h0 s.zr.length f0)) rfl rfl 42 #[Zs,Zs,(),(),(),Zs,V I 0 0,Av,Av,Av,Av,V I 0 0,V I 0 0] ?_ Tryz.infoSl rfl (by simp[Aq]) ?_;exact a2;rw[<-k0.out]))
 exact B7 (v:=slV s (V (Q g6 0 I) s.p.m s.p.m) (V g0 s.ze.length d0) (V h0 s.zr.length f0)) (Ck results61 _ _ D 42 _ (0,0) _ rfl ZR C5 rfl Tryz.infoSl) rfl ⟨g6,g0,h0,d0,f0,_,_,_,rfl,b2,ZB⟩
theorem jAu {c0:Array Oper} {a0:List Oper} {o:Oper} {a:Act} {Q:Exit->Act->Ad->Prop} (w:Ad) (b0:o.guard=I) (s x:Nat) (ho:o.op=.call {callee:=.builtin .append,args:=#[.tmp s,.tmp x],argTypes:=#[40,40]}) (G c:Nat) (hs:a.eval (.tmp s)=V G 0 0) (hx:a.eval (.tmp x)=V I 0 c) (h:wpList prog c0 Q a0 (a.put o.dst (V G 0 0)) w):wpList prog c0 Q (o::a0) a w:=by
 refine Gw b0 fun K hK=>?_
 obtain⟨e0,op,ty,h0,d0,gd⟩:=o;simp only at ho b0;subst ho b0;have hk:=hK _ _ h;have f0:a.tmps[s]?.getD O=V G 0 0:=by simpa [Act.eval] using hs
 have g0:a.tmps[x]?.getD O=V I 0 c:=by simpa [Act.eval] using hx
 go_simp
 exact hk
theorem JE {f0:Array Oper} {b0:List Oper} {o:Oper} {a:Act} {Q:Exit->Act->Ad->Prop} (w:Ad) (d0:o.guard=I) (s x:Nat) (ho:o.op=.call {callee:=.builtin .append,args:=#[.tmp s,.tmp x],argTypes:=#[40,40]}) (base G:Nat) (hs:a.eval (.tmp s)=V G 0 0) (a0:w.ownsRow base 3 1 (V G 0 0) 0 []) (ad:OA) (zs:List Int) (c:Nat) (hx:a.eval (.tmp x)=V ad zs.length c) (hI:jH w ad zs.length zs) (hn:zs.length<=1048576) (c0:base<=w)
  (h:∀ g cap w',w'.ownsRow base 3 1 (V (Addr.mk g 0 I) zs.length cap) zs.length (zs.map (Ao Ar))->w.grownBy w' (M G)->wpList prog f0 Q b0 (a.put o.dst (V (Addr.mk g 0 I) zs.length cap)) w'):wpList prog f0 Q (o::b0) a w:=by
 obtain⟨i0,hi,g0,j0,k0⟩:∃ i0,Tryz.prog.info? 3=M i0/\i0.zero=M (Ao Ar 0)/\i0.size=1/\i0.bytes=8:=⟨_,rfl,rfl,rfl,rfl⟩;match ad,hx,hI with
 | none,hx,hI=>
  have e0:zs.length=0:=by
   by_cases h0:zs.length=0
   .exact h0
   .obtain⟨b,off,e,_⟩:=hI.2 0 (by omega);cases e
  have ez:=Ez.1 e0;subst ez;exact jAu w d0 s x ho G c hs hx (h G 0 w a0 ⟨rfl,rfl,rfl,Ay _,fun _ _ _=>rfl⟩)
 | some ⟨b,off,sp⟩,hx,hI=>
  refine qF w d0 (.tmp s) (.tmp x) 40 ho base 3 i0 () 1 8 Ec hi g0 j0 k0 rfl (by decide) G 0 0 [] hs a0 ⟨b,off,sp⟩ zs.length c (zs.map (Ao Ar)) hx (by simp) (fun j u hu=>?_) (by simp[Aq]) (by unfold Au;omega) (by omega) c0 fun g cap w' h1 h2=>?_
  .have hj:0<zs.length:=by
    have:=(Ca.1 hu).1
    simp at this;omega
   have e:=jAb hI hj;simp at e;subst e;exact jAa hI j u hu
  .have:=h g cap w' (by simpa using h1) h2
   simpa using this
theorem jD9 {P:Program} (w:Ad) {o0:Array Oper} {o:Oper} {a:Act} {K:Act->Ad->Prop} {Q:Exit->Act->Ad->Prop} {E:Prop} (j0:o.guard=I) (s x:Operand) (t:TypeId)
  (ho:o.op=.call {callee:=.builtin .append,args:=#[s,x],argTypes:=#[t,t]})
  (B:Nat) (e:TypeId) (i:TypeInfo) (z:Aj) (size b0:Nat) (ht:P.underlying t=M (.slice e)) (hi:P.info? e=M i) (hz:i.zero=M z)
  (f0:i.size=size) (i0:i.bytes=b0) (n0:z.cells.size=size) (g0:0<size)
  (v:Aj) (n:Nat) (f:Nat->Nat->Dt) (F:Nat->Prop) (hs:a.eval s=v) (hO:Ow w B (.lst e size n f) v F)
  (ad:Al) (c:Nat) (vs:List Aj) (hx:a.eval x=V (M ad) 1 c) (hl:vs.length=size) (m0:∀ j u,vs[j]?=M u->w.cell? (ad.add j)=M u) (h1:∀ u∈vs,u.oneCell'=Aw)
  (d:Nat->Dt) (H:Nat->Nat->Prop) (hv:∀ q,q<size->Ow w B (d q) (vs.getD q O) (H q)) (hH:∀ q x,q<size->H q x->¬ F x) (hE:∀ q q' x,q<size->q'<size->H q x->H q' x->q=q')
  (h0:n+1<=Au) (c0:(n+1)*b0<=140737488355328) (hB:B<=w)
  (h:∀ g cap w',Ow w' B (.lst e size (n+1) (fun i=>if i=n then d else f i)) (V (Addr.mk g 0 I) (n+1) cap) (fun x=>x<w'.1.size/\((F x\/∃ q,q<size/\H q x)\/w.1.size<=x))->Ab B w w'->Trn w w' F->K (a.put o.dst (V (Addr.mk g 0 I) (n+1) cap)) w') :
  if Region.wanted o (yielded o0 a.tmps)=Aw then Oper.wp P o a w K Q else E:=by
 obtain⟨a0,cp,cc,G,rfl,d0,e0,hr⟩:=hO;refine step_append_lies w j0 s x t ho B e i z size b0 ht hi hz f0 i0 n0 g0 _ n _ hs d0 ad 1 c vs hx (by omega) m0 h1 (by omega) h0 c0 hB w rfl fun g cap w' h2 h3 h4 h5=>?_
 have p0:=h3.size;have hk:∀ k,(V a0 n cp).ownBlock=M k->F k/\B<=k/\k<w.1.size:=fun k ek=>by
  cases a0 with
  | none=>cases ek
  | some y=>
   have e1:y.block=k:=by injection ek
   subst e1;exact⟨e0.head y rfl,A0 d0 y.block rfl⟩
 refine h g cap w' (jAh g0 e0 hr hl hv hH hE h2 h3 h4 (fun x hx k0=>⟨by omega,.inl (.inl hx)⟩) (fun q x hq hx k0=>⟨by omega,.inl (.inr ⟨q,hq,hx⟩)⟩) ⟨h5,?_⟩) ((Az _ _).grown h3 hB fun k ek=>(hk k ek).2.1) ⟨h3.os,h3.tape,h3.output,h3.size,fun x hx hn=>h3.block x hx fun ek=>hn (hk x ek.symm).1⟩;rcases h4 with h4|h4
 .exact .inl (.inl (hk g h4).1)
 .exact .inr (by omega)
abbrev hrC (id f:Int) (g n cap p:Nat) (v:Aj):Array Aj:=#[Ao Ar id,Ao Ar f,V g n cap,Af (Q g (p*13) I),v]
structure Hr (W:Ad) (B Hb:Nat) (id f:Int) (g n cap p:Nat) (S:Nat->Sl) (sa:OA) (m sc:Nat) (Y:Nat->Sy) (F1 F2:Nat->Prop):Prop where
 r:Row W Hb 156 (hrC id f g n cap p (V sa m sc))
 o:Ow W B (qH n S) (V g n cap) F1
 y:Ow W B (qI m Y) (V sa m sc) F2
 d:∀ x,F1 x->¬ F2 x
 h1:¬ F1 Hb
 h2:¬ F2 Hb
 b:B<=Hb/\B<=W
 l1:∀ x,F1 x->x<W.1.size
 l2:∀ x,F2 x->x<W.1.size
theorem Hr.below {W W':Ad} {B Hb:Nat} {id f:Int} {g n cap p:Nat} {S:Nat->Sl} {sa:OA} {m sc:Nat} {Y:Nat->Sy} {F1 F2:Nat->Prop} (h:Hr W B Hb id f g n cap p S sa m sc Y F1 F2) (hb:Ab W W W'):Hr W' B Hb id f g n cap p S sa m sc Y F1 F2:=
 ⟨h.r.below hb h.r.lt,h.o.below hb,h.y.below hb,h.d,h.h1,h.h2,⟨h.b.1,By h.b.2 hb.size⟩,fun x hx=>Bu (h.l1 x hx) hb.size,fun x hx=>Bu (h.l2 x hx) hb.size⟩
theorem Hr.said {W W':Ad} {B Hb:Nat} {id f:Int} {g n cap p:Nat} {S:Nat->Sl} {sa sb:OA} {m m' sc a0:Nat} {Y Y':Nat->Sy} {F1 F2 F8:Nat->Prop} (h:Hr W B Hb id f g n cap p S sa m sc Y F1 F2) (o:Ow W' B (qI m' Y') (V sb m' a0) F8) (t:Trn W W' F2) (hF:∀ x,F8 x->x<W'.1.size/\(F2 x\/W.1.size<=x)):Row W' Hb 156 (hrC id f g n cap p (V sa m sc))/\Hr (W'.setCell (Q Hb 4 I) (V sb m' a0)) B Hb id f g n cap p S sb m' a0 Y' F1 F8/\Trn W (W'.setCell (Q Hb 4 I) (V sb m' a0)) (fun x=>x=Hb\/F2 x):=by
 have hr:Row W' Hb 156 (hrC id f g n cap p (V sa m sc)):=(t.block Hb h.r.lt h.h2).trans h.r;have h8:¬ F8 Hb:=fun k=>by
  rcases (hF Hb k).2 with k|k
  .exact h.h2 k
  .have:=h.r.lt;omega
 refine⟨hr,⟨hr.set 4 _,(h.o.turned t h.d).far 4 _ h.h1,o.far 4 _ h8,fun x k1 k8=>?_,h.h1,h8,⟨h.b.1,by simpa using By h.b.2 t.size⟩,fun x k=>by simpa using Bu (h.l1 x k) t.size,fun x k=>by simpa using (hF x k).1⟩,(t.mono (fun _ k=>.inr k)).trans (Trn.set _ 4 _ (.inl rfl))⟩;rcases (hF x k8).2 with k|k
 .exact h.d x k1 k
 .have:=h.l1 x k1;omega
def syA (k id:Int) (r:BA) (i:Nat):Sy:=⟨k,id,(i:Int),r,⟨Ap,0,0,0,Ap,0,fun _=>Ap⟩⟩
def syM (Y:Nat->Sy) (m:Nat) (k id:Int) (r:BA) (i:Nat):Sy:=if i<m then Y i else syA k id r (i-m)
theorem jLh {W:Ad} {B g n cap p:Nat} {S:Nat->Sl} {F:Nat->Prop} (h:Ow W B (qH n S) (V g n cap) F) (hp:p<n):W.cell? (Q g (p*13) I)=M (Ag (S p).r):=by
 obtain⟨b,off,y,e,hc,hr⟩:=h.rd.row hp;cases e;have h0:=hc 0 (by omega);have r0:=hr 0 (by omega);rw[Bt,Cp] at h0;rw[h0];exact D8 M r0
theorem jOs {W:Ad} {B:Nat} {k id:Int} {r:BA} {i:Nat} (q:Nat) (hq:q<10):Ow W B (syD (syA k id r i) q) ([Ao Ar k,id,(i:Int),r,Zs,(),(),(),Zs,V I 0 0].getD q O) (fun _=>False):=by
 match q,hq with
 | 0,_|1,_|2,_|3,_|4,_|5,_|6,_|7,_|8,_=>rfl
 | 9,_=>exact Ow.nil _ _ _ _ _ _
theorem jNh {Y:Nat->Sy} {m c:Nat} {k id:Int} {r:BA} (i q:Nat) (_hi:i<m+c+1):(if i=m+c then syD (syA k id r c) else syD (syM Y m k id r i)) q=syD (syM Y m k id r i) q:=by
 by_cases e:i=m+c
 .subst e;rw[A6 rfl];unfold syM;rw[A5 (by omega),Ft]
 .rw[A5 e]
theorem jQz {w w1 w2 w3:Ad} {Hb:Nat} {F F':Nat->Prop} (t:Trn w2 w3 (fun x=>x=Hb\/F' x)) (hF:∀ x,F' x->F x\/w.1.size<=x) (t1:Trn w w1 (fun x=>x=Hb\/F x)) (b:Ab w1 w1 w2):Trn w w3 (fun x=>x=Hb\/F x):=by
 have t2:=t1.trans (Trn.ofBelow _ b);refine⟨t.os.trans t2.os,t.tape.trans t2.tape,t.output.trans t2.output,By t2.size t.size,fun j hj hn=>?_⟩;refine(t.block j (Bu hj t2.size) (fun k=>?_)).trans (t2.block j hj hn);rcases k with k|k
 .exact hn (.inl k)
 .rcases hF j k with k|k
  .exact hn (.inr k)
  .omega
abbrev jIr (k id:Int) (c:Nat) (r:BA):Array Aj:=#[Ao Ar k,Ao Ar id,Ao Ar (c:Int),Ag r,Ag ⟨#[]⟩,Ao Ar 0,Ao Ar 0,Ao Ar 0,Ag ⟨#[]⟩,V I 0 0]
theorem jNo {e0:Array Oper} {o:Oper} {a:Act} {K:Act->Ad->Prop} {Q:Exit->Act->Ad->Prop} {E:Prop} (w7:Ad) (a0:o.guard=I) (s x:Operand)
  (ho:o.op=.call {callee:=.builtin .append,args:=#[s,x],argTypes:=#[34,34]})
  (k id f:Int) (B Hb g n cap p:Nat) (S:Nat->Sl) (sa:OA) (m c sc:Nat) (Y:Nat->Sy) (r:BA) (F1 F2:Nat->Prop)
  (hs:a.eval s=V sa (m+c) sc) (hx:a.eval x=V (Addr.mk w7 0 I) 1 1)
  (h7:Hr (w7.alloc (J (jIr k id c r) 31)) B Hb id f g n cap p S sa (m+c) sc (syM Y m k id r) F1 F2) (hm:m+c<=2000000)
  (h:∀ g8 c8 w8 F8,Row w8 Hb 156 (hrC id f g n cap p (V sa (m+c) sc))/\Hr (w8.setCell (Addr.mk Hb 4 I) (V (Addr.mk g8 0 I) (m+c+1) c8)) B Hb id f g n cap p S (Addr.mk g8 0 I) (m+c+1) c8 (syM Y m k id r) F1 F8/\Trn (w7.alloc (J (jIr k id c r) 31)) (w8.setCell (Addr.mk Hb 4 I) (V (Addr.mk g8 0 I) (m+c+1) c8)) (fun x=>x=Hb\/F2 x)/\(∀ x,F8 x->F2 x\/w7.1.size<x)->K (a.put o.dst (V (Addr.mk g8 0 I) (m+c+1) c8)) w8) :
  if Region.wanted o (yielded e0 a.tmps)=Aw then Oper.wp prog o a (w7.alloc (J (jIr k id c r) 31)) K Q else E:=by
 obtain⟨i0,hi,b0,c0,d0⟩:=Cg Tryz.infoSyZ;refine jD9 _ a0 s x 34 ho B 31 i0 (Ai zcY.toArray) 10 120 Dm hi b0 c0 d0 rfl (by decide) (V sa (m+c) sc) (m+c) _ F2 hs h7.y ⟨w7.1.size,0,I⟩ 1 (jIr k id c r).toList hx rfl (Cf (t:=31) (fr:=(0,0)) (Row.new w7 _ _)) (by simp[Aq]) (syD (syA k id r c)) (fun _ _=>False) (fun q hq=>jOs q hq) (fun _ _ _ h=>h.elim) (fun _ _ _ _ _ h=>h.elim) (by unfold Au;omega) (by omega) h7.b.2 fun g8 c8 w8 O8 b8 T8=>?_
 have O9:Ow w8 B (qI (m+c+1) (syM Y m k id r)) (V (Addr.mk g8 0 I) (m+c+1) c8) (fun x=>x<w8.1.size/\(F2 x\/w7.1.size<x)):=(O8.mono (fun x hx=>⟨hx.1,by
  rcases hx.2 with (h|⟨_,_,h⟩)|h
  .exact .inl h
  .exact h.elim
  .have e:(w7.alloc (J (jIr k id c r) 31)).1.size=w7.1.size+1:=by simp
   rw[e] at h;exact .inr h⟩)).congr (fun i q hi _=>jNh i q hi)
 obtain⟨q1,q2,q3⟩:=h7.said O9 T8 (fun x hx=>⟨hx.1,by
  have e:(w7.alloc (J (jIr k id c r) 31)).1.size=w7.1.size+1:=by simp
  rw[e];exact hx.2⟩)
 exact h g8 c8 w8 _ ⟨q1,q2,q3,fun x hx=>hx.2⟩
theorem Tryz.infoSy10:(Tryz.prog.info? 31).map (·.size)=M 10:=by kernel_rfl
structure HwK (W:Ad) (B Hb:Nat) (f:Int) (vs vl vm:Aj) (n:Nat) (Y:Nat->Sy) (vw:Aj) (F:Nat->Prop):Prop where
 r:Row W Hb 179 #[f,vs,vl,vm,vw]
 o:OwK W B 31 10 n (fun i=>syD (Y i)) vw F
 h:¬ F Hb
 b:B<=Hb
theorem HwK.below {W W':Ad} {B Hb:Nat} {f:Int} {vs vl vm:Aj} {n:Nat} {Y:Nat->Sy} {vw:Aj} {F:Nat->Prop} (h:HwK W B Hb f vs vl vm n Y vw F) (hb:Ab W W W'):HwK W' B Hb f vs vl vm n Y vw F:=⟨h.r.below hb h.r.lt,h.o.below hb,h.h,h.b⟩
theorem jSk {w:Ad} {B:Nat} {y:Sy} {q:Nat} {v:Aj} {F:Nat->Prop} (h:Ow w B (syD y q) v F):v.oneCell'=Aw:=by
 match q,h with
 | 0,h|1,h|2,h|3,h|4,h|5,h|6,h|7,h|8,h=>have e:v=_:=h;rw[e];rfl
 | q+9,h=>obtain⟨a,c,_,_,e,_⟩:=h;rw[e];rfl
theorem jSj (Y:Nat->Sy) (a7:Nat):(fun i=>if i<a7 then (fun i=>syD (Y i)) i else (fun i=>syD (Y i)) (i+1))=fun i=>syD ((fun i=>if i<a7 then Y i else Y (i+1)) i):=by
 funext i
 show (if i<a7 then syD (Y i) else syD (Y (i+1)))=syD (if i<a7 then Y i else Y (i+1));split <;> rfl
theorem jC2 (B Hb:Nat) (f:Int) (vs vl vm:Aj) (n:Nat) (Y:Nat->Sy) (vw:Aj) (F:Nat->Prop) (a7:Nat) (w:Ad) (h:HwK w B Hb f vs vl vm n Y vw F) (ha:a7<n) (hn:n<=3000):Ak prog 168 #[Af Hb,(a7:Int)] w fun e w'=>e=Ae (Ah #[])/\∃ b1,HwK w' B Hb f vs vl vm (n-1) (fun i=>if i<a7 then Y i else Y (i+1)) b1 F/\Trn w w' (fun x=>x=Hb\/F x):=by
 rcases h.o with ⟨_,h0⟩|⟨g,k,cap,K,J,y0,w0,rfl,hO⟩
 .omega
 obtain⟨cs,n0,o0,f0,v0,t0,f1,h1,m0⟩:=OwK.take (w:=w.drew) (by omega) y0 w0 (hO.below (jD w)) (fun i q v F' h=>jSk h) ha;rw[show (k+1)*10=k*10+10 by omega] at f0 m0;have z0:Hb≠g:=fun e=>h.h (by rw[e];exact t0)
 have q0:Nat.min a7 a7=a7:=Nat.min_self a7;have c0:H ((Builtin.copy_ #[34,34] 3 #[V (if cap=1 then M (Q g (k*10) I) else M (Q g (k*10+10) I)) a7 (cap-1),V (Q g (k*10) I) a7 cap]).run prog w.drew=.ok (a7:Int) (w.drew.setCells g (k*10+10) cs)):=by
  show _=_;by_cases c1:cap=1
  .have u0:a7=0:=by omega
   subst u0;have x0:cs=[]:=List.eq_nil_of_length_eq_zero (by omega);subst x0;rw[A6 c1];have:=jAm (P:=prog) w.drew 34 34 3 31 g (k*10) 0 (cap-1) (Q g (k*10) I) 0 cap 10 [] Dm Tryz.infoSy10 (by simp) (fun j v hj=>by simp at hj) (fun j hj=>by simp at hj) (fun j hj=>by simp at hj) (fun v hv=>by cases hv)
   rw[this];rfl
  .rw[A5 c1];have:=jAm (P:=prog) w.drew 34 34 3 31 g (k*10+10) a7 (cap-1) (Q g (k*10) I) a7 cap 10 cs Dm Tryz.infoSy10 (by rw[q0];exact n0) (fun j v hj=>by rw[Addr.add_lit];exact o0 j v hj) f0 (fun j _=>v0 _) h1
   rw[this,q0];rfl
 have x4:=h.r.cell 4;simp at x4;have R1:Row (w.drew.setCells g (k*10+10) cs) Hb 179 #[f,vs,vl,vm,V (Q g (k*10) I) n cap]:=(jG g _ _ w.drew Hb z0).trans h.r;have KY:H ((w.drew.setCells g (k*10+10) cs).cell? (Q Hb 4 I)=M (V (Q g (k*10) I) n cap)):=by
  show _=_;have:=R1.cell 4
  simpa using this
 have KZ:=hd (R1.free 4);have a0:H (HwK ((w.drew.setCells g (k*10+10) cs).setCell (Q Hb 4 I) (V (jN7 g k 10 cap) (n-1) (cap-1))) B Hb f vs vl vm (n-1) (fun i=>if i<a7 then Y i else Y (i+1)) (V (jN7 g k 10 cap) (n-1) (cap-1)) F/\Trn w ((w.drew.setCells g (k*10+10) cs).setCell (Q Hb 4 I) (V (jN7 g k 10 cap) (n-1) (cap-1))) (fun x=>x=Hb\/F x)):=by
  refine⟨⟨R1.set 4 _,?_,h.h,h.b⟩,?_⟩
  .rw[jSj] at m0;exact m0.frame fun x hx _=>Cn _ (Q Hb 4 I) x _ (fun e=>h.h (by have e':x=Hb:=e;rw[<-e'];exact hx))
  .exact((Trn.drew w _).trans (jEd w.drew (F:=fun x=>x=Hb\/F x) (.inr t0) _ _)).trans (Trn.set _ 4 _ (.inl rfl))
 have hcut:jN7 g k 10 cap=if cap=1 then M (Q g (k*10) I) else M (Q g (k*10+10) I):=by unfold jN7;rw[show (k+1)*10=k*10+10 by omega]
 rw[hcut] at a0;obtain⟨off,s0⟩:=nnH (k*10);rw[s0.out] at c0 KY KZ a0 x4;clear hO m0 o0 f0 v0 h1 n0 R1 h hcut q0;by_cases c1:cap=1
 .subst c1;obtain rfl:n=1:=by omega
  obtain rfl:a7=0:=by omega
  simp only[C0,Nat.sub_self] at c0 a0;have a1:IntKind.i64.wrap 1=1:=by decide
  go_enter func168,ntmps168
  go_wp2_with fail
  refine JP Tryz.mixed 14 [([],[0,13]),([0],[1,13]),([1],[2,13]),([2],[3,13]),([],[4,13]),([4],[5,13]),([3,5],[6,13]),([],[7,13]),([7],[8,13]),([8],[9,13]),([9],[10,13]),([],[11,13]),([10,11],[12,13]),([6,12],[13])] (by kernel_rfl) (fun L A9 W=>∃ (b0:Aj),A9=⟨#[Af Hb,(),O,O,cX (L 0) (Af Hb) O,cX (L 1) (Af Hb) O,cX (L 2) (Af (Q Hb 4 I)) O,cX (L 3) (V (Q g off I) 1 1) O,cX (L 4) () O,cX (L 5) (1:Int) O,cX (L 6) (V (Q g off I) 0 0) O,cX (L 7) (Af Hb) O,cX (L 8) (Af Hb) O,cX (L 9) (Af (Q Hb 4 I)) O,cX (L 10) (V (Q g off I) 1 1) O,cX (L 11) () O,cX (L 12) (V (Q g off I) 0 1) O,b0,O,O,O,O,O,O,O,O],[]⟩/\(L 13=Av->W=w.drew)/\(L 13=Aw->W=w.drew.setCells g (off+10) cs)) ?_ ?_ ?_
  .exact⟨O,rfl,(fun _=>rfl),(fun h=>by cases h)⟩
  .rintro a9 wx ⟨b0,j0,-,e0⟩;simp only[Nat.reduceLT,Dp,jJ] at j0;subst j0;replace e0:=(e0 rfl)
   subst e0;have y4:(w.drew.setCells g (off+10) cs).cell? (Q Hb 4 I)=M (V (Q g off I) 1 1):=KY.out;have z4:(w.drew.setCells g (off+10) cs).frozen? (Q Hb 4 I)=Av:=KZ.out;obtain⟨w1,p0⟩:=nmH (w.drew.setCells g (off+10) cs);rw[<-p0.out] at y4 z4 a0 |-;clear c0 KY KZ;go_wp2
   go_end0
   exact⟨rfl,_,a0⟩
  .intro q9 r0 L a9 W S i0;match q9,r0 with
   | 0,_|1,_|2,_|3,_|4,_|5,_|6,_|7,_|8,_|9,_|10,_|11,_|12,_=>
    obtain⟨b0,rfl,h0,h1⟩:=i0;simp only[knT,kn,knN] at S;have d0:L 13=Av:=by simp only[S]
    obtain rfl:=h0 d0;refine jB rfl (fun _=>rfl) fun K hK=>?_
    try simp only[S,jJ]
    go_simp
    exact hK _ _ ⟨b0,(by simp only[Nat.reduceBEq,Bh,Bq,jJ,S]),h0,h1⟩
   | 13,_=>
    obtain⟨b0,rfl,h0,h1⟩:=i0;obtain⟨d6,g0,d0,-⟩:=S;obtain rfl:=h0 d0;refine jB rfl (fun _=>rfl) fun K hK=>?_
    simp only[d6,g0,jJ];refine Go.Lib.wp_copy_run w.drew _ _ 34 34 rfl _ _ rfl rfl c0.out ?_;exact hK _ _ ⟨(),(by simp[Act.put,jJ,d6,g0]),nf,(fun k0=>rfl)⟩
   | n9+14,h=>exact Bo h (by omega)
 .simp only[c1,Dj] at c0 a0;have ai:(a7:Int)<(n:Int):=by omega
  have k1:n<=cap:=w0;have a1:IntKind.i64.wrap ((a7:Int)+1)=(a7:Int)+1:=by rw[A8];omega
  have j1:(a7:Int)+1<=(cap:Int):=by omega
  have u0:(0:Int)<=(a7:Int):=by omega
  have g1:(0:Int)<=(a7:Int)+1:=by omega
  have i1:(1:Int)<=(a7:Int)+1:=by omega
  have e1:(a7:Int)<=(cap:Int):=by omega
  go_enter func168,ntmps168
  go_wp2_with fail
  refine JP Tryz.mixed 14 [([],[0,13]),([0],[1,13]),([1],[2,13]),([2],[3,13]),([],[4,13]),([4],[5,13]),([3,5],[6,13]),([],[7,13]),([7],[8,13]),([8],[9,13]),([9],[10,13]),([],[11,13]),([10,11],[12,13]),([6,12],[13])] (by kernel_rfl) (fun L A9 W=>∃ (b0:Aj),A9=⟨#[Af Hb,(a7:Int),O,O,cX (L 0) (Af Hb) O,cX (L 1) (Af Hb) O,cX (L 2) (Af (Q Hb 4 I)) O,cX (L 3) (V (Q g off I) n cap) O,cX (L 4) (a7:Int) O,cX (L 5) ((a7:Int)+1:Int) O,cX (L 6) (V (Q g (off+10) I) a7 (cap-1)) O,cX (L 7) (Af Hb) O,cX (L 8) (Af Hb) O,cX (L 9) (Af (Q Hb 4 I)) O,cX (L 10) (V (Q g off I) n cap) O,cX (L 11) (a7:Int) O,cX (L 12) (V (Q g off I) a7 cap) O,b0,O,O,O,O,O,O,O,O],[]⟩/\(L 13=Av->W=w.drew)/\(L 13=Aw->W=w.drew.setCells g (off+10) cs)) ?_ ?_ ?_
  .exact⟨O,rfl,(fun _=>rfl),(fun h=>by cases h)⟩
  .rintro a9 wx ⟨b0,j0,-,e0⟩;simp only[Nat.reduceLT,Dp,jJ] at j0;subst j0;replace e0:=(e0 rfl)
   subst e0;have y4:(w.drew.setCells g (off+10) cs).cell? (Q Hb 4 I)=M (V (Q g off I) n cap):=KY.out;have z4:(w.drew.setCells g (off+10) cs).frozen? (Q Hb 4 I)=Av:=KZ.out;obtain⟨w1,p0⟩:=nmH (w.drew.setCells g (off+10) cs);rw[<-p0.out] at y4 z4 a0 |-;clear c0 KY KZ;go_wp2
   go_end0
   exact⟨rfl,_,a0⟩
  .intro q9 r0 L a9 W S i0;match q9,r0 with
   | 0,_|1,_|2,_|3,_|4,_|5,_|6,_|7,_|8,_|9,_|10,_|11,_|12,_=>
    obtain⟨b0,rfl,h0,h1⟩:=i0;simp only[knT,kn,knN] at S;have d0:L 13=Av:=by simp only[S]
    obtain rfl:=h0 d0;refine jB rfl (fun _=>rfl) fun K hK=>?_
    try simp only[S,jJ]
    go_simp
    exact hK _ _ ⟨b0,(by simp only[Nat.reduceBEq,Bh,Bq,jJ,S]),h0,h1⟩
   | 13,_=>
    obtain⟨b0,rfl,h0,h1⟩:=i0;obtain⟨d6,g0,d0,-⟩:=S;obtain rfl:=h0 d0;refine jB rfl (fun _=>rfl) fun K hK=>?_
    simp only[d6,g0,jJ];refine Go.Lib.wp_copy_run w.drew _ _ 34 34 rfl _ _ rfl rfl c0.out ?_;exact hK _ _ ⟨(a7:Int),(by simp[Act.put,jJ,d6,g0]),nf,(fun k0=>rfl)⟩
   | n9+14,h=>exact Bo h (by omega)
theorem qC {j0:Array Oper} {o:Oper} {a:Act} {K:Act->Ad->Prop} {Q:Exit->Act->Ad->Prop} {E:Prop} (w:Ad) (c0:o.guard=I) (s x:Nat) (ho:o.op=.call {callee:=.builtin .append,args:=#[.tmp s,.tmp x],argTypes:=#[40,40]}) (base g0 a0 nz ny nr:Nat) (zs ys:List Int) (_hz:zs.length=nz) (hy:ys.length=ny) (hr:nz+ny=nr) (hs:a.eval (.tmp s)=V g0 nz a0) (b0:w.ownsRow base 3 1 (V g0 nz a0) nz (zs.map (Ao Ar))) (ad:OA) (c:Nat) (hx:a.eval (.tmp x)=V ad ny c) (hI:jH w ad ny ys) (hn:nr<=2000000) (d0:base<=w)
  (h:∀ g cap w',w'.ownsRow base 3 1 (V (Addr.mk g 0 I) nr cap) nr ((zs++ys).map (Ao Ar))->w.grownBy w' (M g0)->K (a.put o.dst (V (Addr.mk g 0 I) nr cap)) w') :
  if Region.wanted o (yielded j0 a.tmps)=Aw then Oper.wp prog o a w K Q else E:=by
 obtain⟨i0,hi,k0,m0,n0⟩:∃ i0,Tryz.prog.info? 3=M i0/\i0.zero=M (Ao Ar 0)/\i0.size=1/\i0.bytes=8:=⟨_,rfl,rfl,rfl,rfl⟩;subst hr;match ad,hx,hI with
 | none,hx,hI=>
  have e0:ny=0:=by
   by_cases h0:ny=0
   .exact h0
   .obtain⟨b,off,e,_⟩:=hI.2 0 (by omega);cases e
  subst e0;have ez:=Ez.1 hy;subst ez;have hw:Region.wanted o (yielded j0 a.tmps)=Aw:=by simp[Region.wanted,c0]
  rw[A6 hw];have hk:=h g0 a0 w (by simpa using b0) ⟨rfl,rfl,rfl,Ay _,fun _ _ _=>rfl⟩;obtain⟨p0,op,ty,s0,o0,gd⟩:=o;simp only at ho c0;subst ho c0;have q0:a.tmps[s]?.getD O=V g0 nz a0:=by simpa [Act.eval] using hs
  have r0:a.tmps[x]?.getD O=V I 0 c:=by simpa [Act.eval] using hx
  simp only[Cp] at hk;have f0:nz<=a0:=by
   rcases jX b0 with ⟨e,_⟩|⟨_,_,_,_,_,f0⟩
   .cases e
   .exact f0
  unfold Oper.wp;go_simp
  exact hk
 | some ⟨b,off,sp⟩,hx,hI=>
  refine xK w c0 (.tmp s) (.tmp x) 40 ho base 3 i0 () 1 8 Ec hi k0 m0 n0 rfl (by decide) g0 nz a0 _ hs b0 ⟨b,off,sp⟩ ny c (ys.map (Ao Ar)) hx (by simp[hy]) (fun j u hu=>?_) (by simp[Aq]) (by unfold Au;omega) (by omega) d0 fun g cap w' h1 h2=>?_
  .have hj:0<ys.length:=by
    have:=(Ca.1 hu).1
    simp at this;omega
   rw[<-hy] at hI;have e:=jAb hI hj;simp at e;subst e;exact jAa hI j u hu
  .exact h g cap w' (by simpa using h1) h2
theorem qN {w w':Ad} {g B:Nat} (h:w.grownBy w' (M g)) (hB:B<=g) (_hs:B<=w):Ab B w w':=⟨h.os,h.tape,h.output,h.size,fun j hj=>h.block j (by omega) (fun e=>by injection e with e;omega)⟩
theorem jH7 (s:Sl) (a6 k0 j0:OA) (c6 x0 o0:Nat) (w:Ad) (h6:jL w a6 s.p.m s.p.S) (b0:jH w k0 s.ze.length s.ze) (d0:jH w j0 s.zr.length s.zr) (hs:SlS s):Ak prog 113 #[slV s (V a6 s.p.m c6) (V k0 s.ze.length x0) (V j0 s.zr.length o0)] w fun e w'=>∃ (g6 a0 c0 h6 b0 d0:Nat) (F6 g2 i2:Nat->Prop),e=Ae (slV s (V g6 s.p.m h6) (V (Q a0 0 I) s.ze.length b0) (V (Q c0 0 I) s.zr.length d0))/\SlO w' w s (V g6 s.p.m h6) (V (Q a0 0 I) s.ze.length b0) (V (Q c0 0 I) s.zr.length d0) F6 g2 i2/\Ab w w w':=by
 obtain⟨A,HA⟩:=nmH w.1.size;obtain⟨D,HD⟩:=nmH (w.1.size+1);obtain⟨w0,u0⟩:=nmH ((w.alloc (J (slC s (V a6 s.p.m c6) (V k0 s.ze.length x0) (V j0 s.zr.length o0)) 42)).alloc (J #[Zs,Zs,(),(),(),Zs,V I 0 0,Av,Av,Av,Av,V I 0 0,V I 0 0] 42));have RA:=xS u0 HA;have RD:=zR u0 HD;have j1:=bl2 u0;have o1:H (Ab w w w0):=j1;have HL:H (A≠D/\w.1.size<=A/\w.1.size<=D/\A<w0/\D<w0):=⟨by have:=HA.out;have:=HD.out;omega,by have:=HA.out;omega,by have:=HD.out;omega,RA.out.lt,RD.out.lt⟩;have KC:H _:=XN s.p.r s.p.k s.p.n s.p.i s.p.b a6 s.p.m c6 s.p.S w0 (h6.below j1) hs.1;have o2:H (jH w k0 s.ze.length s.ze):=b0;have p2:H (jH w j0 s.zr.length s.zr):=d0;have KS:H (SlS s):=hs;clear h6 b0 d0 hs j1;go_enter func113,ntmps113
 go_wp2_with fail
 rw[<-u0.out,<-HD.out,<-HA.out];refine Ax KC.out ?_;rintro e w1 ⟨g6,h6,rfl,O1,b1⟩;have f0:=RA.below b1 RA.lt;have s1:=RD.below b1 RD.lt;have y1:=f0.cell 1;have f1:=f0.free 1;have y2:=f0.cell 2;have f2:=f0.free 2;have y3:=f0.cell 3;have f3:=f0.free 3;have y4:=f0.cell 4;have f4:=f0.free 4;have y5:=f0.cell 5;have f5:=f0.free 5;have y6:=f0.cell 6;have f6:=f0.free 6;simp at y1 y2 y3 y4 y5 y6;obtain⟨w2,v0⟩:=nmH (((((((w1.setCell (Q A 1 I) s.p.r).setCell (Q A 2 I) s.p.k).setCell (Q A 3 I) s.p.n).setCell (Q A 4 I) s.p.i).setCell (Q A 5 I) s.p.b).setCell (Q A 6 I) (V g6 s.p.m h6)));obtain⟨G1,m1⟩:=nmH w1.1.size;have x1:w2.1.size=w1.1.size:=by rw[v0.out];simp
 have p0:H (G1=w2.1.size):=by show _=_;rw[x1];exact m1
 have l6:=A0 O1 g6 rfl;have K2:H (Row w2 A 42 (slC s (V g6 s.p.m h6) (V k0 s.ze.length x0) (V j0 s.zr.length o0))/\Row w2 D 42 #[Zs,Zs,(),(),(),Zs,V I 0 0,Av,Av,Av,Av,V I 0 0,V I 0 0]/\jI w2 w0 g6 s.p.m h6 s.p.S/\Ab w w w2):=by
  rw[v0.out];exact⟨(((((f0.set 1 _).set 2 _).set 3 _).set 4 _).set 5 _).set 6 _,(((((s1.other 1 _ (Cj HL.1)).other 2 _ (Cj HL.1)).other 3 _ (Cj HL.1)).other 4 _ (Cj HL.1)).other 5 _ (Cj HL.1)).other 6 _ (Cj HL.1),(((((O1.setFar HL.2.2.2.1).setFar HL.2.2.2.1).setFar HL.2.2.2.1).setFar HL.2.2.2.1).setFar HL.2.2.2.1).setFar HL.2.2.2.1,((((((jA o1 b1).setCell HL.2.1 _).setCell HL.2.1 _).setCell HL.2.1 _).setCell HL.2.1 _).setCell HL.2.1 _).setCell HL.2.1 _⟩
 have n1:H (g6<G1/\w0.1.size<=g6/\w0.1.size<=G1):=by have:=p0.out;have:=l6.1;have:=l6.2;exact⟨by omega,by omega,by omega⟩
 have u1:=K2.1.lt;clear O1 b1 f0 s1 l6;go_upto_region 2 with fail
 rw[<-v0.out];clear y1 f1 y2 f2 y3 f3 y4 f4 y5 f5 y6 f6 x1;go_cut [] from 7 to 11 (fun wx=>H (∃ a0 b0,Row wx A 42 (slC s (V g6 s.p.m h6) (V (Q a0 0 I) s.ze.length b0) (V j0 s.zr.length o0))/\Row wx D 42 #[Zs,Zs,(),(),(),Zs,V I 0 0,Av,Av,Av,Av,V I 0 0,V I 0 0]/\jI wx w0 g6 s.p.m h6 s.p.S/\wx.ownsRow G1 3 1 (V (Q a0 0 I) s.ze.length b0) s.ze.length (s.ze.map (Ao Ar))/\Ab w w wx))
 case first=>
  have t0:H ((w2.alloc (J #[] 3)).ownsRow G1 3 1 (V G1 0 0) 0 []):=by
   show World.ownsRow _ _ _ _ _ _ _;rw[p0.out];have:=Cc (e:=3) (size:=1) (base:=w2.1.size) w2 #[] 0 (by simp) (by unfold Au;omega) (by simp)
   exact this
  have a1:H (jH (w2.alloc (J #[] 3)) k0 s.ze.length s.ze):=(o2.below K2.2.2.2).below ((Az _ _).alloc (Ay _) _);have a2:=K2.1.cell 11;simp at a2;have s0:H (G1<=(w2.alloc (J #[] 3)).1.size):=by rw[p0.out];show _<=_;simp
  have z0:=p0.out;rw[z0] at t0 s0;go_wp2_with (at_builtin;refine JE _ rfl _ _ rfl w2 w2.1.size rfl ?_ k0 s.ze x0 rfl ?_ KS.out.2.1 ?_ ?_;exact t0.out;exact a1.out;exact s0.out;intro a0 b0 w4 i0 g0;have m0:Ab w2 w2 w4:=((Az _ _).alloc (Ay _) _).grown g0 (by simp) (fun x hx=>by cases hx;exact Ay _);have R4:=K2.out.1.below m0 u1;have q2:=R4.cell 11;have u2:=R4.free 11;simp at q2;have e0:H _:=m0;have q0:H _:=i0;clear i0 g0 a2 m0 R4)
  go_meet
  have r0:=A0 q0 a0 rfl;refine⟨a0,b0,(K2.1.below e0 u1).set 11 _,(K2.2.1.below e0 K2.2.1.lt).other 11 _ (Cj HL.1),(K2.2.2.1.below e0).setFar HL.2.2.2.1,?_,(jA K2.2.2.2 e0).setCell HL.2.1 _⟩;rw[z0];exact jK q0 (jP _ _ _ _) (fun x e=>by cases e;show a0≠A;have:=r0.1;omega)
 obtain⟨a0,b0,g1,t1,q1,y0,Bc⟩:=hcut.out;clear hcut;have v1:=g1.lt;have h0:H (Row wc A 42 (slC s (V g6 s.p.m h6) (V (Q a0 0 I) s.ze.length b0) (V j0 s.zr.length o0))/\Row wc D 42 #[Zs,Zs,(),(),(),Zs,V I 0 0,Av,Av,Av,Av,V I 0 0,V I 0 0]/\jI wc w0 g6 s.p.m h6 s.p.S/\wc.ownsRow G1 3 1 (V (Q a0 0 I) s.ze.length b0) s.ze.length (s.ze.map (Ao Ar))/\Ab w w wc):=⟨g1,t1,q1,y0,Bc⟩;clear g1 t1 q1 y0 Bc v0 m1 K2 p0;go_upto_region 3 with fail
 obtain⟨wb,n2⟩:∃ x,x=wc:=⟨wc,rfl⟩;subst n2;go_cut [] from 12 to 16 (fun wx=>H (∃ c0 d0,Row wx A 42 (slC s (V g6 s.p.m h6) (V (Q a0 0 I) s.ze.length b0) (V (Q c0 0 I) s.zr.length d0))/\Row wx D 42 #[Zs,Zs,(),(),(),Zs,V I 0 0,Av,Av,Av,Av,V I 0 0,V I 0 0]/\jI wx w0 g6 s.p.m h6 s.p.S/\wx.ownsRow G1 3 1 (V (Q a0 0 I) s.ze.length b0) s.ze.length (s.ze.map (Ao Ar))/\wx.ownsRow wb 3 1 (V (Q c0 0 I) s.zr.length d0) s.zr.length (s.zr.map (Ao Ar))/\Ab w w wx))
 case first=>
  have t0:H ((wb.alloc (J #[] 3)).ownsRow wb 3 1 (V (Q wb 0 I) 0 0) 0 []):=Cc (e:=3) (size:=1) (base:=wb.1.size) wb #[] 0 (by simp) (by unfold Au;omega) (by simp);have a1:H (jH (wb.alloc (J #[] 3)) j0 s.zr.length s.zr):=(p2.below h0.2.2.2.2).below ((Az _ _).alloc (Ay _) _);have b2:=h0.1.cell 12;simp at b2;have s0:H (wb.1.size<=(wb.alloc (J #[] 3)).1.size):=by show _<=_;simp
  go_wp2_with (at_builtin;refine JE _ rfl _ _ rfl wb wb.1.size rfl ?_ j0 s.zr o0 rfl ?_ KS.out.2.2 ?_ ?_;exact t0.out;exact a1.out;exact s0.out;intro c0 d0 w4 i0 g0;have m0:Ab wb wb w4:=((Az _ _).alloc (Ay _) _).grown g0 (by simp) (fun x hx=>by cases hx;exact Ay _);have R4:=h0.out.1.below m0 v1;have r2:=R4.cell 12;have v2:=R4.free 12;simp at r2;have e0:H _:=m0;have q0:H _:=i0;clear i0 g0 b2 m0 R4)
  go_meet
  have k1:=A0 q0 c0 rfl;have r0:=A0 h0.2.2.2.1 a0 rfl;have s2:=n1.2.2;have t2:=HL.2.2.2.1;exact⟨c0,d0,(h0.1.below e0 v1).set 12 _,(h0.2.1.below e0 h0.2.1.lt).other 12 _ (Cj HL.1),(h0.2.2.1.below e0).setFar HL.2.2.2.1,jK (jE h0.2.2.2.1 e0) (jP _ _ _ _) (fun x e=>by cases e;show a0≠A;have:=r0.1;omega),jK q0.out (jP _ _ _ _) (fun x e=>by cases e;show c0≠A;have:=k1.1;omega),(jA h0.out.2.2.2.2 e0.out).setCell HL.out.2.1 _⟩
 obtain⟨c0,d0,r1,i1,O6,p1,c1,Bd⟩:=hcut.out;clear hcut;have r0:=A0 h0.2.2.2.1 a0 rfl;have k1:=A0 c1 c0 rfl;have hq:=n1.out;have hl:=HL.out;have z1:w.1.size<=w0.1.size:=o1.size;have j2:H (Row wc A 42 (slC s (V g6 s.p.m h6) (V (Q a0 0 I) s.ze.length b0) (V (Q c0 0 I) s.zr.length d0))):=r1;have k2:H (Row wc D 42 #[Zs,Zs,(),(),(),Zs,V I 0 0,Av,Av,Av,Av,V I 0 0,V I 0 0]):=i1;obtain⟨w7,n0⟩:=nmH (wc.setRow D (slC s (V g6 s.p.m h6) (V (Q a0 0 I) s.ze.length b0) (V (Q c0 0 I) s.zr.length d0)));have ZR:H (Row w7 D 42 (slC s (V g6 s.p.m h6) (V (Q a0 0 I) s.ze.length b0) (V (Q c0 0 I) s.zr.length d0))):=by show Row _ _ _ _;rw[n0.out];exact i1.row
 have ZB:H (Ab w w w7):=by show Ab _ _ _;rw[n0.out];exact jF Bd hl.2.2.1 _
 have m2:H (SlO w7 w s (V g6 s.p.m h6) (V (Q a0 0 I) s.ze.length b0) (V (Q c0 0 I) s.zr.length d0) (fun x=>x=g6) (fun x=>x=a0) (fun x=>x=c0)):=by
  refine⟨?_,?_,?_,fun x e1 e2=>?_,fun x e1 e2=>?_,fun x e1 e2=>?_⟩
  .rw[n0.out];exact xQ (jK (jI.base O6 z1) (qT _ _ _) (fun x e=>by cases e;show g6≠D;omega)) (fun x e=>by cases e;rfl)
  .rw[n0.out];exact vV (jY (jK p1 (qT _ _ _) (fun x e=>by cases e;show a0≠D;omega)) (by omega)) (fun x e=>by cases e;rfl)
  .rw[n0.out];exact vV (jY (jK c1 (qT _ _ _) (fun x e=>by cases e;show c0≠D;omega)) (by omega)) (fun x e=>by cases e;rfl)
  .omega
  .omega
  .omega
 clear r1 i1 O6 p1 c1 Bd r0 k1 hq hl z1 h0;go_wp2_with (first|(refine Bb rfl 42 _ rfl A rfl 42 (slC s (V g6 s.p.m h6) (V (M ⟨a0,0,I⟩) s.ze.length b0) (V (M ⟨c0,0,I⟩) s.zr.length d0)) (0,0) _ ?_ C5 rfl Tryz.infoSl ?_;exact j2)|(refine Bw rfl 42 _ _ rfl D (slC s (V g6 s.p.m h6) (V (M ⟨a0,0,I⟩) s.ze.length b0) (V (M ⟨c0,0,I⟩) s.zr.length d0)) rfl rfl 42 #[Zs,Zs,(),(),(),Zs,V I 0 0,Av,Av,Av,Av,V I 0 0,V I 0 0] ?_ Tryz.infoSl rfl (by simp[Aq]) ?_;exact k2;rw[<-n0.out]))
 exact B7 (v:=slV s (V g6 s.p.m h6) (V (Q a0 0 I) s.ze.length b0) (V (Q c0 0 I) s.zr.length d0)) (Ck results113 _ _ D 42 _ (0,0) _ rfl ZR C5 rfl Tryz.infoSl) rfl ⟨g6,a0,c0,h6,b0,d0,_,_,_,rfl,m2,ZB⟩
structure SyK (y:Sy):Prop where
 r:y.r.size<=1048576
 pr:y.p.r.size<=1048576
 pb:y.p.b.size<=1048576
 m:y.p.m<=1048576
 tx:∀ i,i<y.p.m->(y.p.S i).size<=1048576
theorem ZV (y:Sy) (a9:OA) (c9:Nat) (w:Ad) (h9:jL w a9 y.p.m y.p.S) (hs:SyK y):Ak prog 130 #[syV y (V a9 y.p.m c9)] w fun e w'=>∃ g,e=Ae (syV y (V (Q g 0 I) y.p.m y.p.m))/\jI w' w (Q g 0 I) y.p.m y.p.m y.p.S/\Ab w w w':=by
 obtain⟨A,HA⟩:=nmH w.1.size;obtain⟨D,HD⟩:=nmH (w.1.size+1);obtain⟨w0,a0⟩:=nmH ((w.alloc (J (syC y (V a9 y.p.m c9)) 31)).alloc (J #[(),(),(),Zs,Zs,(),(),(),Zs,V I 0 0] 31));have RA:=xS a0 HA;have RD:=zR a0 HD;have o0:=bl2 a0;have c0:=hd o0;have hAD:H (A≠D/\w.1.size<=A/\w.1.size<=D):=⟨by have:=HA.out;have:=HD.out;omega,by have:=HA.out;omega,by have:=HD.out;omega⟩;have k0:H (∀ W,CB 120 #[y.r] W y.r):=fun W=>qO y.r W hs.r
 have j0:H (∀ W,Ab w w W->Ak prog 121 #[pcV y.p.r y.p.k y.p.n y.p.i y.p.b (V a9 y.p.m c9)] W fun e w'=>∃ g,e=Ae (pcV y.p.r y.p.k y.p.n y.p.i y.p.b (V (Q g 0 I) y.p.m y.p.m))/\jI w' W.1.size (Q g 0 I) y.p.m y.p.m y.p.S/\Ab W.1.size W w'):=fun W hW=>JT _ _ _ _ _ a9 _ c9 _ W (h9.below hW) hs.m hs.pr hs.pb hs.tx
 go_enter func130,ntmps130
 go_wp2_with fail
 rw[<-a0.out,<-HD.out,<-HA.out];go_cut [] from 3 to 10 (fun wx=>H (∃ g6,Row wx A 31 (syC y (V (Q g6 0 I) y.p.m y.p.m))/\Row wx D 31 #[(),(),(),Zs,Zs,(),(),(),Zs,V I 0 0]/\jI wx w0 (Q g6 0 I) y.p.m y.p.m y.p.S/\Ab w w wx))
 case first=>
  have lA:=RA.lt;have lD:=RD.lt;obtain⟨q0,q1,q2,q3,q4,q5⟩:=RA.c6 0 1 2 3 4 5;obtain⟨q6,q7,q8,q9⟩:=RA.c4 6 7 8 9;simp at q0 q1 q2 q3 q4 q5 q6 q7 q8 q9;have m0:H (∀ W,Ab w0 w0 W->Row W A 31 (syC y (V a9 y.p.m c9))/\Row W D 31 #[(),(),(),Zs,Zs,(),(),(),Zs,V I 0 0]/\Ab w w W/\w0.1.size<=W.1.size):=fun W hW=>⟨RA.below hW lA,RD.below hW lD,jA c0 hW,hW.size⟩
  have e0:H (∀ W,Row W A 31 (syC y (V a9 y.p.m c9))/\Row W D 31 #[(),(),(),Zs,Zs,(),(),(),Zs,V I 0 0]/\Ab w w W/\w0.1.size<=W.1.size->Row (W.setCell (Q A 3 I) y.r) A 31 (syC y (V a9 y.p.m c9))/\Row (W.setCell (Q A 3 I) y.r) D 31 #[(),(),(),Zs,Zs,(),(),(),Zs,V I 0 0]/\Ab w w (W.setCell (Q A 3 I) y.r)/\w0.1.size<=(W.setCell (Q A 3 I) y.r).1.size):=fun W hW=>⟨hW.1.set 3 _,hW.2.1.other 3 _ (Cj hAD.1),hW.2.2.1.setCell hAD.2.1 _,by simpa using hW.2.2.2⟩
  have d0:H (∀ W W' g,Row W A 31 (syC y (V a9 y.p.m c9))/\Row W D 31 #[(),(),(),Zs,Zs,(),(),(),Zs,V I 0 0]/\Ab w w W/\w0.1.size<=W.1.size->jI W' W.1.size (Q g 0 I) y.p.m y.p.m y.p.S->Ab W.1.size W W'->Row W' A 31 (syC y (V a9 y.p.m c9))/\Row W' D 31 #[(),(),(),Zs,Zs,(),(),(),Zs,V I 0 0]/\jI W' w0 (Q g 0 I) y.p.m y.p.m y.p.S/\Ab w w W'):=fun W W' g hW hO hB=>⟨hW.1.below hB hW.1.lt,hW.2.1.below hB hW.2.1.lt,jI.base hO hW.2.2.2,jA hW.2.2.1 hB⟩
  have KQ:H (∀ W,Row W A 31 (syC y (V a9 y.p.m c9))->W.cell? A=M (Ao Ar y.k)/\W.cell? (Q A 1 I)=M (Ao Ar y.f)/\W.cell? (Q A 2 I)=M (Ao Ar y.t)/\W.cell? (Q A 3 I)=M (Ag y.r)/\W.cell? (Q A 4 I)=M (Ag y.p.r)/\W.cell? (Q A 5 I)=M (Ao Ar y.p.k)/\W.cell? (Q A 6 I)=M (Ao Ar y.p.n)/\W.cell? (Q A 7 I)=M (Ao Ar y.p.i)/\W.cell? (Q A 8 I)=M (Ag y.p.b)/\W.cell? (Q A 9 I)=M (V a9 y.p.m c9)):=fun W hW=>by
   obtain⟨z0,z1,z2,z3,z4,z5⟩:=hW.c6 0 1 2 3 4 5;obtain⟨z6,z7,z8,z9⟩:=hW.c4 6 7 8 9;simp at z0 z1 z2 z3 z4 z5 z6 z7 z8 z9;exact⟨z0,z1,z2,z3,z4,z5,z6,z7,z8,z9⟩
  have KF:H (∀ W,Row W A 31 (syC y (V a9 y.p.m c9))->W.frozen? (Q A 3 I)=Av/\W.frozen? (Q A 4 I)=Av/\W.frozen? (Q A 5 I)=Av/\W.frozen? (Q A 6 I)=Av/\W.frozen? (Q A 7 I)=Av/\W.frozen? (Q A 8 I)=Av/\W.frozen? (Q A 9 I)=Av):=fun W hW=>⟨hW.free 3,hW.free 4,hW.free 5,hW.free 6,hW.free 7,hW.free 8,hW.free 9⟩
  go_region_with ((first|(go_at_call 121;refine Ax (j0 _ (by first|exact K7.2.2.1|exact(e0 _ K7).2.2.1)) ?_;rintro e w8 ⟨g6,rfl,O8,b8⟩;have K8:H (Row w8 A 31 (syC y (V a9 y.p.m c9))/\Row w8 D 31 #[(),(),(),Zs,Zs,(),(),(),Zs,V I 0 0]/\jI w8 w0 (Q g6 0 I) y.p.m y.p.m y.p.S/\Ab w w w8):=(by first|exact d0 _ _ _ K7 O8 b8|exact d0 _ _ _ (e0 _ K7) O8 b8);clear O8 b8;obtain⟨t0,t1,t2,t3,t4,t5,t6,t7,t8,t9⟩:=KQ _ K8.1;obtain⟨gf3,gf4,gf5,gf6,gf7,gf8,gf9⟩:=KF _ K8.1)|(go_at_call 120;refine Ax (k0 _) ?_;rintro e w7 ⟨rfl,b7'⟩;have g0:=jC b7';clear b7';have K7:H _:=m0.out _ g0;clear g0;obtain⟨p0,p1,p2,p3,p4,p5,p6,p7,p8,p9⟩:=KQ _ K7.1;obtain⟨pf3,pf4,pf5,pf6,pf7,pf8,pf9⟩:=KF _ K7.1)))
  all_goals
   have lA8:=lA;go_wp2_with fail
   go_meet
   first
    | exact⟨g6,(((((((K8.1.set 3 _).set 4 _).set 5 _).set 6 _).set 7 _).set 8 _).set 9 _),(((((((K8.2.1.other 3 _ (Cj hAD.1)).other 4 _ (Cj hAD.1)).other 5 _ (Cj hAD.1)).other 6 _ (Cj hAD.1)).other 7 _ (Cj hAD.1)).other 8 _ (Cj hAD.1)).other 9 _ (Cj hAD.1)),(((((((K8.2.2.1.setFar lA8).setFar lA8).setFar lA8).setFar lA8).setFar lA8).setFar lA8).setFar lA8),(((((((K8.2.2.2.setCell hAD.2.1 _).setCell hAD.2.1 _).setCell hAD.2.1 _).setCell hAD.2.1 _).setCell hAD.2.1 _).setCell hAD.2.1 _).setCell hAD.2.1 _)⟩
    | exact⟨g6,((((((K8.1.set 4 _).set 5 _).set 6 _).set 7 _).set 8 _).set 9 _),((((((K8.2.1.other 4 _ (Cj hAD.1)).other 5 _ (Cj hAD.1)).other 6 _ (Cj hAD.1)).other 7 _ (Cj hAD.1)).other 8 _ (Cj hAD.1)).other 9 _ (Cj hAD.1)),((((((K8.2.2.1.setFar lA8).setFar lA8).setFar lA8).setFar lA8).setFar lA8).setFar lA8),((((((K8.2.2.2.setCell hAD.2.1 _).setCell hAD.2.1 _).setCell hAD.2.1 _).setCell hAD.2.1 _).setCell hAD.2.1 _).setCell hAD.2.1 _)⟩
 obtain⟨g6,n0,f0,Oc,Bc⟩:=hcut.out;have LC:=hd RD.lt;have h0:=hd n0;have i0:=hd f0;obtain⟨w7,b0⟩:=nmH (wc.setRow D (syC y (V (Q g6 0 I) y.p.m y.p.m)));have ZR:H (Row w7 D 31 (syC y (V (Q g6 0 I) y.p.m y.p.m))):=by show Row _ _ _ _;rw[b0.out];exact f0.row
 have ZB:H (Ab w w w7):=by show Ab _ _ _;rw[b0.out];exact jF Bc hAD.2.2 _
 have l6:=A0 Oc g6 rfl;have Z6:H (jI w7 w (Q g6 0 I) y.p.m y.p.m y.p.S):=by
  show jI _ _ _ _ _ _;rw[b0.out];refine jK (jI.base Oc c0.size) (qT _ _ _) (fun x e=>?_);cases e;show g6≠D;have:=l6.1
  have:=LC.out
  omega
 go_wp2_with (first|(refine Bb rfl 31 _ rfl A rfl 31 (syC y (V (M ⟨g6,0,I⟩) y.p.m y.p.m)) (0,0) _ ?_ Ci rfl Tryz.infoSy2 ?_;exact h0)|(refine Bw rfl 31 _ _ rfl D (syC y (V (M ⟨g6,0,I⟩) y.p.m y.p.m)) rfl rfl 31 #[(),(),(),Zs,Zs,(),(),(),Zs,V I 0 0] ?_ Tryz.infoSy2 rfl (by simp[Aq]) ?_;exact i0;rw[<-b0.out]))
 exact B7 (v:=syV y (V (Q g6 0 I) y.p.m y.p.m)) (Ck results130 _ _ D 31 _ (0,0) _ rfl ZR Ci rfl Tryz.infoSy2) rfl ⟨g6,rfl,Z6,ZB⟩
theorem XO (y:Sy) (a9:OA) (c9:Nat) (w:Ad) (h9:jL w a9 y.p.m y.p.S) (hm:y.p.m<=1048576):Ak prog 137 #[syV y (V a9 y.p.m c9)] w fun e w'=>∃ g c,e=Ae (syV y (V (Q g 0 I) y.p.m c))/\jI w' w (Q g 0 I) y.p.m c y.p.S/\Ab w w w':=by
 obtain⟨A,HA⟩:=nmH w.1.size;obtain⟨D,HD⟩:=nmH (w.1.size+1);obtain⟨w0,b0⟩:=nmH ((w.alloc (J (syC y (V a9 y.p.m c9)) 31)).alloc (J #[(),(),(),Zs,Zs,(),(),(),Zs,V I 0 0] 31));have RA:=xS b0 HA;have RD:=zR b0 HD;have h0:=bl2 b0;have f0:=hd h0;have e0:H (A≠D/\w.1.size<=A/\w.1.size<=D):=⟨by have:=HA.out;have:=HD.out;omega,by have:=HA.out;omega,by have:=HD.out;omega⟩;have i0:H _:=XN y.p.r y.p.k y.p.n y.p.i y.p.b a9 y.p.m c9 y.p.S w0 (h9.below h0) hm;obtain⟨q4,q5,q6,q7,q8,q9⟩:=RA.c6 4 5 6 7 8 9;simp at q4 q5 q6 q7 q8 q9;go_enter func137,ntmps137
 go_wp2_with fail
 rw[<-b0.out,<-HD.out,<-HA.out];go_wp2_with fail
 refine Ax i0.out ?_;rintro e w1 ⟨g6,c6,rfl,O1,b1⟩;have d0:=hd (RA.below b1 RA.lt);have k0:=RD.below b1 RD.lt;obtain⟨w2,a0⟩:=nmH (w1.setCells A 4 [y.p.r,y.p.k,y.p.n,y.p.i,y.p.b,V g6 y.p.m c6]);have l6:=A0 O1 g6 rfl;have lA:=RA.lt;have lD:=RD.lt;have j0:H (Row w2 A 31 (syC y (V g6 y.p.m c6))):=by
  show Row _ _ _ _;rw[a0.out];simp only[World.setCells];exact(((((d0.set 4 _).set 5 _).set 6 _).set 7 _).set 8 _).set 9 _
 have g0:H (Row w2 D 31 #[(),(),(),Zs,Zs,(),(),(),Zs,V I 0 0]):=by
  show Row _ _ _ _;rw[a0.out];exact(jG A _ _ w1 D (Cj e0.1)).trans k0
 have O2:jI w2 w0 g6 y.p.m c6 y.p.S:=by
  rw[a0.out];simp only[World.setCells];exact(((((O1.setFar lA).setFar lA).setFar lA).setFar lA).setFar lA).setFar lA
 have B2:Ab w w w2:=by rw[a0.out];exact jR (jA f0 b1) e0.2.1 _ _
 have TH:H (w1.there A 4 6):=fun j hj=>⟨by have:=d0.cell (4+j);rw[this];simp;omega,d0.out.free (4+j)⟩
 obtain⟨w3,c0⟩:=nmH (w2.setRow D (syC y (V g6 y.p.m c6)));have ZR:=rr c0 g0;have ZB:H (Ab w w w3):=by show Ab _ _ _;rw[c0.out];exact jF B2 e0.2.2 _
 have Z6:H (jI w3 w g6 y.p.m c6 y.p.S):=by
  show jI _ _ _ _ _ _;rw[c0.out];refine jK (jI.base O2 f0.size) (qT _ _ _) (fun x e=>?_);cases e;show g6≠D;have:=l6.1
  omega
 go_wp2_with (first|(refine C7 rfl 29 _ _ rfl A 4 #[y.p.r,y.p.k,y.p.n,y.p.i,y.p.b,V g6 y.p.m c6] rfl rfl ?_ (by kernel_rfl) (by simp[Aq]) ?_;exact TH;rw[<-a0.out])|(refine Bb rfl 31 _ rfl A rfl 31 (syC y (V g6 y.p.m c6)) (0,0) _ ?_ Ci rfl Tryz.infoSy2 ?_;exact j0)|(refine Bw rfl 31 _ _ rfl D (syC y (V g6 y.p.m c6)) rfl rfl 31 #[(),(),(),Zs,Zs,(),(),(),Zs,V I 0 0] ?_ Tryz.infoSy2 rfl (by simp[Aq]) ?_;exact g0;rw[<-c0.out]))
 exact B7 (v:=syV y (V g6 y.p.m c6)) (Ck results137 _ _ D 31 _ (0,0) _ rfl ZR Ci rfl Tryz.infoSy2) rfl ⟨g6,c6,rfl,Z6,ZB⟩
theorem MkS.put {w w1:Ad} {B t sz g n cap:Nat} {G:Nat->Nat->Nat->Prop} {D:Nat->Nat->Dt} {F:Nat->Prop} (h:MkS w B t sz g n cap G D) (hs:Sep g n sz G F) {i q:Nat} (hi:i<n) (hq:q<sz) (ht:Trn w w1 (G i q)) {d':Dt} {v':Aj} {H:Nat->Prop} (ho:Ow w1 B d' v' H) (hH:∀ x,H x->G i q x\/w.1.size<=x):Ow (w1.setCell (Q g (i*sz+q) I) v') B (.lst t sz n (fun i' q'=>if i'=i/\q'=q then d' else D i' q')) (V g n cap) (fun x=>F x\/w.1.size<=x):=by
 obtain⟨c,c0,hr⟩:=h;have hg:=A0 c0 g rfl;have h0:w1.ownsRow B t sz (V g n cap) n (cL sz c n):=by
  refine⟨c0.1,?_⟩;rcases c0.2 with h'|⟨g',d0,i0,h1,h2,h3,h4⟩
  .exact .inl h'
  .refine .inr ⟨g',d0,i0,h1,h2,?_,h4⟩;have e:g'=g:=by cases h1;rfl
   subst e;rw[ht.block g' hg.2 (hs.apart i q _ hi hq rfl)];exact h3
 have h1:=(Dh h0 (i*sz+q) v').1;rw[jF3 _ _ _ _ _ _ hi hq] at h1;have e0:¬ H g:=fun k=>by
  rcases hH g k with k|k
  .exact hs.apart i q _ hi hq rfl k
  .omega
 refine⟨_,cap,_,fun i' q' x=>if i'=i/\q'=q then H x else G i' q' x/\x<w.1.size,rfl,h1,⟨fun x e=>?_,fun i' q' x a0 b0 k=>?_,fun i' q' x a0 b0 e k=>?_,fun i' q' i2 q2 x a0 b0 f0 g0 k k2=>?_⟩,fun i' q' a0 b0=>?_⟩
 .cases e;exact .inl (hs.head _ rfl)
 .by_cases e:i'=i/\q'=q
  .rw[A6 e] at k;rcases hH x k with k|k
   .exact .inl (hs.sub i q x hi hq k)
   .exact .inr k
  .rw[A5 e] at k;exact .inl (hs.sub i' q' x a0 b0 k.1)
 .cases e;by_cases e:i'=i/\q'=q
  .rw[A6 e] at k;exact e0 k
  .rw[A5 e] at k;exact hs.apart i' q' _ a0 b0 rfl k.1
 .by_cases e:i'=i/\q'=q <;> by_cases e2:i2=i/\q2=q
  .exact⟨e.1.trans e2.1.symm,e.2.trans e2.2.symm⟩
  .rw[A6 e] at k;rw[A5 e2] at k2;rcases hH x k with k|k
   .have:=hs.each i q i2 q2 x hi hq f0 g0 k k2.1
    exact Bo ⟨this.1.symm,this.2.symm⟩ e2
   .have:=k2.2;omega
  .rw[A5 e] at k;rw[A6 e2] at k2;rcases hH x k2 with k2|k2
   .have:=hs.each i q i' q' x hi hq a0 b0 k2 k.1
    exact Bo ⟨this.1.symm,this.2.symm⟩ e
   .have:=k.2;omega
  .rw[A5 e] at k;rw[A5 e2] at k2;exact hs.each i' q' i2 q2 x a0 b0 f0 g0 k.1 k2.1
 .by_cases e:i'=i/\q'=q
  .simp only[e,and_self,C0];exact ho.far _ _ e0
  .simp only[e,Dj];have h2:Ow w1 B (D i' q') (c i' q') (fun x=>G i' q' x/\x<w.1.size):=((hr i' q' a0 b0).cut.mono (fun x k=>⟨k.1,k.2.2⟩)).turned ht fun x k k2=>e (hs.each i' q' i q x a0 b0 hi hq k.1 k2)
   exact h2.far _ _ (fun k=>hs.apart i' q' _ a0 b0 rfl k.1)
theorem Hr.slots {W W2:Ad} {B Hb:Nat} {id f:Int} {g n cap p:Nat} {S S':Nat->Sl} {sa:OA} {m sc:Nat} {Y:Nat->Sy} {F1 F2 F':Nat->Prop} (h:Hr W B Hb id f g n cap p S sa m sc Y F1 F2) (t:Trn W W2 F1) (o:Ow W2 B (qH n S') (V g n cap) F') (hF:∀ x,F' x->F1 x\/W.1.size<=x):∃ a0,Hr W2 B Hb id f g n cap p S' sa m sc Y a0 F2/\∀ x,a0 x->F1 x\/W.1.size<=x:=by
 have hd:∀ x,F2 x->¬ F1 x:=fun x k2 k1=>h.d x k1 k2
 refine⟨_,⟨(t.block Hb h.r.lt h.h1).trans h.r,o.cut,h.y.turned t hd,fun x k1 k2=>?_,fun k=>?_,h.h2,⟨h.b.1,By h.b.2 t.size⟩,fun x k=>k.2.2,fun x k=>Bu (h.l2 x k) t.size⟩,fun x k=>hF x k.1⟩
 .rcases hF x k1.1 with k|k
  .exact h.d x k k2
  .have:=h.l2 x k2;omega
 .rcases hF Hb k.1 with k|k
  .exact h.h1 k
  .have:=h.r.lt;omega
def jCm (S:Nat->Sl) (p:Nat) (zs:List Int) (i:Nat):Sl:=if i=p then {S p with ze:=zs} else S i
def jEk (S:Nat->Sl) (p:Nat) (zs:List Int) (i:Nat):Sl:=if i=p then {S p with zr:=zs} else S i
theorem jSg (S:Nat->Sl) (p:Nat) (zs:List Int) (i q:Nat) (hq:q<13):(if i=p/\q=11 then inD zs else slD (S i) q)=slD (jCm S p zs i) q:=by
 unfold jCm;by_cases e:i=p
 .subst e;match q,hq with
  | 0,_|1,_|2,_|3,_|4,_|5,_|6,_|7,_|8,_|9,_|10,_|11,_|12,_=>simp[slD]
 .simp[e]
theorem jSi (S:Nat->Sl) (p:Nat) (zs:List Int) (i q:Nat) (hq:q<13):(if i=p/\q=12 then inD zs else slD (S i) q)=slD (jEk S p zs i) q:=by
 unfold jEk;by_cases e:i=p
 .subst e;match q,hq with
  | 0,_|1,_|2,_|3,_|4,_|5,_|6,_|7,_|8,_|9,_|10,_|11,_|12,_=>simp[slD]
 .simp[e]
theorem zY (k id f:Int) (B Hb g n cap p:Nat) (S:Nat->Sl) (sa:OA) (m sc:Nat) (Y:Nat->Sy) (F1 F2:Nat->Prop) (n3:Nat) (w:Ad) (h:Hr w B Hb id f g n cap p S sa m sc Y F1 F2) (hf:1<=f/\f<=3) (hp:p<n) (hm:m<=1048576) (hr:(S p).r.size<=1048576) (j0:(n3:Int)=3*f+1):Ak prog 153 #[Af Hb,k] w fun e w'=>e=Ae (Ah #[])/\∃ b0 c0 a0,Hr w' B Hb id f g n cap p S b0 (m+n3) c0 (syM Y m k id (S p).r) F1 a0/\Trn w w' (fun x=>x=Hb\/F2 x)/\∀ x,a0 x->F2 x\/w.1.size<=x:=by
 obtain⟨r,HR⟩:=nnH ((S p).r);rw[HR.out] at hr;rw[HR.out];have KH:=hd h;have HP:=hd hp;have KN:H (∀ W,CS 72 #[f] W (n3:Int)):=fun W=>by rw[j0];exact vH f W hf
 have KC:H (∀ W,CB 120 #[r] W r):=fun W=>qO r W hr
 have H3:n3<=10:=by omega
 have x1:=h.r.cell 1;simp at x1;clear h hf j0 hp hr;go_enter func153,ntmps153
 go_wp2_with (go_at_call 72;refine Ax (KN _) ?_;rintro e w' ⟨rfl,hw⟩;obtain rfl:=hw.symm;clear hw)
 go_loopw [11] (fun vi wr=>∃ c:Nat,c<=n3/\vi=Ao Ar (c:Int)/\H (∃ b0 c0 a0,Hr wr B Hb id f g n cap p S b0 (m+c) c0 (syM Y m k id r) F1 a0/\Trn w wr (fun x=>x=Hb\/F2 x)/\∀ x,a0 x->F2 x\/w.1.size<=x)) (fun vi _=>n3-(intOf vi).toNat)
 case atStart=>exact⟨0,Bi _,rfl,sa,sc,F2,⟨KH.r,KH.o,KH.y.congr (fun i q hi _=>by show _=syD (syM Y m k id r i) q;unfold syM;rw[A6 (show i<m from hi)]),KH.d,KH.h1,KH.h2,KH.b,KH.l1,KH.l2⟩,Trn.refl _ _,fun x hx=>.inl hx⟩
 case round=>
  obtain⟨c,hc,rfl,h0⟩:=hrel;obtain⟨b0,c0,a0,hH,hT,hF⟩:=h0.out;clear h0 x1;by_cases hlt:c<n3
  .have n0:(c:Int)<(n3:Int):=by omega
   have f0:=hd hH;have d0:H (Trn w wr (fun x=>x=Hb\/F2 x)/\∀ x,a0 x->F2 x\/w.1.size<=x):=⟨hT,hF⟩;have i0:H (∀ W,Ab wr.1.size wr W->(W.cell? Hb=M (Ao Ar id)/\W.cell? (Q Hb 3 I)=M (Af (Q g (p*13) I))/\W.cell? (Q Hb 4 I)=M (V b0 (m+c) c0)/\W.cell? (Q g (p*13) I)=M (Ag r))/\W.frozen? (Q Hb 4 I)=Av):=fun W hW=>by
    have q:=f0.below hW;obtain⟨y0,y3,y4⟩:=q.r.c3 0 3 4;simp at y0 y3 y4;have yr:=jLh q.o HP;rw[HR.out] at yr;exact⟨⟨y0,y3,y4,yr⟩,q.r.free 4⟩
   obtain⟨⟨y0,y3,y4,yr⟩,yf⟩:=i0 wr (Az _ _);have g0:H (c<n3/\m<=1048576):=⟨hlt,hm⟩;have hdr:=jD wr;have k0:H (∀ w7,Ab wr.1.size wr w7->Hr (w7.alloc (J (jIr k id c r) 31)) B Hb id f g n cap p S b0 (m+c) c0 (syM Y m k id r) F1 a0/\Ab wr.1.size wr (w7.alloc (J (jIr k id c r) 31))/\Hb<w7.1.size):=fun w7 b7=>by
    have b8:Ab w7.1.size w7 (w7.alloc (J (jIr k id c r) 31)):=(Az _ _).alloc (Ay _) _;exact⟨(f0.below b7).below b8,jA b7 b8,(f0.below b7).r.lt⟩
   clear hH hT hF;go_upto_region 3 with fail
   go_region_law ((first|(guard_hyp K7;refine jNo w7 rfl _ _ rfl k id f B Hb g n cap p S b0 m c c0 Y r F1 a0 rfl rfl ?_ ?_ ?_;exact K7.1;(have:=g0.out;omega);intro g8 c8 w8 F8 e0;have K8:H _:=e0;have z4:=e0.1.cell 4;have zf:=e0.1.free 4;simp at z4;clear e0)|(go_simp;go_wp2_with (go_at_call 120;refine Ax (KC _) ?_;rintro e w7 ⟨rfl,b7'⟩;have b7:=jC b7';clear b7';obtain⟨⟨p0,p3,p4,pr⟩,pf⟩:=i0.out _ b7;have K7:H (Hr (w7.alloc (J (jIr k id c r) 31)) B Hb id f g n cap p S b0 (m+c) c0 (syM Y m k id r) F1 a0/\Ab wr.1.size wr (w7.alloc (J (jIr k id c r) 31))/\Hb<w7.1.size):=k0 _ b7;have s0:=K7.2.2;have q4:=K7.1.r.cell 4;have q0:=K7.1.r.cell 0;simp at q4 q0))))
   all_goals
    have KR:H (∃ b0 c0 a0,Hr (w8.setCell (Q Hb 4 I) (V g8 (m+c+1) c8)) B Hb id f g n cap p S b0 (m+(c+1)) c0 (syM Y m k id r) F1 a0/\Trn w (w8.setCell (Q Hb 4 I) (V g8 (m+c+1) c8)) (fun x=>x=Hb\/F2 x)/\∀ x,a0 x->F2 x\/w.1.size<=x):=by
     obtain⟨_,q,t,m0⟩:=K8.out;have o0:=K7.2.1.size;have r0:=d0.1.size;have e:(w7.alloc (J (jIr k id c r) 31)).1.size=w7.1.size+1:=by simp
     refine⟨_,_,_,q,jQz t d0.2 d0.1 K7.2.1,fun x hx=>?_⟩;rcases m0 x hx with h|h
     .exact d0.2 x h
     .exact .inr (by omega)
    have h1:=g0.1;go_wp2_with fail
    go_roundw
    case rel=>exact⟨c+1,by omega,by go_num,KR⟩
    case measure=>simp[intOf];omega
  .obtain rfl:n3=c:=by omega
   have KZ:H _:=(⟨b0,c0,a0,hH,hT,hF⟩:∃ b0 c0 a0,Hr wr B Hb id f g n cap p S b0 (m+n3) c0 (syM Y m k id r) F1 a0/\Trn w wr (fun x=>x=Hb\/F2 x)/\∀ x,a0 x->F2 x\/w.1.size<=x);clear hH hT hF;go_wp2
   go_end0
   exact⟨rfl,KZ⟩
theorem jBc (k id f:Int) (v:Aj) (r:BA) (n3:Nat) (w:Ad) (hf:1<=f/\f<=3) (m0:(n3:Int)=3*f+1):Ak prog 53 #[ndV id f v,k,r] w fun e w'=>∃ g c,e=Ae (V (Q g 0 I) n3 c)/\Ow w' w (qI n3 (syA k id r)) (V (Q g 0 I) n3 c) (rng w w'.1.size)/\Ab w w w':=by
 obtain⟨i0,hi,n0,o0,p0⟩:=Cg Tryz.infoSyZ;obtain⟨A,HA⟩:=nmH w.1.size;obtain⟨w0,a0⟩:=nmH (w.alloc (J #[id,f,v] 26));have RA:=jZ a0 HA;have j0:=bl1 a0;have e0:=hd j0;have KA:H (∀ W,CS 50 #[f] W (n3:Int)):=fun W=>by rw[m0];exact vR f W hf
 have HM:H (n3<=10):=by show n3<=10;omega
 obtain⟨w1,d0⟩:=nmH (w0.alloc (J #[] 31));have k0:A+1=w0.1.size:=by rw[a0.out,HA.out];simp
 obtain⟨g1,c0⟩:=nmH (A+1);have K1:H (Ow w1 w0 (qI 0 (syA k id r)) (V g1 0 0) (rng w0 w1.1.size)/\Ab w0 w0 w1):=by
  rw[c0.out,k0,d0.out];refine⟨⟨_,0,fun _ _=>O,fun _ _ _=>False,rfl,?_,⟨fun x e=>?_,fun _ _ _ hi=>Bo hi (Bk _),fun _ _ _ hi=>Bo hi (Bk _),fun _ _ _ _ _ hi=>Bo hi (Bk _)⟩,fun _ _ hi=>Bo hi (Bk _)⟩,(Az _ _).alloc (Ay _) _⟩
  .have:=Cc (e:=31) (size:=10) (base:=w0.1.size) w0 #[] 0 (by simp) (by unfold Au;omega) (by simp)
   simpa [cL] using this
  .cases e;exact⟨Ay _,by simp⟩
 go_enter func53,ntmps53
 go_wp2_with fail
 rw[<-a0.out,<-HA.out,<-d0.out,<-c0.out];go_loopw [7,8] (fun vv vi wr=>∃ c g cc:Nat,c<=n3/\vv=V (Q g 0 I) c cc/\vi=Ao Ar (c:Int)/\H (Ow wr w0 (qI c (syA k id r)) (V (Q g 0 I) c cc) (rng w0 wr.1.size)/\Ab w0 w0 wr)) (fun _ vi _=>n3-(intOf vi).toNat)
 case atStart=>exact⟨0,g1,0,Bi _,rfl,rfl,K1⟩
 case round=>
  obtain⟨c,g,cc,hc,rfl,rfl,HO⟩:=hrel;have g0:=RA.below HO.2 RA.lt;obtain⟨x0,x1⟩:=g0.c2 0 1;simp at x0 x1;by_cases hlt:c<n3
  .have q0:(c:Int)<(n3:Int):=by omega
   have f0:=hd hlt;obtain⟨w5,b0⟩:=nmH (wr.alloc (J #[k,id,(c:Int),r,Zs,(),(),(),Zs,V I 0 0] 31));have b5:=bl1 b0;go_wp2_with (first|(go_at_call 50;refine Ax (KA.out _) ?_;rintro e w' ⟨rfl,hw⟩;obtain rfl:=hw.symm;clear hw)|(at_builtin;rw[<-b0.out];refine(show True->_ from ?_) trivial))
   intro _;refine xL w5 rfl _ _ 34 rfl w0 31 i0 (Ai zcY.toArray) 10 120 Dm hi n0 o0 p0 rfl (by decide) (V (M ⟨g,0,I⟩) c cc) c _ _ rfl (HO.1.below b5) ⟨wr.1.size,0,I⟩ 1 [k,id,(c:Int),r,Zs,(),(),(),Zs,V I 0 0] rfl rfl ?_ (by simp[Aq]) (syD (syA k id r c)) (fun _ _=>False) (fun q hq=>jOs q hq) (fun _ _ _ h=>h.elim) (fun _ _ _ _ _ h=>h.elim) (by have:=HM.out;unfold Au;omega) (by have:=HM.out;omega) ?_ ?_
   .rw[b0.out];exact Cf (t:=31) (fr:=(0,0)) (Row.new wr _ _)
   .exact By HO.2.size b5.size
   intro g' c' w6 O6 b6 _;have K6:H (Ow w6 w0 (qI (c+1) (syA k id r)) (V g' (c+1) c') (rng w0 w6.1.size)/\Ab w0 w0 w6):=by
    have h5:=HO.2.size;have h6:=b5.size;refine⟨(O6.mono (fun x hx=>?_)).congr (fun i q _ _=>?_),(jA HO.2 b5).trans b6⟩
    .refine⟨?_,hx.1⟩;rcases hx.2 with (h|⟨_,_,h⟩)|h
     .exact h.1
     .exact h.elim
     .show w0.1.size<=x;omega
    .by_cases e:i=c
     .subst e;simp
     .simp[e]
   have h1:=f0.out;have h2:=HM.out;go_wp2
   go_roundw
   case rel=>exact⟨c+1,g',c',by omega,by go_num,by go_num,K6⟩
   case measure=>simp[intOf];omega
  .obtain rfl:n3=c:=by omega
   have ZZ:H (Ow wr w (qI n3 (syA k id r)) (V (Q g 0 I) n3 cc) (rng w wr.1.size)/\Ab w w wr):=by
    have h0:=e0.size;exact⟨(HO.1.base h0).mono (fun x hx=>⟨By h0 hx.1,hx.2⟩),jA e0 HO.2⟩
   go_wp2_with (go_at_call 50;refine Ax (KA _) ?_;rintro e w' ⟨rfl,hw⟩;obtain rfl:=hw.symm;clear hw)
   go_ret
   exact⟨g,cc,rfl,ZZ.1,ZZ.2⟩
theorem XS (id f:Int) (B Hb g n cap p:Nat) (S:Nat->Sl) (sa:OA) (m sc:Nat) (Y:Nat->Sy) (F1 F2:Nat->Prop) (y:Sy) (v9:Aj) (w:Ad) (h:Hr w B Hb id f g n cap p S sa m sc Y F1 F2) (hp:p<n) (hz:(S p).ze.length<=1048576) (hs:(S p).ze.Pairwise (.<=.)):Ak prog 109 #[Af Hb,syV y v9] w fun e w'=>e=Ae (Ah #[])/\∃ a0,Hr w' B Hb id f g n cap p (jCm S p (xM (S p).ze y.f)) sa m sc Y a0 F2/\Trn w w' (fun x=>x=Hb\/F1 x\/F2 x)/\∀ x,a0 x->F1 x\/w.1.size<=x:=by
 obtain⟨A,HA⟩:=nmH w.1.size;obtain⟨w0,c0⟩:=nmH (w.alloc (J (syC y v9) 31));have d0:=bl1 c0;have RA:=jZ c0 HA;have KH:=hd (h.below d0);have g0:=hd d0;obtain⟨G,b0,e0⟩:=Ow.mk KH.o;have KG:H (Sep g n 13 G F1/\MkS w0 B 42 13 g n cap G (fun i=>slD (S i))):=⟨b0,e0⟩;obtain⟨vz,cz,fz,oz⟩:=MkS.cell e0 hp (show 11<13 by omega);have f0:Ow w0 B (inD (S p).ze) vz (G p 11):=oz;obtain⟨az,kz,rfl,_,_⟩:=JX f0;obtain⟨zs,HZ⟩:=nnH (xM (S p).ze y.f);have KW:H (Ak prog 154 #[V az (S p).ze.length kz,y.f] w0.drew fun e w'=>∃ a' c',e=Ae (V a' zs.length c')/\Ow w' B (inD zs) (V a' zs.length c') (fun x=>G p 11 x\/w0.1.size<=x)/\Trn w0 w' (G p 11)):=by
  have:=ZA B az kz (S p).ze y.f (G p 11) w0.drew (f0.below (jD w0)) KH.b.2 hz hs
  rw[HZ.out] at this;refine Ax this ?_;rintro e w' ⟨a',c',rfl,o',t'⟩;exact⟨a',c',rfl,o',(Trn.drew w0 _).trans t'⟩
 rw[HZ.out];obtain⟨N,HN⟩:=nnH ((S p).ze.length);rw[HN.out] at KW cz;have HP:=hd hp;have y3:=KH.r.cell 3;have x1:=RA.cell 1;simp at y3 x1;have h0:H (∀ W,Trn w0 W (G p 11)->W.cell? (Q Hb 3 I)=M (Af (Q g (p*13) I))/\W.cell? (Q g (p*13+11) I)=M (V az N kz)/\W.frozen? (Q g (p*13+11) I)=Av):=fun W hW=>by
  have r1:Row W Hb 156 _:=(hW.block Hb KH.r.lt (fun k=>KH.h1 (KG.1.sub p 11 Hb HP (by omega) k))).trans KH.out.r;have q3:=r1.cell 3;simp at q3;have hb:=hW.block g (MkS.lt KG.2).2 (KG.1.apart p 11 _ HP (by omega) rfl);exact⟨q3,(World.cell?_of_block hb).trans cz,(Cx hb).trans fz⟩
 have i0:=cz;clear h d0 b0 e0 oz f0 hz hs hp;go_enter func109,ntmps109
 go_wp2_with fail
 rw[<-c0.out,<-HA.out];go_region_with ((go_at_call 154;refine Ax KW.out ?_;rintro e w7 ⟨a7,c7,rfl,o7,t7⟩;have K7:H (Ow w7 B (inD zs) (V a7 zs.length c7) (fun x=>G p 11 x\/w0.1.size<=x)/\Trn w0 w7 (G p 11)):=⟨o7,t7⟩;obtain⟨p3,pz,pf⟩:=h0 _ t7;clear o7 t7))
 all_goals
  go_wp2_with fail
  go_end0
  have o8:Ow (w7.setCell (Q g (p*13+11) I) (V a7 zs.length c7)) B (qH n (jCm S p zs)) (V g n cap) (fun x=>F1 x\/w0.1.size<=x):=(MkS.put KG.2 KG.1 HP (by omega) K7.out.2 K7.out.1 (fun x k=>k)).congr (fun i q _ hq=>jSg S p zs i q hq);have t8:Trn w0 (w7.setCell (Q g (p*13+11) I) (V a7 zs.length c7)) F1:=(K7.2.mono (fun x k=>KG.1.sub p 11 x HP (by omega) k)).trans (Trn.set _ _ _ (KG.out.1.head _ rfl));obtain⟨a0,hh,hF⟩:=KH.slots t8 o8 (fun x k=>k);refine⟨rfl,a0,hh,(Trn.ofBelow _ g0).trans (t8.mono (fun x k=>.inr (.inl k))),fun x k=>?_⟩;rcases hF x k with k|k
  .exact .inl k
  .exact .inr (By g0.size k)
theorem QM (id f:Int) (B Hb g n cap p:Nat) (S:Nat->Sl) (sa:OA) (m sc:Nat) (Y:Nat->Sy) (F1 F2:Nat->Prop) (y:Sy) (v9:Aj) (w:Ad) (h:Hr w B Hb id f g n cap p S sa m sc Y F1 F2) (hp:p<n) (hz:(S p).zr.length<=1048576) (hs:(S p).zr.Pairwise (.<=.)):Ak prog 110 #[Af Hb,syV y v9] w fun e w'=>e=Ae (Ah #[])/\∃ a0,Hr w' B Hb id f g n cap p (jEk S p (xM (S p).zr y.f)) sa m sc Y a0 F2/\Trn w w' (fun x=>x=Hb\/F1 x\/F2 x)/\∀ x,a0 x->F1 x\/w.1.size<=x:=by
 obtain⟨A,HA⟩:=nmH w.1.size;obtain⟨w0,c0⟩:=nmH (w.alloc (J (syC y v9) 31));have d0:=bl1 c0;have RA:=jZ c0 HA;have KH:=hd (h.below d0);have g0:=hd d0;obtain⟨G,b0,e0⟩:=Ow.mk KH.o;have KG:H (Sep g n 13 G F1/\MkS w0 B 42 13 g n cap G (fun i=>slD (S i))):=⟨b0,e0⟩;obtain⟨vz,cz,fz,oz⟩:=MkS.cell e0 hp (show 12<13 by omega);have f0:Ow w0 B (inD (S p).zr) vz (G p 12):=oz;obtain⟨az,kz,rfl,_,_⟩:=JX f0;obtain⟨zs,HZ⟩:=nnH (xM (S p).zr y.f);have KW:H (Ak prog 154 #[V az (S p).zr.length kz,y.f] w0.drew fun e w'=>∃ a' c',e=Ae (V a' zs.length c')/\Ow w' B (inD zs) (V a' zs.length c') (fun x=>G p 12 x\/w0.1.size<=x)/\Trn w0 w' (G p 12)):=by
  have:=ZA B az kz (S p).zr y.f (G p 12) w0.drew (f0.below (jD w0)) KH.b.2 hz hs
  rw[HZ.out] at this;refine Ax this ?_;rintro e w' ⟨a',c',rfl,o',t'⟩;exact⟨a',c',rfl,o',(Trn.drew w0 _).trans t'⟩
 rw[HZ.out];obtain⟨N,HN⟩:=nnH ((S p).zr.length);rw[HN.out] at KW cz;have HP:=hd hp;have y3:=KH.r.cell 3;have x1:=RA.cell 1;simp at y3 x1;have h0:H (∀ W,Trn w0 W (G p 12)->W.cell? (Q Hb 3 I)=M (Af (Q g (p*13) I))/\W.cell? (Q g (p*13+12) I)=M (V az N kz)/\W.frozen? (Q g (p*13+12) I)=Av):=fun W hW=>by
  have r1:Row W Hb 156 _:=(hW.block Hb KH.r.lt (fun k=>KH.h1 (KG.1.sub p 12 Hb HP (by omega) k))).trans KH.out.r;have q3:=r1.cell 3;simp at q3;have hb:=hW.block g (MkS.lt KG.2).2 (KG.1.apart p 12 _ HP (by omega) rfl);exact⟨q3,(World.cell?_of_block hb).trans cz,(Cx hb).trans fz⟩
 have i0:=cz;clear h d0 b0 e0 oz f0 hz hs hp;go_enter func110,ntmps110
 go_wp2_with fail
 rw[<-c0.out,<-HA.out];go_region_with ((go_at_call 154;refine Ax KW.out ?_;rintro e w7 ⟨a7,c7,rfl,o7,t7⟩;have K7:H (Ow w7 B (inD zs) (V a7 zs.length c7) (fun x=>G p 12 x\/w0.1.size<=x)/\Trn w0 w7 (G p 12)):=⟨o7,t7⟩;obtain⟨p3,pz,pf⟩:=h0 _ t7;clear o7 t7))
 all_goals
  go_wp2_with fail
  go_end0
  have o8:Ow (w7.setCell (Q g (p*13+12) I) (V a7 zs.length c7)) B (qH n (jEk S p zs)) (V g n cap) (fun x=>F1 x\/w0.1.size<=x):=(MkS.put KG.2 KG.1 HP (by omega) K7.out.2 K7.out.1 (fun x k=>k)).congr (fun i q _ hq=>jSi S p zs i q hq);have t8:Trn w0 (w7.setCell (Q g (p*13+12) I) (V a7 zs.length c7)) F1:=(K7.2.mono (fun x k=>KG.1.sub p 12 x HP (by omega) k)).trans (Trn.set _ _ _ (KG.out.1.head _ rfl));obtain⟨a0,hh,hF⟩:=KH.slots t8 o8 (fun x k=>k);refine⟨rfl,a0,hh,(Trn.ofBelow _ g0).trans (t8.mono (fun x k=>.inr (.inl k))),fun x k=>?_⟩;rcases hF x k with k|k
  .exact .inl k
  .exact .inr (By g0.size k)
theorem jN6 {zs:List Int} {x:Int} {k:Nat} (hs:zs.Pairwise (.<=.)) (hk:k<=zs.length) (h1:∀ j,j<k->zs.getD j 0<x) (h2:k<zs.length->x<=zs.getD k 0):jBn zs x=k:=by
 have e:=(List.take_append_drop k zs).symm;unfold jBn;rw[e,List.countP_append];have a1:(zs.take k).countP (.<x)=k:=by
  have hl:(zs.take k).length=k:=by rw[Cu];omega
  refine(List.countP_eq_length.2 fun y hy=>?_).trans hl;obtain⟨j,hj,rfl⟩:=D7.1 hy;have b0:j<k:=by omega
  have:=h1 j b0
  rw[Bx,Bj (by omega)] at this;simpa using this
 have a2:(zs.drop k).countP (.<x)=0:=by
  refine List.countP_eq_zero.2 fun y hy=>?_
  obtain⟨j,hj,rfl⟩:=D7.1 hy;rw[Df] at hj;have a0:k<zs.length:=by omega
  have h3:=h2 a0;rw[Bx,Bj a0] at h3;have h4:zs[k]<=zs[k+j]:=by
   by_cases e0:j=0
   .subst e0;exact Int.le_refl _
   .exact(Ep.1 hs) k (k+j) a0 (by omega) (by omega)
  simp only[List.getElem_drop,Ed,Er] at h3 |-;omega
 rw[a1,a2];rfl
theorem jOf {zs:List Int} {x:Int} {k:Nat} (hs:zs.Pairwise (.<=.)) (h1:∀ j,j<k->zs.getD j 0<x) (h2:k<zs.length->x<zs.getD k 0):x∉zs:=by
 intro hm;obtain⟨j,hj,e⟩:=D7.1 hm;by_cases hjk:j<k
 .have:=h1 j hjk
  rw[Bx,Bj hj] at this;simp at this;omega
 .have a0:k<zs.length:=by omega
  have h3:=h2 a0;rw[Bx,Bj a0] at h3;simp at h3;have h4:zs[k]<=zs[j]:=by
   by_cases e0:j=k
   .subst e0;exact Int.le_refl _
   .exact(Ep.1 hs) k j a0 hj (by omega)
  omega
theorem jR8 {w:Ad} {B e s g n cap n':Nat} {xs:List Aj} (h:w.ownsRow B e s (V g n cap) n' xs):n<=cap:=by
 rcases jX h with ⟨e,_⟩|⟨_,_,_,_,_,a0⟩
 .cases e
 .exact a0
theorem zA {w w':Ad} {g g0 t:Nat} {cs:Array Aj} (h:Row w g t cs) (hg:w.grownBy w' (M g0)) (a0:g≠g0):Row w' g t cs:=(hg.block g h.lt (fun e=>a0 (by injection e))).trans h
theorem xN {w:Ad} {g:Nat} {x:Int} (h:Row w g 3 #[x]):jH w g 1 [x]:=⟨rfl,fun i hi=>⟨g,0,rfl,by obtain rfl:i=0:=(by omega);simpa using h.cell 0⟩⟩
theorem jAc {w:Ad} {g N k:Nat} {zs:List Int} (h:jH w g N zs) (hk:k<=N):jH w g k (zs.take k):=by
 have hl:=h.1;refine⟨by rw[Cu];omega,fun i hi=>?_⟩;obtain⟨b,off,e,hc⟩:=h.2 i (by omega);refine⟨b,off,e,?_⟩;rw[hc,Bx,Bx,List.getElem?_take_of_lt hi]
theorem jC8 {w:Ad} {g N k:Nat} {zs:List Int} (h:jH w g N zs) (hk:k<=N):jH w (Q g k I) (N-k) (zs.drop k):=by
 have hl:=h.1;refine⟨by rw[Df];omega,fun i hi=>?_⟩;obtain⟨b,off,e,hc⟩:=h.2 (k+i) (by omega);cases e;refine⟨g,k,rfl,?_⟩;rw[Bt] at hc;rw[hc,Bx,Bx,List.getElem?_drop]
theorem jMk (w:Ad) (a:OA) (zs:List Int) {n:Nat} (hn:n=0) (hz:zs.length=0):jH w a n zs:=⟨by omega,fun i hi=>by omega⟩
theorem jMl {w:Ad} {B g n cap:Nat} {zs:List Int} (h:w.ownsRow B 3 1 (V g n cap) n (zs.map (Ao Ar))) (hl:zs.length=n):jH w g n zs:=by
 refine⟨hl,fun i hi=>⟨g,0,rfl,?_⟩⟩;rw[Bt,Br h i (by omega),Eb,Bx,Bj (by omega)];rfl
theorem jOv {zs:List Int} {x:Int} (hx:x≠-1) (hm:x∉zs) {k:Nat} (hk:jBn zs x=k):xM zs x=[]++zs.take k++[x]++zs.drop k:=by
 unfold xM;rw[A5 (fun h=>by rcases h with h|h;exact hx h;exact hm h),hk];simp
def jQ5 (w w':Ad) (a:OA) (c0:Nat) (z0:List Int) (a':OA) (c' n:Nat) (zs:List Int):Prop:=jH w' a' n zs/\(a'=a\/∀ b,a'=M b->w.1.size<=b.block)/\((a'=a/\c'=c0/\zs=z0)\/w'.ownsRow w 3 1 (V a' n c') n (zs.map (Ao Ar)))
theorem jB3 {w w':Ad} {g n cap:Nat} {a:OA} {zs:List Int} (h:w'.ownsRow w 3 1 (V g n cap) n (zs.map (Ao Ar))) (hl:zs.length=n) {c0:Nat} {z0:List Int}:jQ5 w w' a c0 z0 g cap n zs:=by
 refine⟨jMl h hl,.inr fun b e=>?_,.inr h⟩;rcases jX h with ⟨e1,_⟩|⟨g1,_,e1,hb,_⟩
 .cases e1
 .cases e1;cases e;exact hb
theorem jK9 (g c:Nat) (zs:List Int) (x:Int) (N:Nat) (w:Ad) (h:jH w g N zs) (hN:zs.length=N) (hc:N<=c) (r0:c<=Au) (hn:N<=1048576) (hs:zs.Pairwise (.<=.)) (hx:x≠-1):Ak prog 54 #[V g N c,x] w fun e w'=>∃ a' c',e=Ae (V a' (xM zs x).length c')/\jQ5 w w' g c zs a' c' (xM zs x).length (xM zs x)/\Ab w w w':=by
 have KH:=hd h;have KS:=hd hs;have HN:=hd hN;have HX:=hd hx;have HM:=hd r0;have j0:∀ j,j<N->w.cell? (Q g j I)=M (Ao Ar (zs.getD j 0)):=fun j hj=>by
  obtain⟨b,off,e,hc⟩:=h.2 j hj;cases e;simpa using hc
 have w0:H (∀ j,j<N->w.cell? (Q g j I)=M (Ao Ar (zs.getD j 0))):=j0;clear h hs hN hx r0 j0;have bd:=jD w;have KA:H (((w.drew.alloc (J #[x] 3)).alloc (J #[] 3)).ownsRow w 3 1 (V (Q (w.1.size+1) 0 I) 0 0) 0 (([]:List Int).map (Ao Ar))/\Ab w w ((w.drew.alloc (J #[x] 3)).alloc (J #[] 3))/\Row ((w.drew.alloc (J #[x] 3)).alloc (J #[] 3)) w 3 #[x]):=by
  refine⟨?_,(bd.alloc (Ay _) _).alloc (by simp) _,(Row.new w.drew _ _).alloc _⟩;have:=Cc (e:=3) (size:=1) (base:=w.1.size) (w.drew.alloc (J #[x] 3)) #[] 0 (by simp) (by unfold Au;omega) (by simp)
  simpa using this
 have bw:Ab w w (w.alloc (J #[] 3)).drew:=⟨((Az w w).alloc (Ay _) (J #[] 3)).os,((Az w w).alloc (Ay _) (J #[] 3)).tape,((Az w w).alloc (Ay _) (J #[] 3)).output,((Az w w).alloc (Ay _) (J #[] 3)).size,((Az w w).alloc (Ay _) (J #[] 3)).block⟩;have KB:H ((((w.alloc (J #[] 3)).drew).alloc (J #[x] 3)).ownsRow w 3 1 (V (Q w 0 I) 0 0) 0 (([]:List Int).map (Ao Ar))/\Ab w w (((w.alloc (J #[] 3)).drew).alloc (J #[x] 3))/\Row (((w.alloc (J #[] 3)).drew).alloc (J #[x] 3)) (w.1.size+1) 3 #[x]):=by
  refine⟨?_,bw.alloc bw.size _,?_⟩
  .have:=World.ownsRow.drew (Cc (e:=3) (size:=1) (base:=w.1.size) w #[] 0 (by simp) (by unfold Au;omega) (by simp))
   have:=Cb this (J #[x] 3)
   simpa using this
  .have:=Row.new ((w.alloc (J #[] 3)).drew) #[x] 3
   simpa using this
 have KC:H (((w.alloc (J #[] 3)).drew).ownsRow w 3 1 (V (Q w 0 I) 0 0) 0 (([]:List Int).map (Ao Ar))/\Ab w w ((w.alloc (J #[] 3)).drew)):=by
  refine⟨?_,bw⟩;have:=World.ownsRow.drew (Cc (e:=3) (size:=1) (base:=w.1.size) w #[] 0 (by simp) (by unfold Au;omega) (by simp))
  simpa using this
 clear bd bw;go_enter func54,ntmps54
 go_wp2
 go_loopw [5] (fun vi wr=>∃ k:Nat,k<=N/\vi=Ao Ar (k:Int)/\H ((∀ j,j<k->zs.getD j 0<x)/\wr=w)) (fun vi _=>N-(intOf vi).toNat)
 case atStart=>exact⟨0,Bi _,rfl,fun j hj=>Bo hj (Bk _),rfl⟩
 case round=>
  obtain⟨k,hk,rfl,n0⟩:=hrel;have HJ:H (∀ j,j<k->zs.getD j 0<x):=n0.1;obtain rfl:=n0.2.symm;clear n0;by_cases hlt:k<N
  .have z0:(k:Int)<(N:Int):=by omega
   have x0:=w0 k hlt;obtain⟨z,HZ⟩:=nnH (zs.getD k 0);rw[HZ.out] at x0;by_cases hzx:z<x
   .have HJ2:H (∀ j,j<k+1->zs.getD j 0<x):=fun j hj=>by
     by_cases e:j=k
     .subst e;rw[HZ.out];exact hzx
     .exact HJ j (by omega)
    go_wp2
    go_roundw
    case rel=>exact⟨k+1,by omega,by go_num,HJ2.out,trivial⟩
    case measure=>simp[intOf];omega
   .by_cases hze:z=x
    .have HP:H (xM zs x=zs):=A6 (.inr (by
      rw[<-hze,<-HZ.out,Bx,Bj (by rw[HN.out];exact hlt)];exact List.getElem_mem _))
     have v0:(z==x)=Aw:=by simpa using hze
     go_wp2
     go_ret
     refine⟨M (Q g 0 I),c,?_,by rw[HP.out,HN.out];exact⟨KH,.inl rfl,.inl ⟨rfl,rfl,rfl⟩⟩,Az _ _⟩;rw[HP.out,HN.out];rfl
    .have p0:H (x<z):=by show x<z;omega
     have v0:(z==x)=Av:=by simpa using hze
     have HC:=hd (jN6 KS (by rw[HN.out];exact hk) HJ (fun _=>by rw[HZ.out];have:=p0.out;omega));have HP:=hd (jOv HX (jOf KS HJ (fun _=>by rw[HZ.out];exact p0)) HC);have HT:H (∀ W,Ab w w W->jH W g k (zs.take k)):=fun W hW=>jAc (KH.below hW) hk
     have HD:H (∀ W,Ab w w W->jH W (Q g k I) (N-k) (zs.drop k)):=fun W hW=>jC8 (KH.below hW) hk
     have f0:(zs.take k).length=k:=by rw[Cu,HN.out];omega
     have i0:(zs.drop k).length=N-k:=by rw[Df,HN.out]
     have d0:H (([]++zs.take k).length=k/\([]++zs.take k++[x]).length=k+1/\(zs.drop k).length=N-k/\k+1+(N-k)=N+1/\(zs.take k).length=k):=⟨by simpa using f0,by simp[f0],i0,by omega,f0⟩;have k0:=HM.out;have s0:(0:Int)<=(k:Int):=by omega
     have t0:(k:Int)<=(N:Int):=by omega
     have q0:(N:Int)<=(c:Int):=by omega
     have u0:(k:Int)<=(c:Int):=by omega
     unfold Au at k0;clear f0 i0;have y0:¬ c=k:=by omega
     have m0:¬ c-k=0:=by omega
     go_upto_region 6 with fail
     go_region_held3 (fun _=>True) (trivial) ((first|(guard_hyp b0;refine qC _ rfl _ _ rfl w _ _ (k+1) (N-k) (N+1) ([]++zs.take k++[x]) (zs.drop k) d0.2.1 d0.2.2.1 d0.2.2.2.1 rfl ?_ _ _ rfl ?_ (by omega) ?_ ?_;exact b0.out.1;exact HD.out _ b0.2;exact b0.2.size;intro g3 c3 w3 e0 c0;have g0:H (w3.ownsRow w 3 1 (V g3 (N+1) c3) (N+1) (([]++zs.take k++[x]++zs.drop k).map (Ao Ar))/\Ab w w w3):=⟨e0,b0.2.trans (qN c0 (A0 b0.1 _ rfl).1 b0.2.size)⟩;clear e0 c0)|(guard_hyp a0;refine qC _ rfl _ _ rfl w _ _ k 1 (k+1) ([]++zs.take k) [x] d0.1 rfl rfl rfl ?_ _ _ rfl ?_ (by omega) ?_ ?_;(first|exact a0.out.1|exact Cb a0.1 _);(first|exact xN h0.out|exact xN (Row.new _ _ _));(first|exact a0.2.size|exact(a0.2.alloc a0.2.size _).size);intro g2 c2 w2 hown2 hgrow2;have b0:H (w2.ownsRow w 3 1 (V g2 (k+1) c2) (k+1) (([]++zs.take k++[x]).map (Ao Ar))/\Ab w w w2):=⟨hown2,(by first|exact a0.2.trans (qN hgrow2 (A0 a0.1 _ rfl).1 a0.2.size)|exact(a0.2.alloc a0.2.size _).trans (qN hgrow2 (A0 a0.1 _ rfl).1 (a0.2.alloc a0.2.size _).size))⟩;clear hown2 hgrow2)|(refine qC _ rfl _ _ rfl w _ _ 0 k k [] (zs.take k) rfl d0.2.2.2.2 (Bt _) rfl ?_ _ _ rfl ?_ (by omega) ?_ ?_;(first|exact KB.out.1|exact KC.1|exact KA.1);(first|exact HT _ KA.2.1|exact HT _ KB.2.1|exact HT _ KC.2);(first|exact KA.2.1.size|exact KB.2.1.size|exact KC.2.size);intro g1 c1 w1 hown1 hgrow1;have a0:H (w1.ownsRow w 3 1 (V g1 k c1) k (([]++zs.take k).map (Ao Ar))/\Ab w w w1):=⟨hown1,(by first|exact KA.2.1.trans (qN hgrow1 (by omega) KA.out.2.1.size)|exact KB.out.2.1.trans (qN hgrow1 (by omega) KB.out.2.1.size)|exact KC.out.2.trans (qN hgrow1 (by omega) KC.out.2.size))⟩;(first|(have h0:H (Row w1 w 3 #[Ao Ar x]):=zA KA.2.2 hgrow1 (by omega))|(have h0:H (Row w1 (w.1.size+1) 3 #[Ao Ar x]):=zA KB.2.2 hgrow1 (by omega))|skip);clear hown1 hgrow1)))
     all_goals
      go_wp2_with fail
      go_ret
      have e:([]++zs.take k++[x]++zs.drop k).length=N+1:=by simp[HN.out];omega
      refine⟨M (Q g3 0 I),c3,?_,?_,g0.2⟩
      .rw[HP.out,e];rfl
      .rw[HP.out,e];exact jB3 g0.1 e
  .have a1:¬ ((k:Int)<(N:Int)):=by omega
   have o0:H (k=N):=by show k=N;omega
   have HC:=hd (jN6 KS (by rw[HN.out];exact hk) HJ (fun h=>by rw[HN.out] at h;omega));have HP:=hd (jOv HX (jOf KS HJ (fun h=>by rw[HN.out] at h;omega)) HC.out);by_cases y0:c=k
   .have m0:c-k=0:=by omega
    have HT:H (∀ W,Ab w w W->jH W g k (zs.take k)):=fun W hW=>jAc (KH.below hW) hk
    have HD:H (∀ W,Ab w w W->jH W g (N-k) (zs.drop k)):=fun W hW=>jMk _ _ _ (by have:=o0.out;omega) (by rw[Df,HN.out];have:=o0.out;omega)
    have f0:(zs.take k).length=k:=by rw[Cu,HN.out];omega
    have i0:(zs.drop k).length=N-k:=by rw[Df,HN.out]
    have d0:H (([]++zs.take k).length=k/\([]++zs.take k++[x]).length=k+1/\(zs.drop k).length=N-k/\k+1+(N-k)=N+1/\(zs.take k).length=k):=⟨by simpa using f0,by simp[f0],i0,by omega,f0⟩;have k0:=HM.out;have s0:(0:Int)<=(k:Int):=by omega
    have t0:(k:Int)<=(N:Int):=by omega
    have q0:(N:Int)<=(c:Int):=by omega
    have u0:(k:Int)<=(c:Int):=by omega
    unfold Au at k0;clear f0 i0;go_upto_region 6 with fail
    go_region_held3 (fun _=>True) (trivial) ((first|(guard_hyp b0;refine qC _ rfl _ _ rfl w _ _ (k+1) (N-k) (N+1) ([]++zs.take k++[x]) (zs.drop k) d0.2.1 d0.2.2.1 d0.2.2.2.1 rfl ?_ _ _ rfl ?_ (by omega) ?_ ?_;exact b0.out.1;exact HD.out _ b0.2;exact b0.2.size;intro g3 c3 w3 e0 c0;have g0:H (w3.ownsRow w 3 1 (V g3 (N+1) c3) (N+1) (([]++zs.take k++[x]++zs.drop k).map (Ao Ar))/\Ab w w w3):=⟨e0,b0.2.trans (qN c0 (A0 b0.1 _ rfl).1 b0.2.size)⟩;clear e0 c0)|(guard_hyp a0;refine qC _ rfl _ _ rfl w _ _ k 1 (k+1) ([]++zs.take k) [x] d0.1 rfl rfl rfl ?_ _ _ rfl ?_ (by omega) ?_ ?_;(first|exact a0.out.1|exact Cb a0.1 _);(first|exact xN h0.out|exact xN (Row.new _ _ _));(first|exact a0.2.size|exact(a0.2.alloc a0.2.size _).size);intro g2 c2 w2 hown2 hgrow2;have b0:H (w2.ownsRow w 3 1 (V g2 (k+1) c2) (k+1) (([]++zs.take k++[x]).map (Ao Ar))/\Ab w w w2):=⟨hown2,(by first|exact a0.2.trans (qN hgrow2 (A0 a0.1 _ rfl).1 a0.2.size)|exact(a0.2.alloc a0.2.size _).trans (qN hgrow2 (A0 a0.1 _ rfl).1 (a0.2.alloc a0.2.size _).size))⟩;clear hown2 hgrow2)|(refine qC _ rfl _ _ rfl w _ _ 0 k k [] (zs.take k) rfl d0.2.2.2.2 (Bt _) rfl ?_ _ _ rfl ?_ (by omega) ?_ ?_;(first|exact KB.out.1|exact KC.1|exact KA.1);(first|exact HT _ KA.2.1|exact HT _ KB.2.1|exact HT _ KC.2);(first|exact KA.2.1.size|exact KB.2.1.size|exact KC.2.size);intro g1 c1 w1 hown1 hgrow1;have a0:H (w1.ownsRow w 3 1 (V g1 k c1) k (([]++zs.take k).map (Ao Ar))/\Ab w w w1):=⟨hown1,(by first|exact KA.2.1.trans (qN hgrow1 (by omega) KA.out.2.1.size)|exact KB.out.2.1.trans (qN hgrow1 (by omega) KB.out.2.1.size)|exact KC.out.2.trans (qN hgrow1 (by omega) KC.out.2.size))⟩;(first|(have h0:H (Row w1 w 3 #[Ao Ar x]):=zA KA.2.2 hgrow1 (by omega))|(have h0:H (Row w1 (w.1.size+1) 3 #[Ao Ar x]):=zA KB.2.2 hgrow1 (by omega))|skip);clear hown1 hgrow1)))
    all_goals
     go_wp2_with fail
     go_ret
     have e:([]++zs.take k++[x]++zs.drop k).length=N+1:=by simp[HN.out];omega
     refine⟨M (Q g3 0 I),c3,?_,?_,g0.2⟩
     .rw[HP.out,e];rfl
     .rw[HP.out,e];exact jB3 g0.1 e
   .have m0:¬ c-k=0:=by omega
    have HT:H (∀ W,Ab w w W->jH W g k (zs.take k)):=fun W hW=>jAc (KH.below hW) hk
    have HD:H (∀ W,Ab w w W->jH W (Q g k I) (N-k) (zs.drop k)):=fun W hW=>jC8 (KH.below hW) hk
    have f0:(zs.take k).length=k:=by rw[Cu,HN.out];omega
    have i0:(zs.drop k).length=N-k:=by rw[Df,HN.out]
    have d0:H (([]++zs.take k).length=k/\([]++zs.take k++[x]).length=k+1/\(zs.drop k).length=N-k/\k+1+(N-k)=N+1/\(zs.take k).length=k):=⟨by simpa using f0,by simp[f0],i0,by omega,f0⟩;have k0:=HM.out;have s0:(0:Int)<=(k:Int):=by omega
    have t0:(k:Int)<=(N:Int):=by omega
    have q0:(N:Int)<=(c:Int):=by omega
    have u0:(k:Int)<=(c:Int):=by omega
    unfold Au at k0;clear f0 i0;go_upto_region 6 with fail
    go_region_held3 (fun _=>True) (trivial) ((first|(guard_hyp b0;refine qC _ rfl _ _ rfl w _ _ (k+1) (N-k) (N+1) ([]++zs.take k++[x]) (zs.drop k) d0.2.1 d0.2.2.1 d0.2.2.2.1 rfl ?_ _ _ rfl ?_ (by omega) ?_ ?_;exact b0.out.1;exact HD.out _ b0.2;exact b0.2.size;intro g3 c3 w3 e0 c0;have g0:H (w3.ownsRow w 3 1 (V g3 (N+1) c3) (N+1) (([]++zs.take k++[x]++zs.drop k).map (Ao Ar))/\Ab w w w3):=⟨e0,b0.2.trans (qN c0 (A0 b0.1 _ rfl).1 b0.2.size)⟩;clear e0 c0)|(guard_hyp a0;refine qC _ rfl _ _ rfl w _ _ k 1 (k+1) ([]++zs.take k) [x] d0.1 rfl rfl rfl ?_ _ _ rfl ?_ (by omega) ?_ ?_;(first|exact a0.out.1|exact Cb a0.1 _);(first|exact xN h0.out|exact xN (Row.new _ _ _));(first|exact a0.2.size|exact(a0.2.alloc a0.2.size _).size);intro g2 c2 w2 hown2 hgrow2;have b0:H (w2.ownsRow w 3 1 (V g2 (k+1) c2) (k+1) (([]++zs.take k++[x]).map (Ao Ar))/\Ab w w w2):=⟨hown2,(by first|exact a0.2.trans (qN hgrow2 (A0 a0.1 _ rfl).1 a0.2.size)|exact(a0.2.alloc a0.2.size _).trans (qN hgrow2 (A0 a0.1 _ rfl).1 (a0.2.alloc a0.2.size _).size))⟩;clear hown2 hgrow2)|(refine qC _ rfl _ _ rfl w _ _ 0 k k [] (zs.take k) rfl d0.2.2.2.2 (Bt _) rfl ?_ _ _ rfl ?_ (by omega) ?_ ?_;(first|exact KB.out.1|exact KC.1|exact KA.1);(first|exact HT _ KA.2.1|exact HT _ KB.2.1|exact HT _ KC.2);(first|exact KA.2.1.size|exact KB.2.1.size|exact KC.2.size);intro g1 c1 w1 hown1 hgrow1;have a0:H (w1.ownsRow w 3 1 (V g1 k c1) k (([]++zs.take k).map (Ao Ar))/\Ab w w w1):=⟨hown1,(by first|exact KA.2.1.trans (qN hgrow1 (by omega) KA.out.2.1.size)|exact KB.out.2.1.trans (qN hgrow1 (by omega) KB.out.2.1.size)|exact KC.out.2.trans (qN hgrow1 (by omega) KC.out.2.size))⟩;(first|(have h0:H (Row w1 w 3 #[Ao Ar x]):=zA KA.2.2 hgrow1 (by omega))|(have h0:H (Row w1 (w.1.size+1) 3 #[Ao Ar x]):=zA KB.2.2 hgrow1 (by omega))|skip);clear hown1 hgrow1)))
    all_goals
     go_wp2_with fail
     go_ret
     have e:([]++zs.take k++[x]++zs.drop k).length=N+1:=by simp[HN.out];omega
     refine⟨M (Q g3 0 I),c3,?_,?_,g0.2⟩
     .rw[HP.out,e];rfl
     .rw[HP.out,e];exact jB3 g0.1 e
theorem jK8 (x:Int) (w:Ad):Ak prog 54 #[V I 0 0,x] w fun e w'=>∃ a' c',e=Ae (V a' 1 c')/\jQ5 w w' I 0 [] a' c' 1 [x]/\Ab w w w':=by
 have bw:Ab w w (w.alloc (J #[] 3)).drew:=⟨((Az w w).alloc (Ay _) (J #[] 3)).os,((Az w w).alloc (Ay _) (J #[] 3)).tape,((Az w w).alloc (Ay _) (J #[] 3)).output,((Az w w).alloc (Ay _) (J #[] 3)).size,((Az w w).alloc (Ay _) (J #[] 3)).block⟩;have KB:H ((((w.alloc (J #[] 3)).drew).alloc (J #[x] 3)).ownsRow w 3 1 (V (Q w 0 I) 0 0) 0 (([]:List Int).map (Ao Ar))/\Ab w w (((w.alloc (J #[] 3)).drew).alloc (J #[x] 3))/\Row (((w.alloc (J #[] 3)).drew).alloc (J #[x] 3)) (w.1.size+1) 3 #[x]):=by
  refine⟨?_,bw.alloc bw.size _,?_⟩
  .have:=World.ownsRow.drew (Cc (e:=3) (size:=1) (base:=w.1.size) w #[] 0 (by simp) (by unfold Au;omega) (by simp))
   have:=Cb this (J #[x] 3)
   simpa using this
  .have:=Row.new ((w.alloc (J #[] 3)).drew) #[x] 3
   simpa using this
 have KA:H (((w.drew.alloc (J #[x] 3)).alloc (J #[] 3)).ownsRow w 3 1 (V (Q (w.1.size+1) 0 I) 0 0) 0 (([]:List Int).map (Ao Ar))/\Ab w w ((w.drew.alloc (J #[x] 3)).alloc (J #[] 3))/\Row ((w.drew.alloc (J #[x] 3)).alloc (J #[] 3)) w 3 #[x]):=by
  refine⟨?_,((jD w).alloc (Ay _) _).alloc (by simp) _,(Row.new w.drew _ _).alloc _⟩;have:=Cc (e:=3) (size:=1) (base:=w.1.size) (w.drew.alloc (J #[x] 3)) #[] 0 (by simp) (by unfold Au;omega) (by simp)
  simpa using this
 go_enter func54,ntmps54
 go_wp2
 go_loopw [5] (fun vi wr=>vi=Ao Ar 0/\wr=w) (fun _ _=>0)
 case atStart=>exact⟨rfl,rfl⟩
 case round=>
  obtain⟨rfl,hw⟩:=hrel;obtain rfl:=hw.symm;go_upto_region 6 with fail
  go_region_held3 (fun _=>True) (trivial) ((refine qC _ rfl _ _ rfl w _ _ 0 1 1 [] [x] rfl rfl rfl rfl ?_ _ _ rfl ?_ (by omega) ?_ ?_;(first|exact KB.out.1|exact KA.1);(first|exact xN KB.2.2|exact xN KA.2.2);(first|exact KB.2.1.size|exact KA.2.1.size);intro g2 c2 w2 b0 a0;have c0:H (w2.ownsRow w 3 1 (V g2 1 c2) 1 (([x]:List Int).map (Ao Ar))/\Ab w w w2):=⟨b0,(by first|exact KB.2.1.trans (qN a0 (by omega) KB.out.2.1.size)|exact KA.out.2.1.trans (qN a0 (by omega) KA.out.2.1.size))⟩;have d0:1<=c2:=jR8 b0;clear b0 a0))
  all_goals
   go_wp2_with fail
   go_ret
   exact⟨M (Q g2 0 I),c2,rfl,jB3 c0.1 rfl,c0.2⟩
theorem jGt (B:Nat) (a:OA) (c:Nat) (zs:List Int) (x:Int) (F:Nat->Prop) (w:Ad) (h:Ow w B (inD zs) (V a zs.length c) F) (hn:zs.length<=1048576) (hs:zs.Pairwise (.<=.)) (hx:x≠-1):Ak prog 54 #[V a zs.length c,x] w fun e w'=>∃ a' c',e=Ae (V a' (xM zs x).length c')/\jQ5 w w' a c zs a' c' (xM zs x).length (xM zs x)/\Ab w w w':=by
 obtain⟨a1,c1,e1,ho,_⟩:=JX h;simp only[Ek,true_and] at e1;obtain⟨rfl,rfl⟩:=e1;rcases ho.2 with ⟨e,h0⟩|⟨g,cap,c0,e,_,_,b0,a0,_,_⟩
 .have hz:=Ez.1 h0;subst hz;simp only[Ek] at e;obtain⟨rfl,_,rfl⟩:=e;have ep:xM [] x=[x]:=by unfold xM;rw[A5 (by simp[hx])];rfl
  rw[ep];exact jK8 x w
 .simp only[Ek] at e;obtain⟨rfl,_,rfl⟩:=e;exact jK9 g c zs x zs.length w (qL.1 h.rd) rfl b0 a0 hn hs hx
end Go.Proofs.YtcaejlalnjnifaaGreat
