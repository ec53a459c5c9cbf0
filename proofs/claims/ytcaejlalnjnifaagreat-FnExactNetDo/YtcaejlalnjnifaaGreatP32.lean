import Derived.Test.YtcaejlalnjnifaaGreatP27
import Derived.Test.YtcaejlalnjnifaaGreatP26
import Derived.Test.YtcaejlalnjnifaaGreatP28
import Derived.Test.YtcaejlalnjnifaaGreatP30
import Derived.Test.YtcaejlalnjnifaaGreatP29
set_option maxHeartbeats 8000000
set_option maxRecDepth 2000
open Go.Value renaming slice->V,string->Ag,int->Ao,oneCell'->Aq
open Option renaming none->I,some->M
open Go.RowKit renaming Hid->H,Below->Ab
open Go.Addr renaming mk->Q
open Go renaming undef->O,World->Ad,Value->Aj,Calls->Ak,maxLen->Au
open Go.Obj renaming cells->J
open Go.Ending renaming returned->Ae
open Go.IntKind renaming i64->Ar
open Bool renaming false->Av,true->Aw
open Go.Proofs.Tryz
open Go.ChangeShapes Go.WideShapes Go.ChangeAt Go.RowKit
namespace Go.Proofs.YtcaejlalnjnifaaGreat
theorem Ow.far {w:Ad} {B:Nat} {d:Dt} {v:Aj} {F:Nat->Prop} (h:Ow w B d v F) {g:Nat} (o:Nat) (x:Aj) (hn:¬ F g):Ow (w.setCell (Q g o I) x) B d v F:=
 h.turned (Trn.set w o x (F:=fun y=>y=g) rfl) (fun _ hy e=>hn (e▸hy))
structure SlO (w:Ad) (B:Nat) (s:Sl) (v6 v11 v12:Aj) (F6 F11 F12:Nat->Prop):Prop where
 t:Ow w B (txD s.p.m s.p.S) v6 F6
 e:Ow w B (inD s.ze) v11 F11
 z:Ow w B (inD s.zr) v12 F12
 d1:∀ g,F6 g->¬ F11 g
 d2:∀ g,F6 g->¬ F12 g
 d3:∀ g,F11 g->¬ F12 g
structure SlK (s:Sl):Prop where
 r:s.r.size<=1048576
 pr:s.p.r.size<=1048576
 pb:s.p.b.size<=1048576
 m:s.p.m<=1048576
 tx:∀ i,i<s.p.m->(s.p.S i).size<=1048576
 ne:s.ze.length<=1048576
 nr:s.zr.length<=1048576
def CpB (w0 wc w:Ad) (s:Sl) (A D g6:Nat) (wx:Ad):Prop:=∃ (e11 e12:OA) (h11 h12:Nat) (F11 F12:Nat->Prop),Row wx A 42 (slC s (V g6 s.p.m s.p.m) (V e11 s.ze.length h11) (V e12 s.zr.length h12))/\Row wx D 42 #[Zs,Zs,(),(),(),Zs,V I 0 0,Av,Av,Av,Av,V I 0 0,V I 0 0]/\jI wx w0 g6 s.p.m s.p.m s.p.S/\Ow wx wc (inD s.ze) (V e11 s.ze.length h11) F11/\Ow wx wc (inD s.zr) (V e12 s.zr.length h12) F12/\(∀ x,F11 x->¬ F12 x)/\(∀ x,F11 x->wc.1.size<=x)/\(∀ x,F12 x->wc.1.size<=x)/\Ab w w wx
theorem jSd {w0 wc w w7 w8:Ad} {s:Sl} {A D g6 e0 f0 i0 j0:Nat} {c0 d0 g0 h0:OA} (RA:Row wc A 42 (slC s (V g6 s.p.m s.p.m) (V g0 s.ze.length i0) (V h0 s.zr.length j0))) (RD:Row wc D 42 #[Zs,Zs,(),(),(),Zs,V I 0 0,Av,Av,Av,Av,V I 0 0,V I 0 0]) (O6:jI wc w0 g6 s.p.m s.p.m s.p.S) (hA:A<w0) (b0:A≠D/\w.1.size<=A) (B:Ab w w wc) (b7:Ab wc wc w7) (O7:Ow w7 wc (inD s.ze) (V c0 s.ze.length e0) (rng wc w7.1.size)) (b8:Ab w7 w7 w8) (O8:Ow w8 w7 (inD s.zr) (V d0 s.zr.length f0) (rng w7 w8.1.size)):CpB w0 wc w s A D g6 ((w8.setCell (Q A 11 I) (V c0 s.ze.length e0)).setCell (Q A 12 I) (V d0 s.zr.length f0)):=by
 have lA:=RA.lt;have n7:=b7.size;have a0:=jA b7 b8;have h1:¬ rng wc w7.1.size A:=fun h=>by have:=h.1;omega
 have h2:¬ rng w7 w8.1.size A:=fun h=>by have:=h.1;omega
 exact⟨c0,d0,e0,f0,_,_,((RA.below a0 lA).set 11 _).set 12 _,((RD.below a0 RD.lt).other 11 _ (Ci b0.1)).other 12 _ (Ci b0.1),((O6.below a0).setFar hA).setFar hA,((O7.below b8).far 11 _ h1).far 12 _ h1,((O8.base n7).far 11 _ h2).far 12 _ h2,fun x hx hy=>by have:=hx.2;have:=hy.1;omega,fun x hx=>hx.1,fun x hx=>by have:=hx.1;omega,((jA B a0).setCell b0.2 _).setCell b0.2 _⟩
theorem jEi (s:Sl) (a6 b0 a0:OA) (c6 e0 c0:Nat) (w:Ad) (h6:jK w a6 s.p.m s.p.S) (d0:jH w b0 s.ze.length s.ze) (f0:jH w a0 s.zr.length s.zr) (hs:SlK s):Ak prog 61 #[slV s (V a6 s.p.m c6) (V b0 s.ze.length e0) (V a0 s.zr.length c0)] w fun e w'=>∃ (g6:Nat) (g0 h0:OA) (d0 f0:Nat) (F6 o0 r0:Nat->Prop),e=Ae (slV s (V (Q g6 0 I) s.p.m s.p.m) (V g0 s.ze.length d0) (V h0 s.zr.length f0))/\SlO w' w s (V (Q g6 0 I) s.p.m s.p.m) (V g0 s.ze.length d0) (V h0 s.zr.length f0) F6 o0 r0/\Ab w w w':=by
 obtain⟨A,HA⟩:=nmH w.1.size;obtain⟨D,HD⟩:=nmH (w.1.size+1);obtain⟨w0,j0⟩:=nmH ((w.alloc (J (slC s (V a6 s.p.m c6) (V b0 s.ze.length e0) (V a0 s.zr.length c0)) 42)).alloc (J #[Zs,Zs,(),(),(),Zs,V I 0 0,Av,Av,Av,Av,V I 0 0,V I 0 0] 42));have RA:=zP j0 HA;have RD:=JO j0 HD;have v1:=bl2 j0;have b1:H (Ab w w w0):=v1;have hAD:H (A≠D/\w.1.size<=A/\w.1.size<=D):=⟨by have:=HA.out;have:=HD.out;omega,by have:=HA.out;omega,by have:=HD.out;omega⟩;have g1:H (∀ W,CB 120 #[s.r] W s.r):=fun W=>qN s.r W hs.r
 have f1:H (∀ W,Ab w w W->Ak prog 121 #[pcV s.p.r s.p.k s.p.n s.p.i s.p.b (V a6 s.p.m c6)] W fun e w'=>∃ g,e=Ae (pcV s.p.r s.p.k s.p.n s.p.i s.p.b (V (Q g 0 I) s.p.m s.p.m))/\jI w' W.1.size (Q g 0 I) s.p.m s.p.m s.p.S/\Ab W.1.size W w'):=fun W hW=>JQ _ _ _ _ _ a6 _ c6 _ W (h6.below hW) hs.m hs.pr hs.pb hs.tx
 have c1:H (∀ W,Ab w w W->Ak prog 77 #[V b0 s.ze.length e0] W _):=fun W hW=>XB b0 e0 s.ze W (d0.below hW) hs.ne
 have e1:H (∀ W,Ab w w W->Ak prog 77 #[V a0 s.zr.length c0] W _):=fun W hW=>XB a0 c0 s.zr W (f0.below hW) hs.nr
 clear h6 d0 f0 v1 hs;go_enter func61,ntmps61
 go_wp2_with fail
 rw[<-j0.out,<-HD.out,<-HA.out];go_cut [] from 3 to 10 (fun wx=>H (∃ g6,Row wx A 42 (slC s (V (Q g6 0 I) s.p.m s.p.m) (V b0 s.ze.length e0) (V a0 s.zr.length c0))/\Row wx D 42 #[Zs,Zs,(),(),(),Zs,V I 0 0,Av,Av,Av,Av,V I 0 0,V I 0 0]/\jI wx w0 (Q g6 0 I) s.p.m s.p.m s.p.S/\Ab w w wx))
 case first=>
  have lA:=RA.lt;have lD:=RD.lt;have q0:=RA.cell 0;have q1:=RA.cell 1;have q2:=RA.cell 2;have q3:=RA.cell 3;have q4:=RA.cell 4;have q5:=RA.cell 5;have q6:=RA.cell 6;have q7:=RA.cell 7;have q8:=RA.cell 8;have q9:=RA.cell 9;have i2:=RA.cell 10;have y0:=RA.cell 11;have a1:=RA.cell 12;simp at q0 q1 q2 q3 q4 q5 q6 q7 q8 q9 i2 y0 a1;have s0:H (∀ W,Ab w0 w0 W->Row W A 42 (slC s (V a6 s.p.m c6) (V b0 s.ze.length e0) (V a0 s.zr.length c0))/\Row W D 42 #[Zs,Zs,(),(),(),Zs,V I 0 0,Av,Av,Av,Av,V I 0 0,V I 0 0]/\Ab w w W/\w0.1.size<=W.1.size):=fun W hW=>⟨RA.below hW lA,RD.below hW lD,jA b1 hW,hW.size⟩
  have j1:H (∀ W,Row W A 42 (slC s (V a6 s.p.m c6) (V b0 s.ze.length e0) (V a0 s.zr.length c0))/\Row W D 42 #[Zs,Zs,(),(),(),Zs,V I 0 0,Av,Av,Av,Av,V I 0 0,V I 0 0]/\Ab w w W/\w0.1.size<=W.1.size->Row (W.setCell A s.r) A 42 (slC s (V a6 s.p.m c6) (V b0 s.ze.length e0) (V a0 s.zr.length c0))/\Row (W.setCell A s.r) D 42 #[Zs,Zs,(),(),(),Zs,V I 0 0,Av,Av,Av,Av,V I 0 0,V I 0 0]/\Ab w w (W.setCell A s.r)/\w0.1.size<=(W.setCell A s.r).1.size):=fun W hW=>⟨hW.1.set 0 _,hW.2.1.other 0 _ (Ci hAD.1),hW.2.2.1.setCell hAD.2.1 _,by simpa using hW.2.2.2⟩
  have i1:H (∀ W W' g,Row W A 42 (slC s (V a6 s.p.m c6) (V b0 s.ze.length e0) (V a0 s.zr.length c0))/\Row W D 42 #[Zs,Zs,(),(),(),Zs,V I 0 0,Av,Av,Av,Av,V I 0 0,V I 0 0]/\Ab w w W/\w0.1.size<=W.1.size->jI W' W.1.size (Q g 0 I) s.p.m s.p.m s.p.S->Ab W.1.size W W'->Row W' A 42 (slC s (V a6 s.p.m c6) (V b0 s.ze.length e0) (V a0 s.zr.length c0))/\Row W' D 42 #[Zs,Zs,(),(),(),Zs,V I 0 0,Av,Av,Av,Av,V I 0 0,V I 0 0]/\jI W' w0 (Q g 0 I) s.p.m s.p.m s.p.S/\Ab w w W'):=fun W W' g hW hO hB=>⟨hW.1.below hB hW.1.lt,hW.2.1.below hB hW.2.1.lt,jI.base hO hW.2.2.2,jA hW.2.2.1 hB⟩
  have KQ:H (∀ W,Row W A 42 (slC s (V a6 s.p.m c6) (V b0 s.ze.length e0) (V a0 s.zr.length c0))->W.cell? A=M (Ag s.r)/\W.cell? (Q A 1 I)=M (Ag s.p.r)/\W.cell? (Q A 2 I)=M (Ao Ar s.p.k)/\W.cell? (Q A 3 I)=M (Ao Ar s.p.n)/\W.cell? (Q A 4 I)=M (Ao Ar s.p.i)/\W.cell? (Q A 5 I)=M (Ag s.p.b)/\W.cell? (Q A 6 I)=M (V a6 s.p.m c6)/\W.cell? (Q A 7 I)=M (.bool s.h)/\W.cell? (Q A 8 I)=M (.bool s.e)/\W.cell? (Q A 9 I)=M (.bool s.d)/\W.cell? (Q A 10 I)=M (.bool s.o)/\W.cell? (Q A 11 I)=M (V b0 s.ze.length e0)/\W.cell? (Q A 12 I)=M (V a0 s.zr.length c0)):=fun W hW=>by
   have z0:=hW.cell 0;have z1:=hW.cell 1;have z2:=hW.cell 2;have z3:=hW.cell 3;have z4:=hW.cell 4;have z5:=hW.cell 5;have z6:=hW.cell 6;have z7:=hW.cell 7;have z8:=hW.cell 8;have z9:=hW.cell 9;have x1:=hW.cell 10;have n0:=hW.cell 11;have i0:=hW.cell 12;simp at z0 z1 z2 z3 z4 z5 z6 z7 z8 z9 x1 n0 i0;exact⟨z0,z1,z2,z3,z4,z5,z6,z7,z8,z9,x1,n0,i0⟩
  have KF:H (∀ W,Row W A 42 (slC s (V a6 s.p.m c6) (V b0 s.ze.length e0) (V a0 s.zr.length c0))->W.frozen? A=Av/\W.frozen? (Q A 1 I)=Av/\W.frozen? (Q A 2 I)=Av/\W.frozen? (Q A 3 I)=Av/\W.frozen? (Q A 4 I)=Av/\W.frozen? (Q A 5 I)=Av/\W.frozen? (Q A 6 I)=Av):=fun W hW=>⟨hW.free 0,hW.free 1,hW.free 2,hW.free 3,hW.free 4,hW.free 5,hW.free 6⟩
  go_region_with ((first|(go_at_call 121;refine Ax (f1 _ (by first|exact K7.2.2.1|exact(j1 _ K7).2.2.1)) ?_;rintro e w8 ⟨g6,rfl,O8,b8⟩;have K8:H (Row w8 A 42 (slC s (V a6 s.p.m c6) (V b0 s.ze.length e0) (V a0 s.zr.length c0))/\Row w8 D 42 #[Zs,Zs,(),(),(),Zs,V I 0 0,Av,Av,Av,Av,V I 0 0,V I 0 0]/\jI w8 w0 (Q g6 0 I) s.p.m s.p.m s.p.S/\Ab w w w8):=(by first|exact i1 _ _ _ K7 O8 b8|exact i1 _ _ _ (j1 _ K7) O8 b8);clear O8 b8;obtain⟨t0,t1,t2,t3,t4,t5,t6,t7,t8,t9,t10,t11,t12⟩:=KQ _ K8.1;obtain⟨gf0,gf1,gf2,gf3,gf4,gf5,gf6⟩:=KF _ K8.1)|(go_at_call 120;refine Ax (g1 _) ?_;rintro e w7 ⟨rfl,b7'⟩;have m0:=jC b7';clear b7';have K7:H _:=s0.out _ m0;clear m0;obtain⟨p0,p1,p2,p3,p4,p5,p6,p7,p8,p9,p10,p11,p12⟩:=KQ _ K7.1;obtain⟨pf0,pf1,pf2,pf3,pf4,pf5,pf6⟩:=KF _ K7.1)))
  all_goals
   have lA8:=lA;go_wp2_with fail
   go_meet
   first
    | exact⟨g6,(((((((K8.1.set 0 _).set 1 _).set 2 _).set 3 _).set 4 _).set 5 _).set 6 _),(((((((K8.2.1.other 0 _ (Ci hAD.1)).other 1 _ (Ci hAD.1)).other 2 _ (Ci hAD.1)).other 3 _ (Ci hAD.1)).other 4 _ (Ci hAD.1)).other 5 _ (Ci hAD.1)).other 6 _ (Ci hAD.1)),(((((((K8.2.2.1.setFar lA8).setFar lA8).setFar lA8).setFar lA8).setFar lA8).setFar lA8).setFar lA8),(((((((K8.2.2.2.setCell hAD.2.1 _).setCell hAD.2.1 _).setCell hAD.2.1 _).setCell hAD.2.1 _).setCell hAD.2.1 _).setCell hAD.2.1 _).setCell hAD.2.1 _)⟩
    | exact⟨g6,((((((K8.1.set 1 _).set 2 _).set 3 _).set 4 _).set 5 _).set 6 _),((((((K8.2.1.other 1 _ (Ci hAD.1)).other 2 _ (Ci hAD.1)).other 3 _ (Ci hAD.1)).other 4 _ (Ci hAD.1)).other 5 _ (Ci hAD.1)).other 6 _ (Ci hAD.1)),((((((K8.2.2.1.setFar lA8).setFar lA8).setFar lA8).setFar lA8).setFar lA8).setFar lA8),((((((K8.2.2.2.setCell hAD.2.1 _).setCell hAD.2.1 _).setCell hAD.2.1 _).setCell hAD.2.1 _).setCell hAD.2.1 _).setCell hAD.2.1 _)⟩
 obtain⟨g6,n1,r1,Oc,Bc⟩:=hcut.out;clear hcut RA RD g1 f1;have RA:H (Row wc A 42 (slC s (V (Q g6 0 I) s.p.m s.p.m) (V b0 s.ze.length e0) (V a0 s.zr.length c0))):=n1;have RD:H (Row wc D 42 #[Zs,Zs,(),(),(),Zs,V I 0 0,Av,Av,Av,Av,V I 0 0,V I 0 0]):=r1;have KO6:H (jI wc w0 (Q g6 0 I) s.p.m s.p.m s.p.S):=Oc;have KBc:H (Ab w w wc):=Bc;have HL0:H (A<w0/\D<w0):=by
  have h1:=HA.out;have h2:=HD.out;rw[j0.out];show A<_/\D<_;simp
  omega
 clear n1 r1 Oc Bc b1 j0;go_upto_region 2 with fail
 obtain⟨wb,e2⟩:∃ x,x=wc:=⟨wc,rfl⟩;subst e2;go_cut [] from 11 to 18 (fun wx=>H (CpB w0 wb w s A D g6 wx))
 case first=>
  have lA:=RA.lt;have lD:=RD.lt;have y0:=RA.cell 11;have a1:=RA.cell 12;simp at y0 a1;have s0:H (∀ W,Ab wb wb W->(W.cell? (Q A 11 I)=M (V b0 s.ze.length e0)/\W.cell? (Q A 12 I)=M (V a0 s.zr.length c0))/\W.frozen? (Q A 11 I)=Av/\W.frozen? (Q A 12 I)=Av):=fun W hW=>by
   have R:=RA.below hW lA;have n0:=R.cell 11;have i0:=R.cell 12;simp at n0 i0;exact⟨⟨n0,i0⟩,R.free 11,R.free 12⟩
  have f2:H (∀ W v W',Ab wb wb W->Ab (W.setCell (Q A 11 I) v).1.size (W.setCell (Q A 11 I) v) W'->W'.cell? (Q A 12 I)=M (V a0 s.zr.length c0)/\W'.frozen? (Q A 12 I)=Av):=fun W v W' hW g2=>by
   have R:=((RA.below hW lA).set 11 v).below g2 (by simp;exact Br lA hW.size);have i0:=R.cell 12;simp at i0;exact⟨i0,R.free 12⟩
  go_region_with ((first|(guard_hyp d1;go_at_call 77;refine Ax (e1 _ (by first|exact jA KBc K7.1|exact(jA KBc K7.1).setCell hAD.2.1 _)) ?_;rintro e w8 ⟨h0,f0,rfl,O8,b8⟩;have KO8:H _:=O8;have KB8:H _:=b8;first|(obtain⟨⟨t11,t12⟩,tf11,tf12⟩:=s0 _ (jA K7.1 b8);clear O8 b8)|(obtain⟨t12,tf12⟩:=f2.out _ _ _ K7.1 b8;clear O8 b8))|(go_at_call 77;refine Ax (c1 _ (Cy KBc 1)) ?_;rintro e w7 ⟨g0,d0,rfl,O7,b7'⟩;have m0:=jC b7';have K7:H (Ab wb wb w7/\Ow w7 wb (inD s.ze) (V g0 s.ze.length d0) (rng wb w7.1.size)):=⟨m0,O7⟩;have d1:H True:=trivial;clear b7' O7;obtain⟨⟨p11,p12⟩,pf11,pf12⟩:=s0 _ m0;clear m0)))
  all_goals
   go_wp2_with fail
   go_meet
   first
    | exact jSd RA RD KO6 HL0.1 ⟨hAD.1,hAD.2.1⟩ KBc K7.1 K7.2 KB8 KO8
    | exact cpB_b RA RD KO6 HL0.1 ⟨hAD.1,hAD.2.1⟩ KBc K7.1 K7.2 KB8 KO8
 obtain⟨g0,h0,d0,f0,o0,r0,o1,u0,O6,k1,m1,hd,v0,x0,Bd⟩:=hcut.out;clear hcut c1 e1;have LC:H (A<wb/\D<wb/\w.1.size<=wb.1.size):=⟨RA.lt,RD.lt,KBc.size⟩;have l6:=A0 KO6 g6 rfl;have w1:w.1.size<=w0.1.size:=by have:=HA.out;have:=HL0.1;omega
 have y1:H (Row wc A 42 (slC s (V (Q g6 0 I) s.p.m s.p.m) (V g0 s.ze.length d0) (V h0 s.zr.length f0))):=o1;have a2:H (Row wc D 42 #[Zs,Zs,(),(),(),Zs,V I 0 0,Av,Av,Av,Av,V I 0 0,V I 0 0]):=u0;obtain⟨w7,k0⟩:=nmH (wc.setRow D (slC s (V (Q g6 0 I) s.p.m s.p.m) (V g0 s.ze.length d0) (V h0 s.zr.length f0)));have ZR:H (Row w7 D 42 (slC s (V (Q g6 0 I) s.p.m s.p.m) (V g0 s.ze.length d0) (V h0 s.zr.length f0))):=by show Row _ _ _ _;rw[k0.out];exact u0.row
 have ZB:H (Ab w w w7):=by show Ab _ _ _;rw[k0.out];exact jG Bd hAD.2.2 _
 have Z6:H (Ow w7 w (txD s.p.m s.p.S) (V (Q g6 0 I) s.p.m s.p.m) (fun x=>x=g6)):=by
  show Ow _ _ _ _ _;rw[k0.out];refine xP (jL (jI.base O6 w1) (qR _ _ _) (fun x e=>?_)) (fun x e=>by cases e;rfl);cases e;show g6≠D;have:=l6.1
  have:=HL0.2
  omega
 have s1:H (Ow w7 w (inD s.ze) (V g0 s.ze.length d0) o0):=by
  show Ow _ _ _ _ _;rw[k0.out];exact(k1.base LC.2.2).frame fun x hx _=>Cj _ _ _ _ (fun e=>by have:=v0 x hx;have:=LC.2.1;omega)
 have u1:H (Ow w7 w (inD s.zr) (V h0 s.zr.length f0) r0):=by
  show Ow _ _ _ _ _;rw[k0.out];exact(m1.base LC.2.2).frame fun x hx _=>Cj _ _ _ _ (fun e=>by have:=x0 x hx;have:=LC.2.1;omega)
 have b2:H (SlO w7 w s (V (Q g6 0 I) s.p.m s.p.m) (V g0 s.ze.length d0) (V h0 s.zr.length f0) (fun x=>x=g6) o0 r0):=⟨Z6,s1,u1,fun x e h=>by have:=v0 x h;have:=l6.2;omega,fun x e h=>by have:=x0 x h;have:=l6.2;omega,hd⟩;clear o1 u0 O6 k1 m1 hd v0 x0 Bd l6 w1 Z6 s1 u1 RA RD KO6 KBc;go_wp2_with (first|(refine Bg rfl 42 _ rfl A rfl 42 (slC s (V (M ⟨g6,0,I⟩) s.p.m s.p.m) (V g0 s.ze.length d0) (V h0 s.zr.length f0)) (0,0) _ ?_ C5 rfl Tryz.infoSl ?_;exact y1)|(refine Ca rfl 42 _ _ rfl D (slC s (V (M ⟨g6,0,I⟩) s.p.m s.p.m) (V g0 s.ze.length d0) (V h0 s.zr.length f0)) rfl rfl 42 #[Zs,Zs,(),(),(),Zs,V I 0 0,Av,Av,Av,Av,V I 0 0,V I 0 0] ?_ Tryz.infoSl rfl (by simp[Aq]) ?_;exact a2;rw[<-k0.out]))
 exact B7 (v:=slV s (V (Q g6 0 I) s.p.m s.p.m) (V g0 s.ze.length d0) (V h0 s.zr.length f0)) (Cs results61 _ _ D 42 _ (0,0) _ rfl ZR C5 rfl Tryz.infoSl) rfl ⟨g6,g0,h0,d0,f0,_,_,_,rfl,b2,ZB⟩
theorem jAq {c0:Array Oper} {a0:List Oper} {o:Oper} {a:Act} {Q:Exit->Act->Ad->Prop} (w:Ad) (b0:o.guard=I) (s x:Nat) (ho:o.op=.call {callee:=.builtin .append,args:=#[.tmp s,.tmp x],argTypes:=#[40,40]}) (G c:Nat) (hs:a.eval (.tmp s)=V G 0 0) (hx:a.eval (.tmp x)=V I 0 c) (h:wpList prog c0 Q a0 (a.put o.dst (V G 0 0)) w):wpList prog c0 Q (o::a0) a w:=by
 refine Gw b0 fun K hK=>?_
 obtain⟨e0,op,ty,h0,d0,gd⟩:=o;simp only at ho b0;subst ho b0;have hk:=hK _ _ h;have f0:a.tmps[s]?.getD O=V G 0 0:=by simpa [Act.eval] using hs
 have g0:a.tmps[x]?.getD O=V I 0 c:=by simpa [Act.eval] using hx
 go_simp
 exact hk
theorem JC {f0:Array Oper} {b0:List Oper} {o:Oper} {a:Act} {Q:Exit->Act->Ad->Prop} (w:Ad) (d0:o.guard=I) (s x:Nat) (ho:o.op=.call {callee:=.builtin .append,args:=#[.tmp s,.tmp x],argTypes:=#[40,40]}) (base G:Nat) (hs:a.eval (.tmp s)=V G 0 0) (a0:w.ownsRow base 3 1 (V G 0 0) 0 []) (ad:OA) (zs:List Int) (c:Nat) (hx:a.eval (.tmp x)=V ad zs.length c) (hI:jH w ad zs.length zs) (hn:zs.length<=1048576) (c0:base<=w)
  (h:∀ g cap w',w'.ownsRow base 3 1 (V (Addr.mk g 0 I) zs.length cap) zs.length (zs.map (Ao Ar))->w.grownBy w' (M G)->wpList prog f0 Q b0 (a.put o.dst (V (Addr.mk g 0 I) zs.length cap)) w'):wpList prog f0 Q (o::b0) a w:=by
 obtain⟨i0,hi,g0,j0,k0⟩:∃ i0,Tryz.prog.info? 3=M i0/\i0.zero=M (Ao Ar 0)/\i0.size=1/\i0.bytes=8:=⟨_,rfl,rfl,rfl,rfl⟩;match ad,hx,hI with
 | none,hx,hI=>
  have e0:zs.length=0:=by
   by_cases h0:zs.length=0
   .exact h0
   .obtain⟨b,off,e,_⟩:=hI.2 0 (by omega);cases e
  have ez:=E0.1 e0;subst ez;exact jAq w d0 s x ho G c hs hx (h G 0 w a0 ⟨rfl,rfl,rfl,Ay _,fun _ _ _=>rfl⟩)
 | some ⟨b,off,sp⟩,hx,hI=>
  refine qC w d0 (.tmp s) (.tmp x) 40 ho base 3 i0 () 1 8 Ec hi g0 j0 k0 rfl (by decide) G 0 0 [] hs a0 ⟨b,off,sp⟩ zs.length c (zs.map (Ao Ar)) hx (by simp) (fun j u hu=>?_) (by simp[Aq]) (by unfold Au;omega) (by omega) c0 fun g cap w' h1 h2=>?_
  .have hj:0<zs.length:=by
    have:=(Bz.1 hu).1
    simp at this;omega
   have e:=ZU hI hj;simp at e;subst e;exact ZT hI j u hu
  .have:=h g cap w' (by simpa using h1) h2
   simpa using this
theorem qB {j0:Array Oper} {o:Oper} {a:Act} {K:Act->Ad->Prop} {Q:Exit->Act->Ad->Prop} {E:Prop} (w:Ad) (c0:o.guard=I) (s x:Nat) (ho:o.op=.call {callee:=.builtin .append,args:=#[.tmp s,.tmp x],argTypes:=#[40,40]}) (base g0 a0 nz ny nr:Nat) (zs ys:List Int) (_hz:zs.length=nz) (hy:ys.length=ny) (hr:nz+ny=nr) (hs:a.eval (.tmp s)=V g0 nz a0) (b0:w.ownsRow base 3 1 (V g0 nz a0) nz (zs.map (Ao Ar))) (ad:OA) (c:Nat) (hx:a.eval (.tmp x)=V ad ny c) (hI:jH w ad ny ys) (hn:nr<=2000000) (d0:base<=w)
  (h:∀ g cap w',w'.ownsRow base 3 1 (V (Addr.mk g 0 I) nr cap) nr ((zs++ys).map (Ao Ar))->w.grownBy w' (M g0)->K (a.put o.dst (V (Addr.mk g 0 I) nr cap)) w') :
  if Region.wanted o (yielded j0 a.tmps)=Aw then Oper.wp prog o a w K Q else E:=by
 obtain⟨i0,hi,k0,m0,n0⟩:∃ i0,Tryz.prog.info? 3=M i0/\i0.zero=M (Ao Ar 0)/\i0.size=1/\i0.bytes=8:=⟨_,rfl,rfl,rfl,rfl⟩;subst hr;match ad,hx,hI with
 | none,hx,hI=>
  have e0:ny=0:=by
   by_cases h0:ny=0
   .exact h0
   .obtain⟨b,off,e,_⟩:=hI.2 0 (by omega);cases e
  subst e0;have ez:=E0.1 hy;subst ez;have hw:Region.wanted o (yielded j0 a.tmps)=Aw:=by simp[Region.wanted,c0]
  rw[A6 hw];have hk:=h g0 a0 w (by simpa using b0) ⟨rfl,rfl,rfl,Ay _,fun _ _ _=>rfl⟩;obtain⟨p0,op,ty,s0,o0,gd⟩:=o;simp only at ho c0;subst ho c0;have q0:a.tmps[s]?.getD O=V g0 nz a0:=by simpa [Act.eval] using hs
  have r0:a.tmps[x]?.getD O=V I 0 c:=by simpa [Act.eval] using hx
  simp only[Cp] at hk;have f0:nz<=a0:=by
   rcases jW b0 with ⟨e,_⟩|⟨_,_,_,_,_,f0⟩
   .cases e
   .exact f0
  unfold Oper.wp;go_simp
  exact hk
 | some ⟨b,off,sp⟩,hx,hI=>
  refine xI w c0 (.tmp s) (.tmp x) 40 ho base 3 i0 () 1 8 Ec hi k0 m0 n0 rfl (by decide) g0 nz a0 _ hs b0 ⟨b,off,sp⟩ ny c (ys.map (Ao Ar)) hx (by simp[hy]) (fun j u hu=>?_) (by simp[Aq]) (by unfold Au;omega) (by omega) d0 fun g cap w' h1 h2=>?_
  .have hj:0<ys.length:=by
    have:=(Bz.1 hu).1
    simp at this;omega
   rw[<-hy] at hI;have e:=ZU hI hj;simp at e;subst e;exact ZT hI j u hu
  .exact h g cap w' (by simpa using h1) h2
theorem qL {w w':Ad} {g B:Nat} (h:w.grownBy w' (M g)) (hB:B<=g) (_hs:B<=w):Ab B w w':=⟨h.os,h.tape,h.output,h.size,fun j hj=>h.block j (by omega) (fun e=>by injection e with e;omega)⟩
theorem jHu (s:Sl) (a6 k0 j0:OA) (c6 x0 o0:Nat) (w:Ad) (h6:jK w a6 s.p.m s.p.S) (b0:jH w k0 s.ze.length s.ze) (d0:jH w j0 s.zr.length s.zr) (hs:SlS s):Ak prog 113 #[slV s (V a6 s.p.m c6) (V k0 s.ze.length x0) (V j0 s.zr.length o0)] w fun e w'=>∃ (g6 a0 c0 h6 b0 d0:Nat) (F6 g2 i2:Nat->Prop),e=Ae (slV s (V g6 s.p.m h6) (V (Q a0 0 I) s.ze.length b0) (V (Q c0 0 I) s.zr.length d0))/\SlO w' w s (V g6 s.p.m h6) (V (Q a0 0 I) s.ze.length b0) (V (Q c0 0 I) s.zr.length d0) F6 g2 i2/\Ab w w w':=by
 obtain⟨A,HA⟩:=nmH w.1.size;obtain⟨D,HD⟩:=nmH (w.1.size+1);obtain⟨w0,u0⟩:=nmH ((w.alloc (J (slC s (V a6 s.p.m c6) (V k0 s.ze.length x0) (V j0 s.zr.length o0)) 42)).alloc (J #[Zs,Zs,(),(),(),Zs,V I 0 0,Av,Av,Av,Av,V I 0 0,V I 0 0] 42));have RA:=zP u0 HA;have RD:=JO u0 HD;have j1:=bl2 u0;have o1:H (Ab w w w0):=j1;have HL:H (A≠D/\w.1.size<=A/\w.1.size<=D/\A<w0/\D<w0):=⟨by have:=HA.out;have:=HD.out;omega,by have:=HA.out;omega,by have:=HD.out;omega,RA.out.lt,RD.out.lt⟩;have KC:H _:=XJ s.p.r s.p.k s.p.n s.p.i s.p.b a6 s.p.m c6 s.p.S w0 (h6.below j1) hs.1;have o2:H (jH w k0 s.ze.length s.ze):=b0;have p2:H (jH w j0 s.zr.length s.zr):=d0;have KS:H (SlS s):=hs;clear h6 b0 d0 hs j1;go_enter func113,ntmps113
 go_wp2_with fail
 rw[<-u0.out,<-HD.out,<-HA.out];refine Ax KC.out ?_;rintro e w1 ⟨g6,h6,rfl,O1,b1⟩;have f0:=RA.below b1 RA.lt;have s1:=RD.below b1 RD.lt;have y1:=f0.cell 1;have f1:=f0.free 1;have y2:=f0.cell 2;have f2:=f0.free 2;have y3:=f0.cell 3;have f3:=f0.free 3;have y4:=f0.cell 4;have f4:=f0.free 4;have y5:=f0.cell 5;have f5:=f0.free 5;have y6:=f0.cell 6;have f6:=f0.free 6;simp at y1 y2 y3 y4 y5 y6;obtain⟨w2,v0⟩:=nmH (((((((w1.setCell (Q A 1 I) s.p.r).setCell (Q A 2 I) s.p.k).setCell (Q A 3 I) s.p.n).setCell (Q A 4 I) s.p.i).setCell (Q A 5 I) s.p.b).setCell (Q A 6 I) (V g6 s.p.m h6)));obtain⟨G1,m1⟩:=nmH w1.1.size;have x1:w2.1.size=w1.1.size:=by rw[v0.out];simp
 have p0:H (G1=w2.1.size):=by show _=_;rw[x1];exact m1
 have l6:=A0 O1 g6 rfl;have K2:H (Row w2 A 42 (slC s (V g6 s.p.m h6) (V k0 s.ze.length x0) (V j0 s.zr.length o0))/\Row w2 D 42 #[Zs,Zs,(),(),(),Zs,V I 0 0,Av,Av,Av,Av,V I 0 0,V I 0 0]/\jI w2 w0 g6 s.p.m h6 s.p.S/\Ab w w w2):=by
  rw[v0.out];exact⟨(((((f0.set 1 _).set 2 _).set 3 _).set 4 _).set 5 _).set 6 _,(((((s1.other 1 _ (Ci HL.1)).other 2 _ (Ci HL.1)).other 3 _ (Ci HL.1)).other 4 _ (Ci HL.1)).other 5 _ (Ci HL.1)).other 6 _ (Ci HL.1),(((((O1.setFar HL.2.2.2.1).setFar HL.2.2.2.1).setFar HL.2.2.2.1).setFar HL.2.2.2.1).setFar HL.2.2.2.1).setFar HL.2.2.2.1,((((((jA o1 b1).setCell HL.2.1 _).setCell HL.2.1 _).setCell HL.2.1 _).setCell HL.2.1 _).setCell HL.2.1 _).setCell HL.2.1 _⟩
 have n1:H (g6<G1/\w0.1.size<=g6/\w0.1.size<=G1):=by have:=p0.out;have:=l6.1;have:=l6.2;exact⟨by omega,by omega,by omega⟩
 have u1:=K2.1.lt;clear O1 b1 f0 s1 l6;go_upto_region 2 with fail
 rw[<-v0.out];clear y1 f1 y2 f2 y3 f3 y4 f4 y5 f5 y6 f6 x1;go_cut [] from 7 to 11 (fun wx=>H (∃ a0 b0,Row wx A 42 (slC s (V g6 s.p.m h6) (V (Q a0 0 I) s.ze.length b0) (V j0 s.zr.length o0))/\Row wx D 42 #[Zs,Zs,(),(),(),Zs,V I 0 0,Av,Av,Av,Av,V I 0 0,V I 0 0]/\jI wx w0 g6 s.p.m h6 s.p.S/\wx.ownsRow G1 3 1 (V (Q a0 0 I) s.ze.length b0) s.ze.length (s.ze.map (Ao Ar))/\Ab w w wx))
 case first=>
  have t0:H ((w2.alloc (J #[] 3)).ownsRow G1 3 1 (V G1 0 0) 0 []):=by
   show World.ownsRow _ _ _ _ _ _ _;rw[p0.out];have:=Cc (e:=3) (size:=1) (base:=w2.1.size) w2 #[] 0 (by simp) (by unfold Au;omega) (by simp)
   exact this
  have a1:H (jH (w2.alloc (J #[] 3)) k0 s.ze.length s.ze):=(o2.below K2.2.2.2).below ((Az _ _).alloc (Ay _) _);have a2:=K2.1.cell 11;simp at a2;have s0:H (G1<=(w2.alloc (J #[] 3)).1.size):=by rw[p0.out];show _<=_;simp
  have z0:=p0.out;rw[z0] at t0 s0;go_wp2_with (at_builtin;refine JC _ rfl _ _ rfl w2 w2.1.size rfl ?_ k0 s.ze x0 rfl ?_ KS.out.2.1 ?_ ?_;exact t0.out;exact a1.out;exact s0.out;intro a0 b0 w4 i0 g0;have m0:Ab w2 w2 w4:=((Az _ _).alloc (Ay _) _).grown g0 (by simp) (fun x hx=>by cases hx;exact Ay _);have R4:=K2.out.1.below m0 u1;have q2:=R4.cell 11;have u2:=R4.free 11;simp at q2;have e0:H _:=m0;have q0:H _:=i0;clear i0 g0 a2 m0 R4)
  go_meet
  have r0:=A0 q0 a0 rfl;refine⟨a0,b0,(K2.1.below e0 u1).set 11 _,(K2.2.1.below e0 K2.2.1.lt).other 11 _ (Ci HL.1),(K2.2.2.1.below e0).setFar HL.2.2.2.1,?_,(jA K2.2.2.2 e0).setCell HL.2.1 _⟩;rw[z0];exact jL q0 (jN _ _ _ _) (fun x e=>by cases e;show a0≠A;have:=r0.1;omega)
 obtain⟨a0,b0,g1,t1,q1,y0,Bc⟩:=hcut.out;clear hcut;have v1:=g1.lt;have h0:H (Row wc A 42 (slC s (V g6 s.p.m h6) (V (Q a0 0 I) s.ze.length b0) (V j0 s.zr.length o0))/\Row wc D 42 #[Zs,Zs,(),(),(),Zs,V I 0 0,Av,Av,Av,Av,V I 0 0,V I 0 0]/\jI wc w0 g6 s.p.m h6 s.p.S/\wc.ownsRow G1 3 1 (V (Q a0 0 I) s.ze.length b0) s.ze.length (s.ze.map (Ao Ar))/\Ab w w wc):=⟨g1,t1,q1,y0,Bc⟩;clear g1 t1 q1 y0 Bc v0 m1 K2 p0;go_upto_region 3 with fail
 obtain⟨wb,n2⟩:∃ x,x=wc:=⟨wc,rfl⟩;subst n2;go_cut [] from 12 to 16 (fun wx=>H (∃ c0 d0,Row wx A 42 (slC s (V g6 s.p.m h6) (V (Q a0 0 I) s.ze.length b0) (V (Q c0 0 I) s.zr.length d0))/\Row wx D 42 #[Zs,Zs,(),(),(),Zs,V I 0 0,Av,Av,Av,Av,V I 0 0,V I 0 0]/\jI wx w0 g6 s.p.m h6 s.p.S/\wx.ownsRow G1 3 1 (V (Q a0 0 I) s.ze.length b0) s.ze.length (s.ze.map (Ao Ar))/\wx.ownsRow wb 3 1 (V (Q c0 0 I) s.zr.length d0) s.zr.length (s.zr.map (Ao Ar))/\Ab w w wx))
 case first=>
  have t0:H ((wb.alloc (J #[] 3)).ownsRow wb 3 1 (V (Q wb 0 I) 0 0) 0 []):=Cc (e:=3) (size:=1) (base:=wb.1.size) wb #[] 0 (by simp) (by unfold Au;omega) (by simp);have a1:H (jH (wb.alloc (J #[] 3)) j0 s.zr.length s.zr):=(p2.below h0.2.2.2.2).below ((Az _ _).alloc (Ay _) _);have b2:=h0.1.cell 12;simp at b2;have s0:H (wb.1.size<=(wb.alloc (J #[] 3)).1.size):=by show _<=_;simp
  go_wp2_with (at_builtin;refine JC _ rfl _ _ rfl wb wb.1.size rfl ?_ j0 s.zr o0 rfl ?_ KS.out.2.2 ?_ ?_;exact t0.out;exact a1.out;exact s0.out;intro c0 d0 w4 i0 g0;have m0:Ab wb wb w4:=((Az _ _).alloc (Ay _) _).grown g0 (by simp) (fun x hx=>by cases hx;exact Ay _);have R4:=h0.out.1.below m0 v1;have r2:=R4.cell 12;have v2:=R4.free 12;simp at r2;have e0:H _:=m0;have q0:H _:=i0;clear i0 g0 b2 m0 R4)
  go_meet
  have k1:=A0 q0 c0 rfl;have r0:=A0 h0.2.2.2.1 a0 rfl;have s2:=n1.2.2;have t2:=HL.2.2.2.1;exact⟨c0,d0,(h0.1.below e0 v1).set 12 _,(h0.2.1.below e0 h0.2.1.lt).other 12 _ (Ci HL.1),(h0.2.2.1.below e0).setFar HL.2.2.2.1,jL (jF h0.2.2.2.1 e0) (jN _ _ _ _) (fun x e=>by cases e;show a0≠A;have:=r0.1;omega),jL q0.out (jN _ _ _ _) (fun x e=>by cases e;show c0≠A;have:=k1.1;omega),(jA h0.out.2.2.2.2 e0.out).setCell HL.out.2.1 _⟩
 obtain⟨c0,d0,r1,i1,O6,p1,c1,Bd⟩:=hcut.out;clear hcut;have r0:=A0 h0.2.2.2.1 a0 rfl;have k1:=A0 c1 c0 rfl;have hq:=n1.out;have hl:=HL.out;have z1:w.1.size<=w0.1.size:=o1.size;have j2:H (Row wc A 42 (slC s (V g6 s.p.m h6) (V (Q a0 0 I) s.ze.length b0) (V (Q c0 0 I) s.zr.length d0))):=r1;have k2:H (Row wc D 42 #[Zs,Zs,(),(),(),Zs,V I 0 0,Av,Av,Av,Av,V I 0 0,V I 0 0]):=i1;obtain⟨w7,n0⟩:=nmH (wc.setRow D (slC s (V g6 s.p.m h6) (V (Q a0 0 I) s.ze.length b0) (V (Q c0 0 I) s.zr.length d0)));have ZR:H (Row w7 D 42 (slC s (V g6 s.p.m h6) (V (Q a0 0 I) s.ze.length b0) (V (Q c0 0 I) s.zr.length d0))):=by show Row _ _ _ _;rw[n0.out];exact i1.row
 have ZB:H (Ab w w w7):=by show Ab _ _ _;rw[n0.out];exact jG Bd hl.2.2.1 _
 have m2:H (SlO w7 w s (V g6 s.p.m h6) (V (Q a0 0 I) s.ze.length b0) (V (Q c0 0 I) s.zr.length d0) (fun x=>x=g6) (fun x=>x=a0) (fun x=>x=c0)):=by
  refine⟨?_,?_,?_,fun x e1 e2=>?_,fun x e1 e2=>?_,fun x e1 e2=>?_⟩
  .rw[n0.out];exact xP (jL (jI.base O6 z1) (qR _ _ _) (fun x e=>by cases e;show g6≠D;omega)) (fun x e=>by cases e;rfl)
  .rw[n0.out];exact vT (jX (jL p1 (qR _ _ _) (fun x e=>by cases e;show a0≠D;omega)) (by omega)) (fun x e=>by cases e;rfl)
  .rw[n0.out];exact vT (jX (jL c1 (qR _ _ _) (fun x e=>by cases e;show c0≠D;omega)) (by omega)) (fun x e=>by cases e;rfl)
  .omega
  .omega
  .omega
 clear r1 i1 O6 p1 c1 Bd r0 k1 hq hl z1 h0;go_wp2_with (first|(refine Bg rfl 42 _ rfl A rfl 42 (slC s (V g6 s.p.m h6) (V (M ⟨a0,0,I⟩) s.ze.length b0) (V (M ⟨c0,0,I⟩) s.zr.length d0)) (0,0) _ ?_ C5 rfl Tryz.infoSl ?_;exact j2)|(refine Ca rfl 42 _ _ rfl D (slC s (V g6 s.p.m h6) (V (M ⟨a0,0,I⟩) s.ze.length b0) (V (M ⟨c0,0,I⟩) s.zr.length d0)) rfl rfl 42 #[Zs,Zs,(),(),(),Zs,V I 0 0,Av,Av,Av,Av,V I 0 0,V I 0 0] ?_ Tryz.infoSl rfl (by simp[Aq]) ?_;exact k2;rw[<-n0.out]))
 exact B7 (v:=slV s (V g6 s.p.m h6) (V (Q a0 0 I) s.ze.length b0) (V (Q c0 0 I) s.zr.length d0)) (Cs results113 _ _ D 42 _ (0,0) _ rfl ZR C5 rfl Tryz.infoSl) rfl ⟨g6,a0,c0,h6,b0,d0,_,_,_,rfl,m2,ZB⟩
theorem jNr {zs:List Int} {x:Int} {k:Nat} (hs:zs.Pairwise (.<=.)) (hk:k<=zs.length) (h1:∀ j,j<k->zs.getD j 0<x) (h2:k<zs.length->x<=zs.getD k 0):jBk zs x=k:=by
 have e:=(List.take_append_drop k zs).symm;unfold jBk;rw[e,List.countP_append];have a1:(zs.take k).countP (.<x)=k:=by
  have hl:(zs.take k).length=k:=by rw[Cu];omega
  refine(List.countP_eq_length.2 fun y hy=>?_).trans hl;obtain⟨j,hj,rfl⟩:=D0.1 hy;have b0:j<k:=by omega
  have:=h1 j b0
  rw[Bw,Bj (by omega)] at this;simpa using this
 have a2:(zs.drop k).countP (.<x)=0:=by
  refine List.countP_eq_zero.2 fun y hy=>?_
  obtain⟨j,hj,rfl⟩:=D0.1 hy;rw[De] at hj;have a0:k<zs.length:=by omega
  have h3:=h2 a0;rw[Bw,Bj a0] at h3;have h4:zs[k]<=zs[k+j]:=by
   by_cases e0:j=0
   .subst e0;exact Int.le_refl _
   .exact(Ep.1 hs) k (k+j) a0 (by omega) (by omega)
  simp only[List.getElem_drop,Ed,Er] at h3 |-;omega
 rw[a1,a2];rfl
theorem jN1 {zs:List Int} {x:Int} {k:Nat} (hs:zs.Pairwise (.<=.)) (h1:∀ j,j<k->zs.getD j 0<x) (h2:k<zs.length->x<zs.getD k 0):x∉zs:=by
 intro hm;obtain⟨j,hj,e⟩:=D0.1 hm;by_cases hjk:j<k
 .have:=h1 j hjk
  rw[Bw,Bj hj] at this;simp at this;omega
 .have a0:k<zs.length:=by omega
  have h3:=h2 a0;rw[Bw,Bj a0] at h3;simp at h3;have h4:zs[k]<=zs[j]:=by
   by_cases e0:j=k
   .subst e0;exact Int.le_refl _
   .exact(Ep.1 hs) k j a0 hj (by omega)
  omega
theorem jRo {w:Ad} {B e s g n cap n':Nat} {xs:List Aj} (h:w.ownsRow B e s (V g n cap) n' xs):n<=cap:=by
 rcases jW h with ⟨e,_⟩|⟨_,_,_,_,_,a0⟩
 .cases e
 .exact a0
theorem xZ {w w':Ad} {g g0 t:Nat} {cs:Array Aj} (h:Row w g t cs) (hg:w.grownBy w' (M g0)) (a0:g≠g0):Row w' g t cs:=(hg.block g h.lt (fun e=>a0 (by injection e))).trans h
theorem xM {w:Ad} {g:Nat} {x:Int} (h:Row w g 3 #[x]):jH w g 1 [x]:=⟨rfl,fun i hi=>⟨g,0,rfl,by obtain rfl:i=0:=(by omega);simpa using h.cell 0⟩⟩
theorem ZV {w:Ad} {g N k:Nat} {zs:List Int} (h:jH w g N zs) (hk:k<=N):jH w g k (zs.take k):=by
 have hl:=h.1;refine⟨by rw[Cu];omega,fun i hi=>?_⟩;obtain⟨b,off,e,hc⟩:=h.2 i (by omega);refine⟨b,off,e,?_⟩;rw[hc,Bw,Bw,List.getElem?_take_of_lt hi]
theorem jC4 {w:Ad} {g N k:Nat} {zs:List Int} (h:jH w g N zs) (hk:k<=N):jH w (Q g k I) (N-k) (zs.drop k):=by
 have hl:=h.1;refine⟨by rw[De];omega,fun i hi=>?_⟩;obtain⟨b,off,e,hc⟩:=h.2 (k+i) (by omega);cases e;refine⟨g,k,rfl,?_⟩;rw[Bq] at hc;rw[hc,Bw,Bw,List.getElem?_drop]
theorem jL6 (w:Ad) (a:OA) (zs:List Int) {n:Nat} (hn:n=0) (hz:zs.length=0):jH w a n zs:=⟨by omega,fun i hi=>by omega⟩
theorem jL7 {w:Ad} {B g n cap:Nat} {zs:List Int} (h:w.ownsRow B 3 1 (V g n cap) n (zs.map (Ao Ar))) (hl:zs.length=n):jH w g n zs:=by
 refine⟨hl,fun i hi=>⟨g,0,rfl,?_⟩⟩;rw[Bq,Bt h i (by omega),Eb,Bw,Bj (by omega)];rfl
theorem jOf {zs:List Int} {x:Int} (hx:x≠-1) (hm:x∉zs) {k:Nat} (hk:jBk zs x=k):xK zs x=[]++zs.take k++[x]++zs.drop k:=by
 unfold xK;rw[A5 (fun h=>by rcases h with h|h;exact hx h;exact hm h),hk];simp
def jQn (w w':Ad) (a:OA) (c0:Nat) (z0:List Int) (a':OA) (c' n:Nat) (zs:List Int):Prop:=jH w' a' n zs/\(a'=a\/∀ b,a'=M b->w.1.size<=b.block)/\((a'=a/\c'=c0/\zs=z0)\/w'.ownsRow w 3 1 (V a' n c') n (zs.map (Ao Ar)))
theorem jB0 {w w':Ad} {g n cap:Nat} {a:OA} {zs:List Int} (h:w'.ownsRow w 3 1 (V g n cap) n (zs.map (Ao Ar))) (hl:zs.length=n) {c0:Nat} {z0:List Int}:jQn w w' a c0 z0 g cap n zs:=by
 refine⟨jL7 h hl,.inr fun b e=>?_,.inr h⟩;rcases jW h with ⟨e1,_⟩|⟨g1,_,e1,hb,_⟩
 .cases e1
 .cases e1;cases e;exact hb
theorem jKx (g c:Nat) (zs:List Int) (x:Int) (N:Nat) (w:Ad) (h:jH w g N zs) (hN:zs.length=N) (hc:N<=c) (r0:c<=Au) (hn:N<=1048576) (hs:zs.Pairwise (.<=.)) (hx:x≠-1):Ak prog 54 #[V g N c,x] w fun e w'=>∃ a' c',e=Ae (V a' (xK zs x).length c')/\jQn w w' g c zs a' c' (xK zs x).length (xK zs x)/\Ab w w w':=by
 have KH:=hd h;have KS:=hd hs;have HN:=hd hN;have HX:=hd hx;have HM:=hd r0;have j0:∀ j,j<N->w.cell? (Q g j I)=M (Ao Ar (zs.getD j 0)):=fun j hj=>by
  obtain⟨b,off,e,hc⟩:=h.2 j hj;cases e;simpa using hc
 have w0:H (∀ j,j<N->w.cell? (Q g j I)=M (Ao Ar (zs.getD j 0))):=j0;clear h hs hN hx r0 j0;have bd:=jD w;have KA:H (((w.drew.alloc (J #[x] 3)).alloc (J #[] 3)).ownsRow w 3 1 (V (Q (w.1.size+1) 0 I) 0 0) 0 (([]:List Int).map (Ao Ar))/\Ab w w ((w.drew.alloc (J #[x] 3)).alloc (J #[] 3))/\Row ((w.drew.alloc (J #[x] 3)).alloc (J #[] 3)) w 3 #[x]):=by
  refine⟨?_,(bd.alloc (Ay _) _).alloc (by simp) _,(Row.new w.drew _ _).alloc _⟩;have:=Cc (e:=3) (size:=1) (base:=w.1.size) (w.drew.alloc (J #[x] 3)) #[] 0 (by simp) (by unfold Au;omega) (by simp)
  simpa using this
 have bw:Ab w w (w.alloc (J #[] 3)).drew:=⟨((Az w w).alloc (Ay _) (J #[] 3)).os,((Az w w).alloc (Ay _) (J #[] 3)).tape,((Az w w).alloc (Ay _) (J #[] 3)).output,((Az w w).alloc (Ay _) (J #[] 3)).size,((Az w w).alloc (Ay _) (J #[] 3)).block⟩;have KB:H ((((w.alloc (J #[] 3)).drew).alloc (J #[x] 3)).ownsRow w 3 1 (V (Q w 0 I) 0 0) 0 (([]:List Int).map (Ao Ar))/\Ab w w (((w.alloc (J #[] 3)).drew).alloc (J #[x] 3))/\Row (((w.alloc (J #[] 3)).drew).alloc (J #[x] 3)) (w.1.size+1) 3 #[x]):=by
  refine⟨?_,bw.alloc bw.size _,?_⟩
  .have:=World.ownsRow.drew (Cc (e:=3) (size:=1) (base:=w.1.size) w #[] 0 (by simp) (by unfold Au;omega) (by simp))
   have:=Cb this (J #[x] 3)
   simpa using this
  .have:=Row.new ((w.alloc (J #[] 3)).drew) #[x] 3
   simpa using this
 have KC:H (((w.alloc (J #[] 3)).drew).ownsRow w 3 1 (V (Q w 0 I) 0 0) 0 (([]:List Int).map (Ao Ar))/\Ab w w ((w.alloc (J #[] 3)).drew)):=by
  refine⟨?_,bw⟩;have:=World.ownsRow.drew (Cc (e:=3) (size:=1) (base:=w.1.size) w #[] 0 (by simp) (by unfold Au;omega) (by simp))
  simpa using this
 clear bd bw;go_enter func54,ntmps54
 go_wp2
 go_loopw [5] (fun vi wr=>∃ k:Nat,k<=N/\vi=Ao Ar (k:Int)/\H ((∀ j,j<k->zs.getD j 0<x)/\wr=w)) (fun vi _=>N-(intOf vi).toNat)
 case atStart=>exact⟨0,Bi _,rfl,fun j hj=>Bo hj (Bk _),rfl⟩
 case round=>
  obtain⟨k,hk,rfl,n0⟩:=hrel;have HJ:H (∀ j,j<k->zs.getD j 0<x):=n0.1;obtain rfl:=n0.2.symm;clear n0;by_cases hlt:k<N
  .have z0:(k:Int)<(N:Int):=by omega
   have x0:=w0 k hlt;obtain⟨z,HZ⟩:=nnH (zs.getD k 0);rw[HZ.out] at x0;by_cases hzx:z<x
   .have HJ2:H (∀ j,j<k+1->zs.getD j 0<x):=fun j hj=>by
     by_cases e:j=k
     .subst e;rw[HZ.out];exact hzx
     .exact HJ j (by omega)
    go_wp2
    go_roundw
    case rel=>exact⟨k+1,by omega,by go_num,HJ2.out,trivial⟩
    case measure=>simp[intOf];omega
   .by_cases hze:z=x
    .have HP:H (xK zs x=zs):=A6 (.inr (by
      rw[<-hze,<-HZ.out,Bw,Bj (by rw[HN.out];exact hlt)];exact List.getElem_mem _))
     have v0:(z==x)=Aw:=by simpa using hze
     go_wp2
     go_ret
     refine⟨M (Q g 0 I),c,?_,by rw[HP.out,HN.out];exact⟨KH,.inl rfl,.inl ⟨rfl,rfl,rfl⟩⟩,Az _ _⟩;rw[HP.out,HN.out];rfl
    .have p0:H (x<z):=by show x<z;omega
     have v0:(z==x)=Av:=by simpa using hze
     have HC:=hd (jNr KS (by rw[HN.out];exact hk) HJ (fun _=>by rw[HZ.out];have:=p0.out;omega));have HP:=hd (jOf HX (jN1 KS HJ (fun _=>by rw[HZ.out];exact p0)) HC);have HT:H (∀ W,Ab w w W->jH W g k (zs.take k)):=fun W hW=>ZV (KH.below hW) hk
     have HD:H (∀ W,Ab w w W->jH W (Q g k I) (N-k) (zs.drop k)):=fun W hW=>jC4 (KH.below hW) hk
     have f0:(zs.take k).length=k:=by rw[Cu,HN.out];omega
     have i0:(zs.drop k).length=N-k:=by rw[De,HN.out]
     have d0:H (([]++zs.take k).length=k/\([]++zs.take k++[x]).length=k+1/\(zs.drop k).length=N-k/\k+1+(N-k)=N+1/\(zs.take k).length=k):=⟨by simpa using f0,by simp[f0],i0,by omega,f0⟩;have k0:=HM.out;have s0:(0:Int)<=(k:Int):=by omega
     have t0:(k:Int)<=(N:Int):=by omega
     have q0:(N:Int)<=(c:Int):=by omega
     have u0:(k:Int)<=(c:Int):=by omega
     unfold Au at k0;clear f0 i0;have y0:¬ c=k:=by omega
     have m0:¬ c-k=0:=by omega
     go_upto_region 6 with fail
     go_region_held3 (fun _=>True) (trivial) ((first|(guard_hyp b0;refine qB _ rfl _ _ rfl w _ _ (k+1) (N-k) (N+1) ([]++zs.take k++[x]) (zs.drop k) d0.2.1 d0.2.2.1 d0.2.2.2.1 rfl ?_ _ _ rfl ?_ (by omega) ?_ ?_;exact b0.out.1;exact HD.out _ b0.2;exact b0.2.size;intro g3 c3 w3 e0 c0;have g0:H (w3.ownsRow w 3 1 (V g3 (N+1) c3) (N+1) (([]++zs.take k++[x]++zs.drop k).map (Ao Ar))/\Ab w w w3):=⟨e0,b0.2.trans (qL c0 (A0 b0.1 _ rfl).1 b0.2.size)⟩;clear e0 c0)|(guard_hyp a0;refine qB _ rfl _ _ rfl w _ _ k 1 (k+1) ([]++zs.take k) [x] d0.1 rfl rfl rfl ?_ _ _ rfl ?_ (by omega) ?_ ?_;(first|exact a0.out.1|exact Cb a0.1 _);(first|exact xM h0.out|exact xM (Row.new _ _ _));(first|exact a0.2.size|exact(a0.2.alloc a0.2.size _).size);intro g2 c2 w2 hown2 hgrow2;have b0:H (w2.ownsRow w 3 1 (V g2 (k+1) c2) (k+1) (([]++zs.take k++[x]).map (Ao Ar))/\Ab w w w2):=⟨hown2,(by first|exact a0.2.trans (qL hgrow2 (A0 a0.1 _ rfl).1 a0.2.size)|exact(a0.2.alloc a0.2.size _).trans (qL hgrow2 (A0 a0.1 _ rfl).1 (a0.2.alloc a0.2.size _).size))⟩;clear hown2 hgrow2)|(refine qB _ rfl _ _ rfl w _ _ 0 k k [] (zs.take k) rfl d0.2.2.2.2 (Bq _) rfl ?_ _ _ rfl ?_ (by omega) ?_ ?_;(first|exact KB.out.1|exact KC.1|exact KA.1);(first|exact HT _ KA.2.1|exact HT _ KB.2.1|exact HT _ KC.2);(first|exact KA.2.1.size|exact KB.2.1.size|exact KC.2.size);intro g1 c1 w1 hown1 hgrow1;have a0:H (w1.ownsRow w 3 1 (V g1 k c1) k (([]++zs.take k).map (Ao Ar))/\Ab w w w1):=⟨hown1,(by first|exact KA.2.1.trans (qL hgrow1 (by omega) KA.out.2.1.size)|exact KB.out.2.1.trans (qL hgrow1 (by omega) KB.out.2.1.size)|exact KC.out.2.trans (qL hgrow1 (by omega) KC.out.2.size))⟩;(first|(have h0:H (Row w1 w 3 #[Ao Ar x]):=xZ KA.2.2 hgrow1 (by omega))|(have h0:H (Row w1 (w.1.size+1) 3 #[Ao Ar x]):=xZ KB.2.2 hgrow1 (by omega))|skip);clear hown1 hgrow1)))
     all_goals
      go_wp2_with fail
      go_ret
      have e:([]++zs.take k++[x]++zs.drop k).length=N+1:=by simp[HN.out];omega
      refine⟨M (Q g3 0 I),c3,?_,?_,g0.2⟩
      .rw[HP.out,e];rfl
      .rw[HP.out,e];exact jB0 g0.1 e
  .have a1:¬ ((k:Int)<(N:Int)):=by omega
   have o0:H (k=N):=by show k=N;omega
   have HC:=hd (jNr KS (by rw[HN.out];exact hk) HJ (fun h=>by rw[HN.out] at h;omega));have HP:=hd (jOf HX (jN1 KS HJ (fun h=>by rw[HN.out] at h;omega)) HC.out);by_cases y0:c=k
   .have m0:c-k=0:=by omega
    have HT:H (∀ W,Ab w w W->jH W g k (zs.take k)):=fun W hW=>ZV (KH.below hW) hk
    have HD:H (∀ W,Ab w w W->jH W g (N-k) (zs.drop k)):=fun W hW=>jL6 _ _ _ (by have:=o0.out;omega) (by rw[De,HN.out];have:=o0.out;omega)
    have f0:(zs.take k).length=k:=by rw[Cu,HN.out];omega
    have i0:(zs.drop k).length=N-k:=by rw[De,HN.out]
    have d0:H (([]++zs.take k).length=k/\([]++zs.take k++[x]).length=k+1/\(zs.drop k).length=N-k/\k+1+(N-k)=N+1/\(zs.take k).length=k):=⟨by simpa using f0,by simp[f0],i0,by omega,f0⟩;have k0:=HM.out;have s0:(0:Int)<=(k:Int):=by omega
    have t0:(k:Int)<=(N:Int):=by omega
    have q0:(N:Int)<=(c:Int):=by omega
    have u0:(k:Int)<=(c:Int):=by omega
    unfold Au at k0;clear f0 i0;go_upto_region 6 with fail
    go_region_held3 (fun _=>True) (trivial) ((first|(guard_hyp b0;refine qB _ rfl _ _ rfl w _ _ (k+1) (N-k) (N+1) ([]++zs.take k++[x]) (zs.drop k) d0.2.1 d0.2.2.1 d0.2.2.2.1 rfl ?_ _ _ rfl ?_ (by omega) ?_ ?_;exact b0.out.1;exact HD.out _ b0.2;exact b0.2.size;intro g3 c3 w3 e0 c0;have g0:H (w3.ownsRow w 3 1 (V g3 (N+1) c3) (N+1) (([]++zs.take k++[x]++zs.drop k).map (Ao Ar))/\Ab w w w3):=⟨e0,b0.2.trans (qL c0 (A0 b0.1 _ rfl).1 b0.2.size)⟩;clear e0 c0)|(guard_hyp a0;refine qB _ rfl _ _ rfl w _ _ k 1 (k+1) ([]++zs.take k) [x] d0.1 rfl rfl rfl ?_ _ _ rfl ?_ (by omega) ?_ ?_;(first|exact a0.out.1|exact Cb a0.1 _);(first|exact xM h0.out|exact xM (Row.new _ _ _));(first|exact a0.2.size|exact(a0.2.alloc a0.2.size _).size);intro g2 c2 w2 hown2 hgrow2;have b0:H (w2.ownsRow w 3 1 (V g2 (k+1) c2) (k+1) (([]++zs.take k++[x]).map (Ao Ar))/\Ab w w w2):=⟨hown2,(by first|exact a0.2.trans (qL hgrow2 (A0 a0.1 _ rfl).1 a0.2.size)|exact(a0.2.alloc a0.2.size _).trans (qL hgrow2 (A0 a0.1 _ rfl).1 (a0.2.alloc a0.2.size _).size))⟩;clear hown2 hgrow2)|(refine qB _ rfl _ _ rfl w _ _ 0 k k [] (zs.take k) rfl d0.2.2.2.2 (Bq _) rfl ?_ _ _ rfl ?_ (by omega) ?_ ?_;(first|exact KB.out.1|exact KC.1|exact KA.1);(first|exact HT _ KA.2.1|exact HT _ KB.2.1|exact HT _ KC.2);(first|exact KA.2.1.size|exact KB.2.1.size|exact KC.2.size);intro g1 c1 w1 hown1 hgrow1;have a0:H (w1.ownsRow w 3 1 (V g1 k c1) k (([]++zs.take k).map (Ao Ar))/\Ab w w w1):=⟨hown1,(by first|exact KA.2.1.trans (qL hgrow1 (by omega) KA.out.2.1.size)|exact KB.out.2.1.trans (qL hgrow1 (by omega) KB.out.2.1.size)|exact KC.out.2.trans (qL hgrow1 (by omega) KC.out.2.size))⟩;(first|(have h0:H (Row w1 w 3 #[Ao Ar x]):=xZ KA.2.2 hgrow1 (by omega))|(have h0:H (Row w1 (w.1.size+1) 3 #[Ao Ar x]):=xZ KB.2.2 hgrow1 (by omega))|skip);clear hown1 hgrow1)))
    all_goals
     go_wp2_with fail
     go_ret
     have e:([]++zs.take k++[x]++zs.drop k).length=N+1:=by simp[HN.out];omega
     refine⟨M (Q g3 0 I),c3,?_,?_,g0.2⟩
     .rw[HP.out,e];rfl
     .rw[HP.out,e];exact jB0 g0.1 e
   .have m0:¬ c-k=0:=by omega
    have HT:H (∀ W,Ab w w W->jH W g k (zs.take k)):=fun W hW=>ZV (KH.below hW) hk
    have HD:H (∀ W,Ab w w W->jH W (Q g k I) (N-k) (zs.drop k)):=fun W hW=>jC4 (KH.below hW) hk
    have f0:(zs.take k).length=k:=by rw[Cu,HN.out];omega
    have i0:(zs.drop k).length=N-k:=by rw[De,HN.out]
    have d0:H (([]++zs.take k).length=k/\([]++zs.take k++[x]).length=k+1/\(zs.drop k).length=N-k/\k+1+(N-k)=N+1/\(zs.take k).length=k):=⟨by simpa using f0,by simp[f0],i0,by omega,f0⟩;have k0:=HM.out;have s0:(0:Int)<=(k:Int):=by omega
    have t0:(k:Int)<=(N:Int):=by omega
    have q0:(N:Int)<=(c:Int):=by omega
    have u0:(k:Int)<=(c:Int):=by omega
    unfold Au at k0;clear f0 i0;go_upto_region 6 with fail
    go_region_held3 (fun _=>True) (trivial) ((first|(guard_hyp b0;refine qB _ rfl _ _ rfl w _ _ (k+1) (N-k) (N+1) ([]++zs.take k++[x]) (zs.drop k) d0.2.1 d0.2.2.1 d0.2.2.2.1 rfl ?_ _ _ rfl ?_ (by omega) ?_ ?_;exact b0.out.1;exact HD.out _ b0.2;exact b0.2.size;intro g3 c3 w3 e0 c0;have g0:H (w3.ownsRow w 3 1 (V g3 (N+1) c3) (N+1) (([]++zs.take k++[x]++zs.drop k).map (Ao Ar))/\Ab w w w3):=⟨e0,b0.2.trans (qL c0 (A0 b0.1 _ rfl).1 b0.2.size)⟩;clear e0 c0)|(guard_hyp a0;refine qB _ rfl _ _ rfl w _ _ k 1 (k+1) ([]++zs.take k) [x] d0.1 rfl rfl rfl ?_ _ _ rfl ?_ (by omega) ?_ ?_;(first|exact a0.out.1|exact Cb a0.1 _);(first|exact xM h0.out|exact xM (Row.new _ _ _));(first|exact a0.2.size|exact(a0.2.alloc a0.2.size _).size);intro g2 c2 w2 hown2 hgrow2;have b0:H (w2.ownsRow w 3 1 (V g2 (k+1) c2) (k+1) (([]++zs.take k++[x]).map (Ao Ar))/\Ab w w w2):=⟨hown2,(by first|exact a0.2.trans (qL hgrow2 (A0 a0.1 _ rfl).1 a0.2.size)|exact(a0.2.alloc a0.2.size _).trans (qL hgrow2 (A0 a0.1 _ rfl).1 (a0.2.alloc a0.2.size _).size))⟩;clear hown2 hgrow2)|(refine qB _ rfl _ _ rfl w _ _ 0 k k [] (zs.take k) rfl d0.2.2.2.2 (Bq _) rfl ?_ _ _ rfl ?_ (by omega) ?_ ?_;(first|exact KB.out.1|exact KC.1|exact KA.1);(first|exact HT _ KA.2.1|exact HT _ KB.2.1|exact HT _ KC.2);(first|exact KA.2.1.size|exact KB.2.1.size|exact KC.2.size);intro g1 c1 w1 hown1 hgrow1;have a0:H (w1.ownsRow w 3 1 (V g1 k c1) k (([]++zs.take k).map (Ao Ar))/\Ab w w w1):=⟨hown1,(by first|exact KA.2.1.trans (qL hgrow1 (by omega) KA.out.2.1.size)|exact KB.out.2.1.trans (qL hgrow1 (by omega) KB.out.2.1.size)|exact KC.out.2.trans (qL hgrow1 (by omega) KC.out.2.size))⟩;(first|(have h0:H (Row w1 w 3 #[Ao Ar x]):=xZ KA.2.2 hgrow1 (by omega))|(have h0:H (Row w1 (w.1.size+1) 3 #[Ao Ar x]):=xZ KB.2.2 hgrow1 (by omega))|skip);clear hown1 hgrow1)))
    all_goals
     go_wp2_with fail
     go_ret
     have e:([]++zs.take k++[x]++zs.drop k).length=N+1:=by simp[HN.out];omega
     refine⟨M (Q g3 0 I),c3,?_,?_,g0.2⟩
     .rw[HP.out,e];rfl
     .rw[HP.out,e];exact jB0 g0.1 e
theorem jKw (x:Int) (w:Ad):Ak prog 54 #[V I 0 0,x] w fun e w'=>∃ a' c',e=Ae (V a' 1 c')/\jQn w w' I 0 [] a' c' 1 [x]/\Ab w w w':=by
 have bw:Ab w w (w.alloc (J #[] 3)).drew:=⟨((Az w w).alloc (Ay _) (J #[] 3)).os,((Az w w).alloc (Ay _) (J #[] 3)).tape,((Az w w).alloc (Ay _) (J #[] 3)).output,((Az w w).alloc (Ay _) (J #[] 3)).size,((Az w w).alloc (Ay _) (J #[] 3)).block⟩;have KB:H ((((w.alloc (J #[] 3)).drew).alloc (J #[x] 3)).ownsRow w 3 1 (V (Q w 0 I) 0 0) 0 (([]:List Int).map (Ao Ar))/\Ab w w (((w.alloc (J #[] 3)).drew).alloc (J #[x] 3))/\Row (((w.alloc (J #[] 3)).drew).alloc (J #[x] 3)) (w.1.size+1) 3 #[x]):=by
  refine⟨?_,bw.alloc bw.size _,?_⟩
  .have:=World.ownsRow.drew (Cc (e:=3) (size:=1) (base:=w.1.size) w #[] 0 (by simp) (by unfold Au;omega) (by simp))
   have:=Cb this (J #[x] 3)
   simpa using this
  .have:=Row.new ((w.alloc (J #[] 3)).drew) #[x] 3
   simpa using this
 have KA:H (((w.drew.alloc (J #[x] 3)).alloc (J #[] 3)).ownsRow w 3 1 (V (Q (w.1.size+1) 0 I) 0 0) 0 (([]:List Int).map (Ao Ar))/\Ab w w ((w.drew.alloc (J #[x] 3)).alloc (J #[] 3))/\Row ((w.drew.alloc (J #[x] 3)).alloc (J #[] 3)) w 3 #[x]):=by
  refine⟨?_,((jD w).alloc (Ay _) _).alloc (by simp) _,(Row.new w.drew _ _).alloc _⟩;have:=Cc (e:=3) (size:=1) (base:=w.1.size) (w.drew.alloc (J #[x] 3)) #[] 0 (by simp) (by unfold Au;omega) (by simp)
  simpa using this
 go_enter func54,ntmps54
 go_wp2
 go_loopw [5] (fun vi wr=>vi=Ao Ar 0/\wr=w) (fun _ _=>0)
 case atStart=>exact⟨rfl,rfl⟩
 case round=>
  obtain⟨rfl,hw⟩:=hrel;obtain rfl:=hw.symm;go_upto_region 6 with fail
  go_region_held3 (fun _=>True) (trivial) ((refine qB _ rfl _ _ rfl w _ _ 0 1 1 [] [x] rfl rfl rfl rfl ?_ _ _ rfl ?_ (by omega) ?_ ?_;(first|exact KB.out.1|exact KA.1);(first|exact xM KB.2.2|exact xM KA.2.2);(first|exact KB.2.1.size|exact KA.2.1.size);intro g2 c2 w2 b0 a0;have c0:H (w2.ownsRow w 3 1 (V g2 1 c2) 1 (([x]:List Int).map (Ao Ar))/\Ab w w w2):=⟨b0,(by first|exact KB.2.1.trans (qL a0 (by omega) KB.out.2.1.size)|exact KA.out.2.1.trans (qL a0 (by omega) KA.out.2.1.size))⟩;have d0:1<=c2:=jRo b0;clear b0 a0))
  all_goals
   go_wp2_with fail
   go_ret
   exact⟨M (Q g2 0 I),c2,rfl,jB0 c0.1 rfl,c0.2⟩
theorem jGh (B:Nat) (a:OA) (c:Nat) (zs:List Int) (x:Int) (F:Nat->Prop) (w:Ad) (h:Ow w B (inD zs) (V a zs.length c) F) (hn:zs.length<=1048576) (hs:zs.Pairwise (.<=.)) (hx:x≠-1):Ak prog 54 #[V a zs.length c,x] w fun e w'=>∃ a' c',e=Ae (V a' (xK zs x).length c')/\jQn w w' a c zs a' c' (xK zs x).length (xK zs x)/\Ab w w w':=by
 obtain⟨a1,c1,e1,ho,_⟩:=JU h;simp only[Ej,true_and] at e1;obtain⟨rfl,rfl⟩:=e1;rcases ho.2 with ⟨e,h0⟩|⟨g,cap,c0,e,_,_,b0,a0,_,_⟩
 .have hz:=E0.1 h0;subst hz;simp only[Ej] at e;obtain⟨rfl,_,rfl⟩:=e;have ep:xK [] x=[x]:=by unfold xK;rw[A5 (by simp[hx])];rfl
  rw[ep];exact jKw x w
 .simp only[Ej] at e;obtain⟨rfl,_,rfl⟩:=e;exact jKx g c zs x zs.length w (qK.1 h.rd) rfl b0 a0 hn hs hx
def plN (S:Nat->Sl) (root:BA) (n:Nat):Nat:=match plc S root n with
 | some x=>x
 | none=>n
theorem jA7 (id f:Int) (a:OA) (n cap:Nat) (S:Nat->Sl) (a0:BA) (w:Ad) (h:Rd w (qG n S) (V a n cap)) (hn:n<=1048576):CB 49 #[ndV id f (V a n cap),a0] w (Ao Ar (plN S a0 n:Nat)):=by
 obtain⟨A,HA⟩:=nmH w.1.size;obtain⟨w0,d0⟩:=nmH (w.alloc (J #[id,f,V a n cap] 26));have RA:=jZ d0 HA;have e0:=bl1 d0;have f0:=hd e0;have KH:=hd (h.below e0);have x2:=RA.cell 2;simp at x2;go_enter func49,ntmps49
 go_wp2_with fail
 rw[<-d0.out,<-HA.out];go_loopw [5] (fun vi wr=>∃ k:Nat,k<=n/\vi=Ao Ar (k:Int)/\H (plF S a0 (n-k) k=plc S a0 n)/\Ab w0 w0 wr) (fun vi _=>n-(intOf vi).toNat)
 case atStart=>exact⟨0,Bi _,rfl,rfl,Az _ _⟩
 case round=>
  obtain⟨k,hk,rfl,HP,b0⟩:=hrel;replace x2:=(b0.cell (p:=Q A 2 I) RA.lt).trans x2
  have KBr:H (Ab w w wr/\Ab w0 w0 wr):=⟨jA f0 b0,b0⟩;by_cases hlt:k<n
  .have g0:(k:Int)<(n:Int):=by omega
   obtain⟨b1,f1,p6,h0,i0,q6,j0,k0,rfl,R1,_,_,_⟩:=QC (KH.below b0) hlt;have v0:wr.cell? (Q b1 (f1+k*13) I)=M (Ag (S k).r):=by
    have:=R1 0 (Ag (S k).r) rfl
    simpa using this
   have e2:n-k=(n-(k+1))+1:=by omega
   have c0:=HP.out;rw[e2] at c0;unfold plF at c0;by_cases hr:(S k).r=a0
   .rw[A6 hr] at c0;have HI:H (plN S a0 n=k):=by show _=_;unfold plN;rw[<-c0]
    rw[hr] at v0;have hb:=vC a0;go_wp2
    go_ret
    exact⟨jS (by rw[HI.out]),KBr.1⟩
   .rw[A5 hr] at c0;have HP2:=hd c0;have hb:=jEe hr;go_wp2
    go_roundw
    case rel=>exact⟨k+1,by omega,by go_num,HP2,KBr.out.2⟩
    case measure=>simp[intOf];omega
  .obtain rfl:k=n:=by omega
   have HI:H (plN S a0 k=k):=by
    have:=HP.out
    rw[Nat.sub_self] at this;show _=_;unfold plN;rw[<-this];rfl
   go_wp2
   go_ret
   exact⟨jS (by rw[HI.out]),KBr.1⟩
end Go.Proofs.YtcaejlalnjnifaaGreat
