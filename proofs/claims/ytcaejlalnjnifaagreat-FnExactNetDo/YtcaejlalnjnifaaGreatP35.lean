import Derived.Test.YtcaejlalnjnifaaGreatP32
import Derived.Test.YtcaejlalnjnifaaGreatP33
import Derived.Test.YtcaejlalnjnifaaGreatP31
set_option maxHeartbeats 8000000
set_option maxRecDepth 2000
open Go.Value renaming slice->V,string->Ag,int->Ao,oneCell'->Aq
open Option renaming none->I,some->M
open Go.RowKit renaming Hid->H,Below->Ab
open Go.Addr renaming mk->Q
open Go.Obj renaming cells->J
open Go renaming World->Ad,Calls->Ak
open Go.Ending renaming returned->Ae
open Go.IntKind renaming i64->Ar
open Bool renaming false->Av
open Go.Proofs.Tryz
open Go.ChangeShapes Go.WideShapes Go.ChangeAt Go.RowKit
namespace Go.Proofs.YtcaejlalnjnifaaGreat
structure SyK (y:Sy):Prop where
 r:y.r.size<=1048576
 pr:y.p.r.size<=1048576
 pb:y.p.b.size<=1048576
 m:y.p.m<=1048576
 tx:∀ i,i<y.p.m->(y.p.S i).size<=1048576
theorem ZL (y:Sy) (a9:OA) (c9:Nat) (w:Ad) (h9:jK w a9 y.p.m y.p.S) (hs:SyK y):Ak prog 130 #[syV y (V a9 y.p.m c9)] w fun e w'=>∃ g,e=Ae (syV y (V (Q g 0 I) y.p.m y.p.m))/\jI w' w (Q g 0 I) y.p.m y.p.m y.p.S/\Ab w w w':=by
 obtain⟨A,HA⟩:=nmH w.1.size;obtain⟨D,HD⟩:=nmH (w.1.size+1);obtain⟨w0,a0⟩:=nmH ((w.alloc (J (syC y (V a9 y.p.m c9)) 31)).alloc (J #[(),(),(),Zs,Zs,(),(),(),Zs,V I 0 0] 31));have RA:=zP a0 HA;have RD:=JO a0 HD;have o0:=bl2 a0;have c0:=hd o0;have hAD:H (A≠D/\w.1.size<=A/\w.1.size<=D):=⟨by have:=HA.out;have:=HD.out;omega,by have:=HA.out;omega,by have:=HD.out;omega⟩;have k0:H (∀ W,CB 120 #[y.r] W y.r):=fun W=>qN y.r W hs.r
 have j0:H (∀ W,Ab w w W->Ak prog 121 #[pcV y.p.r y.p.k y.p.n y.p.i y.p.b (V a9 y.p.m c9)] W fun e w'=>∃ g,e=Ae (pcV y.p.r y.p.k y.p.n y.p.i y.p.b (V (Q g 0 I) y.p.m y.p.m))/\jI w' W.1.size (Q g 0 I) y.p.m y.p.m y.p.S/\Ab W.1.size W w'):=fun W hW=>JQ _ _ _ _ _ a9 _ c9 _ W (h9.below hW) hs.m hs.pr hs.pb hs.tx
 go_enter func130,ntmps130
 go_wp2_with fail
 rw[<-a0.out,<-HD.out,<-HA.out];go_cut [] from 3 to 10 (fun wx=>H (∃ g6,Row wx A 31 (syC y (V (Q g6 0 I) y.p.m y.p.m))/\Row wx D 31 #[(),(),(),Zs,Zs,(),(),(),Zs,V I 0 0]/\jI wx w0 (Q g6 0 I) y.p.m y.p.m y.p.S/\Ab w w wx))
 case first=>
  have lA:=RA.lt;have lD:=RD.lt;have q0:=RA.cell 0;have q1:=RA.cell 1;have q2:=RA.cell 2;have q3:=RA.cell 3;have q4:=RA.cell 4;have q5:=RA.cell 5;have q6:=RA.cell 6;have q7:=RA.cell 7;have q8:=RA.cell 8;have q9:=RA.cell 9;simp at q0 q1 q2 q3 q4 q5 q6 q7 q8 q9;have m0:H (∀ W,Ab w0 w0 W->Row W A 31 (syC y (V a9 y.p.m c9))/\Row W D 31 #[(),(),(),Zs,Zs,(),(),(),Zs,V I 0 0]/\Ab w w W/\w0.1.size<=W.1.size):=fun W hW=>⟨RA.below hW lA,RD.below hW lD,jA c0 hW,hW.size⟩
  have e0:H (∀ W,Row W A 31 (syC y (V a9 y.p.m c9))/\Row W D 31 #[(),(),(),Zs,Zs,(),(),(),Zs,V I 0 0]/\Ab w w W/\w0.1.size<=W.1.size->Row (W.setCell (Q A 3 I) y.r) A 31 (syC y (V a9 y.p.m c9))/\Row (W.setCell (Q A 3 I) y.r) D 31 #[(),(),(),Zs,Zs,(),(),(),Zs,V I 0 0]/\Ab w w (W.setCell (Q A 3 I) y.r)/\w0.1.size<=(W.setCell (Q A 3 I) y.r).1.size):=fun W hW=>⟨hW.1.set 3 _,hW.2.1.other 3 _ (Ci hAD.1),hW.2.2.1.setCell hAD.2.1 _,by simpa using hW.2.2.2⟩
  have d0:H (∀ W W' g,Row W A 31 (syC y (V a9 y.p.m c9))/\Row W D 31 #[(),(),(),Zs,Zs,(),(),(),Zs,V I 0 0]/\Ab w w W/\w0.1.size<=W.1.size->jI W' W.1.size (Q g 0 I) y.p.m y.p.m y.p.S->Ab W.1.size W W'->Row W' A 31 (syC y (V a9 y.p.m c9))/\Row W' D 31 #[(),(),(),Zs,Zs,(),(),(),Zs,V I 0 0]/\jI W' w0 (Q g 0 I) y.p.m y.p.m y.p.S/\Ab w w W'):=fun W W' g hW hO hB=>⟨hW.1.below hB hW.1.lt,hW.2.1.below hB hW.2.1.lt,jI.base hO hW.2.2.2,jA hW.2.2.1 hB⟩
  have KQ:H (∀ W,Row W A 31 (syC y (V a9 y.p.m c9))->W.cell? A=M (Ao Ar y.k)/\W.cell? (Q A 1 I)=M (Ao Ar y.f)/\W.cell? (Q A 2 I)=M (Ao Ar y.t)/\W.cell? (Q A 3 I)=M (Ag y.r)/\W.cell? (Q A 4 I)=M (Ag y.p.r)/\W.cell? (Q A 5 I)=M (Ao Ar y.p.k)/\W.cell? (Q A 6 I)=M (Ao Ar y.p.n)/\W.cell? (Q A 7 I)=M (Ao Ar y.p.i)/\W.cell? (Q A 8 I)=M (Ag y.p.b)/\W.cell? (Q A 9 I)=M (V a9 y.p.m c9)):=fun W hW=>by
   have z0:=hW.cell 0;have z1:=hW.cell 1;have z2:=hW.cell 2;have z3:=hW.cell 3;have z4:=hW.cell 4;have z5:=hW.cell 5;have z6:=hW.cell 6;have z7:=hW.cell 7;have z8:=hW.cell 8;have z9:=hW.cell 9;simp at z0 z1 z2 z3 z4 z5 z6 z7 z8 z9;exact⟨z0,z1,z2,z3,z4,z5,z6,z7,z8,z9⟩
  have KF:H (∀ W,Row W A 31 (syC y (V a9 y.p.m c9))->W.frozen? (Q A 3 I)=Av/\W.frozen? (Q A 4 I)=Av/\W.frozen? (Q A 5 I)=Av/\W.frozen? (Q A 6 I)=Av/\W.frozen? (Q A 7 I)=Av/\W.frozen? (Q A 8 I)=Av/\W.frozen? (Q A 9 I)=Av):=fun W hW=>⟨hW.free 3,hW.free 4,hW.free 5,hW.free 6,hW.free 7,hW.free 8,hW.free 9⟩
  go_region_with ((first|(go_at_call 121;refine Ax (j0 _ (by first|exact K7.2.2.1|exact(e0 _ K7).2.2.1)) ?_;rintro e w8 ⟨g6,rfl,O8,b8⟩;have K8:H (Row w8 A 31 (syC y (V a9 y.p.m c9))/\Row w8 D 31 #[(),(),(),Zs,Zs,(),(),(),Zs,V I 0 0]/\jI w8 w0 (Q g6 0 I) y.p.m y.p.m y.p.S/\Ab w w w8):=(by first|exact d0 _ _ _ K7 O8 b8|exact d0 _ _ _ (e0 _ K7) O8 b8);clear O8 b8;obtain⟨t0,t1,t2,t3,t4,t5,t6,t7,t8,t9⟩:=KQ _ K8.1;obtain⟨gf3,gf4,gf5,gf6,gf7,gf8,gf9⟩:=KF _ K8.1)|(go_at_call 120;refine Ax (k0 _) ?_;rintro e w7 ⟨rfl,b7'⟩;have g0:=jC b7';clear b7';have K7:H _:=m0.out _ g0;clear g0;obtain⟨p0,p1,p2,p3,p4,p5,p6,p7,p8,p9⟩:=KQ _ K7.1;obtain⟨pf3,pf4,pf5,pf6,pf7,pf8,pf9⟩:=KF _ K7.1)))
  all_goals
   have lA8:=lA;go_wp2_with fail
   go_meet
   first
    | exact⟨g6,(((((((K8.1.set 3 _).set 4 _).set 5 _).set 6 _).set 7 _).set 8 _).set 9 _),(((((((K8.2.1.other 3 _ (Ci hAD.1)).other 4 _ (Ci hAD.1)).other 5 _ (Ci hAD.1)).other 6 _ (Ci hAD.1)).other 7 _ (Ci hAD.1)).other 8 _ (Ci hAD.1)).other 9 _ (Ci hAD.1)),(((((((K8.2.2.1.setFar lA8).setFar lA8).setFar lA8).setFar lA8).setFar lA8).setFar lA8).setFar lA8),(((((((K8.2.2.2.setCell hAD.2.1 _).setCell hAD.2.1 _).setCell hAD.2.1 _).setCell hAD.2.1 _).setCell hAD.2.1 _).setCell hAD.2.1 _).setCell hAD.2.1 _)⟩
    | exact⟨g6,((((((K8.1.set 4 _).set 5 _).set 6 _).set 7 _).set 8 _).set 9 _),((((((K8.2.1.other 4 _ (Ci hAD.1)).other 5 _ (Ci hAD.1)).other 6 _ (Ci hAD.1)).other 7 _ (Ci hAD.1)).other 8 _ (Ci hAD.1)).other 9 _ (Ci hAD.1)),((((((K8.2.2.1.setFar lA8).setFar lA8).setFar lA8).setFar lA8).setFar lA8).setFar lA8),((((((K8.2.2.2.setCell hAD.2.1 _).setCell hAD.2.1 _).setCell hAD.2.1 _).setCell hAD.2.1 _).setCell hAD.2.1 _).setCell hAD.2.1 _)⟩
 obtain⟨g6,n0,f0,Oc,Bc⟩:=hcut.out;have LC:=hd RD.lt;have h0:=hd n0;have i0:=hd f0;obtain⟨w7,b0⟩:=nmH (wc.setRow D (syC y (V (Q g6 0 I) y.p.m y.p.m)));have ZR:H (Row w7 D 31 (syC y (V (Q g6 0 I) y.p.m y.p.m))):=by show Row _ _ _ _;rw[b0.out];exact f0.row
 have ZB:H (Ab w w w7):=by show Ab _ _ _;rw[b0.out];exact jG Bc hAD.2.2 _
 have l6:=A0 Oc g6 rfl;have Z6:H (jI w7 w (Q g6 0 I) y.p.m y.p.m y.p.S):=by
  show jI _ _ _ _ _ _;rw[b0.out];refine jL (jI.base Oc c0.size) (qR _ _ _) (fun x e=>?_);cases e;show g6≠D;have:=l6.1
  have:=LC.out
  omega
 go_wp2_with (first|(refine Bg rfl 31 _ rfl A rfl 31 (syC y (V (M ⟨g6,0,I⟩) y.p.m y.p.m)) (0,0) _ ?_ Cd rfl Tryz.infoSy2 ?_;exact h0)|(refine Ca rfl 31 _ _ rfl D (syC y (V (M ⟨g6,0,I⟩) y.p.m y.p.m)) rfl rfl 31 #[(),(),(),Zs,Zs,(),(),(),Zs,V I 0 0] ?_ Tryz.infoSy2 rfl (by simp[Aq]) ?_;exact i0;rw[<-b0.out]))
 exact B7 (v:=syV y (V (Q g6 0 I) y.p.m y.p.m)) (Cs results130 _ _ D 31 _ (0,0) _ rfl ZR Cd rfl Tryz.infoSy2) rfl ⟨g6,rfl,Z6,ZB⟩
theorem XK (y:Sy) (a9:OA) (c9:Nat) (w:Ad) (h9:jK w a9 y.p.m y.p.S) (hm:y.p.m<=1048576):Ak prog 137 #[syV y (V a9 y.p.m c9)] w fun e w'=>∃ g c,e=Ae (syV y (V (Q g 0 I) y.p.m c))/\jI w' w (Q g 0 I) y.p.m c y.p.S/\Ab w w w':=by
 obtain⟨A,HA⟩:=nmH w.1.size;obtain⟨D,HD⟩:=nmH (w.1.size+1);obtain⟨w0,b0⟩:=nmH ((w.alloc (J (syC y (V a9 y.p.m c9)) 31)).alloc (J #[(),(),(),Zs,Zs,(),(),(),Zs,V I 0 0] 31));have RA:=zP b0 HA;have RD:=JO b0 HD;have h0:=bl2 b0;have f0:=hd h0;have e0:H (A≠D/\w.1.size<=A/\w.1.size<=D):=⟨by have:=HA.out;have:=HD.out;omega,by have:=HA.out;omega,by have:=HD.out;omega⟩;have i0:H _:=XJ y.p.r y.p.k y.p.n y.p.i y.p.b a9 y.p.m c9 y.p.S w0 (h9.below h0) hm;have q4:=RA.cell 4;have q5:=RA.cell 5;have q6:=RA.cell 6;have q7:=RA.cell 7;have q8:=RA.cell 8;have q9:=RA.cell 9;simp at q4 q5 q6 q7 q8 q9;go_enter func137,ntmps137
 go_wp2_with fail
 rw[<-b0.out,<-HD.out,<-HA.out];go_wp2_with fail
 refine Ax i0.out ?_;rintro e w1 ⟨g6,c6,rfl,O1,b1⟩;have d0:=hd (RA.below b1 RA.lt);have k0:=RD.below b1 RD.lt;obtain⟨w2,a0⟩:=nmH (w1.setCells A 4 [y.p.r,y.p.k,y.p.n,y.p.i,y.p.b,V g6 y.p.m c6]);have l6:=A0 O1 g6 rfl;have lA:=RA.lt;have lD:=RD.lt;have j0:H (Row w2 A 31 (syC y (V g6 y.p.m c6))):=by
  show Row _ _ _ _;rw[a0.out];simp only[World.setCells];exact(((((d0.set 4 _).set 5 _).set 6 _).set 7 _).set 8 _).set 9 _
 have g0:H (Row w2 D 31 #[(),(),(),Zs,Zs,(),(),(),Zs,V I 0 0]):=by
  show Row _ _ _ _;rw[a0.out];exact(jE A _ _ w1 D (Ci e0.1)).trans k0
 have O2:jI w2 w0 g6 y.p.m c6 y.p.S:=by
  rw[a0.out];simp only[World.setCells];exact(((((O1.setFar lA).setFar lA).setFar lA).setFar lA).setFar lA).setFar lA
 have B2:Ab w w w2:=by rw[a0.out];exact jP (jA f0 b1) e0.2.1 _ _
 have TH:H (w1.there A 4 6):=fun j hj=>⟨by have:=d0.cell (4+j);rw[this];simp;omega,d0.out.free (4+j)⟩
 obtain⟨w3,c0⟩:=nmH (w2.setRow D (syC y (V g6 y.p.m c6)));have ZR:=rr c0 g0;have ZB:H (Ab w w w3):=by show Ab _ _ _;rw[c0.out];exact jG B2 e0.2.2 _
 have Z6:H (jI w3 w g6 y.p.m c6 y.p.S):=by
  show jI _ _ _ _ _ _;rw[c0.out];refine jL (jI.base O2 f0.size) (qR _ _ _) (fun x e=>?_);cases e;show g6≠D;have:=l6.1
  omega
 go_wp2_with (first|(refine Dd rfl 29 _ _ rfl A 4 #[y.p.r,y.p.k,y.p.n,y.p.i,y.p.b,V g6 y.p.m c6] rfl rfl ?_ (by kernel_rfl) (by simp[Aq]) ?_;exact TH;rw[<-a0.out])|(refine Bg rfl 31 _ rfl A rfl 31 (syC y (V g6 y.p.m c6)) (0,0) _ ?_ Cd rfl Tryz.infoSy2 ?_;exact j0)|(refine Ca rfl 31 _ _ rfl D (syC y (V g6 y.p.m c6)) rfl rfl 31 #[(),(),(),Zs,Zs,(),(),(),Zs,V I 0 0] ?_ Tryz.infoSy2 rfl (by simp[Aq]) ?_;exact g0;rw[<-c0.out]))
 exact B7 (v:=syV y (V g6 y.p.m c6)) (Cs results137 _ _ D 31 _ (0,0) _ rfl ZR Cd rfl Tryz.infoSy2) rfl ⟨g6,c6,rfl,Z6,ZB⟩
theorem QD {g:Nat->Nat} {n i:Nat} (hi:i<n):g i<=tot g n:=by have:=QZ (g:=g) hi;omega
theorem jBd {n:Nat} {S:Nat->Sl} (h:wtL n S<=1048576):n<=1048576/\(∀ i,i<n->SlS (S i))/\(∀ i,i<n->SlK (S i))/\1+tot (fun i=>wkS (S i)) n<=400000000:=by
 unfold wtL at h;have hw:∀ i,i<n->wtS (S i)<=1048576:=fun i hi=>by have:wtS (S i)<=tot (fun i=>wtS (S i)) n:=QD (g:=fun i=>wtS (S i)) hi;omega
 have a0:tot (fun i=>wkS (S i)) n<=10*n+tot (fun i=>wtS (S i)) n:=by
  clear h hw;induction n with
  | zero=>exact Ay _
  | succ n ih=>
   show tot (fun i=>wkS (S i)) n+wkS (S n)<=10*(n+1)+(tot (fun i=>wtS (S i)) n+wtS (S n));have:wkS (S n)<=10+wtS (S n):=by unfold wkS wtS wtP;omega
   omega
 refine⟨by omega,fun i hi=>?_,fun i hi=>?_,by omega⟩
 .have:=hw i hi
  unfold wtS wtP at this;exact⟨by omega,by omega,by omega⟩
 .have:=hw i hi
  unfold wtS wtP at this;refine⟨by omega,by omega,by omega,by omega,fun j hj=>?_,by omega,by omega⟩;have:((S i).p.S j).size<=tot (fun j=>((S i).p.S j).size) (S i).p.m:=QD (g:=fun j=>((S i).p.S j).size) hj
  omega
section
variable {w W W':World} {B E X G bx bg:Nat} {id f:Int} {a:Option Addr} {n c gx:Nat} {T TG TH:Sl} {v6 v11 v12 u6 u11 u12:Value}
end
end Go.Proofs.YtcaejlalnjnifaaGreat
