import Derived.Test.YtcaejlalnjnifaaGreatR32
set_option maxHeartbeats 8000000
set_option maxRecDepth 2000
open Go.Value renaming slice->V,pointer->Af,string->Ag,tuple->Ah,agg->Ai,int->Ao,oneCell'->Aq
open Option renaming none->I,some->M
open Go.RowKit renaming Hid->H,Below->Ab
open Go.Addr renaming mk->Q
open Go renaming undef->O,World->Ad,Value->Aj,Calls->Ak,Addr->Al
open Go.Obj renaming cells->J
open Go.Proofs.Tryz renaming prog->Ac
open Go.Ending renaming returned->Ae
open Go.IntKind renaming i64->Ar
open Bool renaming false->Av,true->Aw
open Go.Proofs.Tryz
open Go.ChangeShapes Go.WideShapes Go.ChangeAt Go.RowKit
namespace Go.Proofs.YtcaejlalnjnifaaGreat
theorem vO {w w':Ad} {B e s n g cap:Nat} {xs:List Aj} (h:w.ownsRow B e s (V g n cap) n xs) (_hs:w.1.size<=w'.1.size) (hg:w'.1[g]?=w.1[g]?):w'.ownsRow B e s (V g n cap) n xs:=by
 refine⟨h.1,?_⟩;rcases h.2 with k|⟨g',b0,a0,e',h1,h2,h3⟩
 .exact .inl k
 .cases e';exact .inr ⟨g,cap,a0,rfl,h1,hg.trans h2,h3⟩
theorem jCv (c:Nat->Nat->Aj) (n:Nat):cL 10 (fun i q=>c (i+0) q) n=cL 10 c n:=rfl
theorem jI4 {W:Ad} {B g m cap p k j:Nat} {c:Nat->Nat->Aj} {u:Aj} (h:W.ownsRow B 31 10 (V g m cap) m (cL 10 c m)) (a0:p+k<=m) (hu:(cL 10 (fun i q=>c (i+p) q) k)[j]?=M u):W.cell? (((Q g (p*10) I):Al).add j)=M u:=by
 have hj:j<k*10:=by have:=(Ca.1 hu).1;rw[qB] at this;exact this
 have h1:=jU 10 (fun i q=>c (i+p) q) k (j / 10) (j % 10) (by omega) (by omega);rw[vB,hu] at h1;have h2:=jU 10 c m (j / 10+p) (j % 10) (by omega) (by omega);have e:(j / 10+p)*10+j % 10=p*10+j:=by omega
 rw[e] at h2;rw[Addr.add_mid,Br h _ (by omega),h2,h1]
theorem cutE {W:Ad} {B g cap a7 a8 m m1:Nat} {c:Nat->Nat->Aj} (ha:a7<m) (h8:a7+1=a8) (hm:m-1=m1) (h:W.ownsRow B 31 10 (V g (a7+(m-a8)) cap) (a7+(m-a8)) (cL 10 c a7++cL 10 (fun i q=>c (i+a8) q) (m-a8))):W.ownsRow B 31 10 (V g m1 cap) m1 (cL 10 (fun i q=>if i<a7 then c i q else c (i+1) q) m1):=by
 subst h8;rw[jI3 10 _ _ _ _ (by omega),show a7+(m-(a7+1))=m1 by omega] at h;have e:cL 10 (fun i q=>if i<a7 then c i q else c (i-a7+(a7+1)) q) m1=cL 10 (fun i q=>if i<a7 then c i q else c (i+1) q) m1:=vZ fun i q _ _=>by
  by_cases k:i<a7
  .rw[A6 k,A6 k]
  .rw[A5 k,A5 k,show i-a7+(a7+1)=i+1 by omega]
 rw[e] at h;exact h
theorem jRj {w:Ad} {E:Nat->Prop} {m m1 a7:Nat} {Y:Nat->Sy} {c:Nat->Nat->Aj} (ha:a7<m) (hm:m-1=m1) {i q:Nat} (hi:i<m1) (hq:q<10) (h:∀ i q,i<m->q<10->Rf w E (syD (Y i) q) (c i q)):Rf w E (syD (QK a7 Y i) q) (if i<a7 then c i q else c (i+1) q):=by
 unfold QK;by_cases k:i<a7
 .rw[A6 k,A6 k];exact h i q (by omega) hq
 .rw[A5 k,A5 k];exact h (i+1) q (by omega) hq
theorem NtE.later {w w':Ad} {B B1 n:Nat} {N:Nat->Nd} {zs:List Int} {m m':Nat} {Y Y':Nat->Sy} {g1 c1 g3 c3 g c:Nat} {v2:Aj} {cc:Nat->Nat->Aj} {X:Nat->Prop} (h:NtE w B n N zs m Y g1 c1 v2 g3 c3 X) (hb:Ab w w w') (ho:w'.ownsRow B1 31 10 (V g m' c) m' (cL 10 cc m')) (hB:B<=B1/\w.1.size<=B1) (hr:∀ i q,i<m'->q<10->Rf w (EX g1 g3 X) (syD (Y' i) q) (cc i q)):NtE w' B n N zs m' Y' g1 c1 v2 g c X:=by
 have lg:=A0 ho g rfl;have up:∀ {d:Dt} {v:Aj},Rf w (EX g1 g3 X) d v->Rf w' (EX g1 g X) d v:=fun r=>(r.since hb.size (fun b _ hl=>hb.block b hl)).mono (fun b k=>by rcases k with k|k|k;exact .inl (.inl k);exact .inr (by omega);exact .inl (.inr (.inr k)))
 obtain⟨cn,h1,h2⟩:=h.o;have l1:=A0 h1 g1 rfl;exact⟨⟨cn,jE h1 hb,fun i q hi hq=>up (h2 i q hi hq)⟩,up h.z,⟨cc,jY ho hB.1,fun i q hi hq=>up (hr i q hi hq)⟩,by omega⟩
theorem jS0 {w wy w5 w6 w7 w8:Ad} {gN o A D a0:Nat} {vs:List Aj} {v:Aj} {cs:Array Aj} (h8:w8=w7.setRow D cs) (h7:w7=w6.setCell (Q A 3 I) v) (h6:w5.grownBy w6 (M a0)) (h5:w5=wy.setCells gN o vs) (hb:Ab w w wy):w8.os=w.os/\w8.tape=w.tape/\w8.output=w.output:=by
 subst h8 h7;have e5:=qZ gN vs o wy;rw[<-h5] at e5;exact⟨h6.os.trans (e5.1.trans hb.os),h6.tape.trans (e5.2.1.trans hb.tape),h6.output.trans (e5.2.2.trans hb.output)⟩
theorem jH9 (B:Nat) (f:Int) (n:Nat) (N:Nat->Nd) (zs:List Int) (m:Nat) (Y:Nat->Sy) (gN cN:Nat) (a2:OA) (c2 gW cW a7:Nat) (y:Sy) (X9:Nat->Prop) (w:Ad) (h:NtE w B n N zs m Y gN cN (V a2 zs.length c2) gW cW X9) (hB:B<=w) (hm:m<=3000) (hn:n<=1048576) (hz:zs.length<=1048576) (ha:a7<m) (Hy:H (Y a7=y)) (HT:H (¬ ToP n zs y.t)):Ak prog 138 #[ntV f (V gN n cN) (V a2 zs.length c2) (V gW m cW),(a7:Int)] w fun r w'=>∃ g c,r=Ae (ntV f (V gN n cN) (V a2 zs.length c2) (V (Q g 0 I) (m-1) c))/\NtE w' B n N zs (m-1) (QK a7 Y) gN cN (V a2 zs.length c2) g c X9/\Ab w w w'/\w.1.size<=g:=by
 obtain⟨cy,n1,y0⟩:=h.y;have y1:m<=cW:=by
  rcases n1.2 with ⟨e,_⟩|⟨g,cap,p2,e,_,_,hc,_⟩
  .cases e
  .cases e;exact hc
 have v2:B<=w:=hB;obtain⟨bb,fb,a9,c9,ea,v0,t9⟩:=zZ h.rdY ha;obtain⟨rfl,rfl⟩:gW=bb/\0=fb:=by simp at ea;exact⟨ea.1,ea.2⟩
 rw[Hy.out] at v0 t9;rw[Bt] at v0;obtain⟨zl,a1⟩:=nnH zs.length;obtain⟨m1,q0⟩:=nnH (m-1);have t2:m1<=3000:=by have:=q0.out;omega
 obtain⟨A,HA⟩:=nmH w.1.size;obtain⟨D,HD⟩:=nmH (w.1.size+1);obtain⟨X,HX⟩:=nmH (w.1.size+1+1);obtain⟨w1,o0⟩:=nmH (((w.alloc (J #[f,V gN n cN,V a2 zs.length c2,V gW m cW] 48)).alloc (J #[(),V I 0 0,V I 0 0,V I 0 0] 48)).alloc (J (syC y (V a9 y.p.m c9)) 31));have RA:=zS o0 HA;have RD:=xV o0 HD;have RX:=zE o0 HX;have b1:=bl3 o0;have e1:H (Ab w w w1):=b1;have lA:w.1.size<=A/\A<D/\D<X/\X<w1:=⟨by have:=HA.out;omega,by have h1:=HA.out;have h2:=HD.out;omega,by have h1:=HD.out;have h2:=HX.out;omega,RX.out.lt⟩;have s1:H (w1.ownsRow B 31 10 (V gW m cW) m (cL 10 cy m)):=jE n1 b1;have p1:H (∀ W:Ad,W.ownsRow B 31 10 (V gW m cW) m (cL 10 cy m)->∀ p k,p+k<=m->∀ j u,(cL 10 (fun i q=>cy (i+p) q) k)[j]?=M u->W.cell? (((Q gW (p*10) I):Al).add j)=M u):=fun W hW p k i2 j u hu=>jI4 hW i2 hu
 have z0:H (∀ i q,i<m->q<10->(cy i q).oneCell'=Aw):=fun i q hi hq=>jCc (y0 i q hi hq).rd
 have r1:H (∀ u∈cL 10 cy a7,u.oneCell'=Aw):=fun u hu=>by obtain⟨i,q,hi,hq,rfl⟩:=jAx (by omega) hu;exact z0.out i q (by omega) hq
 have KE:H (NtE w B n N zs m Y gN cN (V a2 zs.length c2) gW cW X9):=h;have KY:H (∀ i q,i<m->q<10->Rf w (EX gN gW X9) (syD (Y i) q) (cy i q)):=y0;have KZ:H (Rf w (EX gN gW X9) (inD zs) (V a2 zs.length c2)):=h.z;have o2:H (jL w a9 y.p.m y.p.S):=t9;have g1:H (((w.alloc (J #[f,V gN n cN,V a2 zs.length c2,V gW m cW] 48)).alloc (J #[(),V I 0 0,V I 0 0,V I 0 0] 48)).rangeAt gW (a7*10) (syC y (V a9 y.p.m c9)).toList):=(World.rangeAt_alloc (World.rangeAt_alloc v0 _) _);obtain⟨a8,H8⟩:=nnH (a7+1);have r2:a8<=m:=by have:=H8.out;omega
 have H9:H (a7+(m-a8)=m1):=by have:=H8.out;have:=q0.out;show _=_;omega
 have u2:IntKind.i64.wrap ((a7:Int)+1)=(a8:Int):=by have:=H8.out;rw[A8];omega
 have s2:(a7:Int)<(m:Int):=by omega
 have n2:(m:Int)<=(cW:Int):=by omega
 rw[a1.out] at RA o0 KE KZ g1 |-;rw[q0.out];have jIp:∀ {i q:Nat},a7<m->m-1=m1->i<m1->q<10->Rf w (EX gN gW X9) (syD (QK a7 Y i) q) (if i<a7 then cy i q else cy (i+1) q):=fun h1 h2 h3 h4=>jRj h1 h2 h3 h4 y0
 clear h b1 n1 y0 v0 t9 ea hB;go_enter func138,ntmps138
 have x3:=RA.cell 3;simp at x3;have m2:((w.alloc (J #[f,V gN n cN,V a2 zl c2,V gW m cW] 48)).alloc (J #[(),V I 0 0,V I 0 0,V I 0 0] 48)).cell? (Q w 3 I)=M (V gW m cW):=by simp
 go_wp2_with (refine Bv rfl 31 _ rfl gW (a7*10) rfl (syC y (V a9 y.p.m c9)).toList _ ?_ Ci rfl Tryz.infoSy ?_;exact g1)
 rw[<-o0.out,<-HX.out,<-HD.out,<-HA.out];clear m2 g1 o0 HX HD HA;go_upto_region 2 with fail
 refine JP Tryz.mixed 14 [([],[0,5,11,13]),([],[5,11,13]),([1],[2,5,11,13]),([],[5,11,13]),([2,3],[4,5,11,13]),([0,4],[5,11,13]),([],[10,11,13]),([6],[7,10,11,13]),([],[10,11,13]),([8],[10,11,13]),([7,9],[10,11,13]),([0,5,10],[11,13]),([],[13]),([0,5,10,11,12],[13])] (by kernel_rfl) (fun L A9 W=>∃ (i0:Nat) (c0:Nat) (f0:Nat) (g0:Nat) (a0:Nat) (b0:Nat),A9=⟨(List.toArray (α:=Aj) ((ntV f (V gN n cN) (V a2 zl c2) (V gW m cW))::((a7:Int))::(Af A)::O::(Af D)::(Af X)::O::O::(Af (Q A 3 I))::(V gW m cW)::((a7:Int))::(Af (Q gW (a7*10) I))::(Ai #[y.k,y.f,y.t,y.r,y.p.r,y.p.k,y.p.n,y.p.i,y.p.b,V a9 y.p.m c9])::(cX (L 0) (V i0 0 0) O)::(cX (L 1) (Af (Q A 3 I)) O)::(cX (L 2) (V gW m cW) O)::(cX (L 3) (a7:Int) O)::(cX (L 4) (V gW a7 cW) O)::(cX (L 5) (V c0 a7 f0) O)::(cX (L 6) (Af (Q A 3 I)) O)::(cX (L 7) (V gW m cW) O)::(cX (L 8) (a7:Int) O)::(cX (L 9) (a8:Int) O)::(cX (L 10) (V (Q gW g0 I) (m-a8) (cW-a8)) O)::(cX (L 11) (V a0 m1 b0) O)::(cX (L 12) (Af (Q A 3 I)) O)::O::O::O::O::O::O::O::O::O::O::O::O::O::O::O::O::O::O::O::O::O::O::O::O::O::O::O::O::O::O::O::O::O::O::O::O::O::O::[])),[]⟩/\(L 13=Av->Ab w1 w1 W)/\(L 0=Aw->L 5=Av->W.ownsRow w1 31 10 (V i0 0 0) 0 ([]))/\(L 5=Aw->L 11=Av->W.ownsRow w1 31 10 (V c0 a7 f0) a7 (cL 10 cy a7))/\(L 11=Aw->W.ownsRow w1 31 10 (V a0 m1 b0) m1 (cL 10 (fun i q=>if i<a7 then cy i q else cy (i+1) q) m1))/\(L 10=Aw->m=a8\/g0=a8*10)/\(L 13=Aw->Trn w1 W (fun x=>x=A)/\Row W A 48 #[f,V gN n cN,V a2 zl c2,V a0 m1 b0])) ?_ ?_ ?_
 .exact⟨0,0,0,0,0,0,rfl,(fun _=>jD _),(fun h=>by cases h),(fun h=>by cases h),(fun h=>by cases h),(fun h=>by cases h),(fun h=>by cases h)⟩
 .rintro a9 wx ⟨i0,c0,f0,g0,a0,b0,x1,-,-,-,x0,-,p0⟩;simp only[Nat.reduceLT,Dp,jJ] at x1;subst x1;replace x0:=(x0 rfl)
  replace p0:=(p0 rfl)
  have i1:H (wx.ownsRow w1 31 10 (V a0 m1 b0) m1 (cL 10 (fun i q=>if i<a7 then cy i q else cy (i+1) q) m1)):=x0;have t1:H (Row wx A 48 #[f,V gN n cN,V a2 zl c2,V a0 m1 b0]):=p0.2;have u0:H (Trn w1 wx (fun x=>x=A)):=p0.1;have o1:H (Ab w w wx):=e1.trans (p0.1.below (fun x e=>by have e9:x=A:=e;omega) e1.out.size);have g2:H (Row wx X 31 (syC y (V a9 y.p.m c9))):=(u0.block X RX.lt (fun e=>by have e9:X=A:=e;omega)).trans RX.out;have u1:H (Row wx D 48 #[(),V I 0 0,V I 0 0,V I 0 0]):=(u0.block D RD.lt (fun e=>by have e9:D=A:=e;omega)).trans RD.out;have k2:=u0.size;clear x0 p0;have z2:=g2.cell 2;obtain⟨za,zb⟩:=t1.c2 1 2;simp at z2 za zb;obtain⟨w8,t0⟩:=nmH (wx.setRow D #[f,V gN n cN,V a2 zl c2,V a0 m1 b0]);have f2:=rr t0 u1;have KF:H (NtE w8 B n N zs m1 (QK a7 Y) gN cN (V a2 zl c2) a0 b0 X9/\Ab w w w8/\w.1.size<=a0):=by
   have b8:Ab w w w8:=by rw[t0.out];exact jF o1 (by omega) _
   have lg:=A0 i1 a0 rfl;have og:w8.ownsRow w1 31 10 (V a0 m1 b0) m1 (cL 10 (fun i q=>if i<a7 then cy i q else cy (i+1) q) m1):=by
    rw[t0.out];exact vO i1 (by simp) (Cd _ _ _ _ (by omega))
   exact⟨KE.later b8 og (by omega) (fun i q hi hq=>jIp ha q0.out hi hq),b8,by have:=e1.size;omega⟩
  clear u0 i1 KE k2;by_cases c1:0<=y.t/\y.t<(n:Int)
  have cz:y.t∈zs:=Classical.not_not.1 (fun k=>HT ⟨c1,k⟩);have f1:H (CS 43 #[y.t,(),((n:Int)-1:Int)] wx Aw):=by
   have:=jN y.t 0 ((n:Int)-1) wx
   rw[show inB y.t 0 ((n:Int)-1)=Aw from Bf (by have:=c1;omega)] at this;exact this
  have b2:H (CS 139 #[V a2 zl c2,y.t] wx Aw):=by
   have:=QX a2 c2 zs y.t wx ((qL.1 (by rw[a1.out];exact KZ.rd)).below o1) hz
   rw[Bf cz,a1.out] at this;exact this
  go_wp2_with fail
  refine CM f1.out fun w9 s0=>?_
  obtain rfl:=s0.symm;clear s0;go_wp2_with fail
  refine Ax b2.out ?_;rotate_left;have f1:H (CS 43 #[y.t,(),((n:Int)-1:Int)] wx Av):=by
   have:=jN y.t 0 ((n:Int)-1) wx
   rw[show inB y.t 0 ((n:Int)-1)=Av from Bg (fun k=>c1 (by omega))] at this;exact this
  go_wp2_with fail
  refine Ax f1.out ?_;rotate_left;all_goals
   rintro e w9 ⟨rfl,s0⟩;obtain rfl:=s0.symm;clear s0;go_wp2_with (first|(refine Bb rfl 48 _ rfl A rfl 48 #[f,V gN n cN,V a2 zl c2,V a0 m1 b0] (0,0) _ ?_ Bp rfl Tryz.infoNt ?_;exact t1)|(refine Bw rfl 48 _ _ rfl D #[f,V gN n cN,V a2 zl c2,V a0 m1 b0] rfl rfl 48 #[(),V I 0 0,V I 0 0,V I 0 0] ?_ Tryz.infoNt rfl (by simp[Aq]) ?_;exact u1;rw[<-t0.out]))
   exact B7 (v:=Ai #[f,V gN n cN,V a2 zl c2,V a0 m1 b0]) (Ck results138 _ _ D 48 _ (0,0) _ rfl f2 Bp rfl Tryz.infoNt) rfl ⟨_,_,rfl,KF⟩
 .intro q9 j2 L a9 W S n0;match q9,j2 with
  | 1,_|3,_|6,_|8,_|9,_|12,_=>
   obtain⟨i0,c0,f0,g0,a0,b0,rfl,hf⟩:=n0;simp only[knT,kn,knN] at S;refine jB rfl (fun _=>rfl) fun K hK=>?_
   try simp only[S,jJ]
   go_simp
   exact hK _ _ ⟨i0,c0,f0,g0,a0,b0,(by simp only[Nat.reduceBEq,Bh,Bq,jJ,S]),hf⟩
  | 0,_=>
   obtain⟨i0,c0,f0,g0,a0,b0,rfl,h0,h1,h2,h3,h4,h5⟩:=n0;obtain⟨e0,e5,m0,j0,-⟩:=S;have hb:=h0 j0;refine jB rfl (fun _=>rfl) fun K hK=>?_
   go_simp
   exact hK _ _ ⟨W.1.size,c0,f0,g0,a0,b0,(by simp only[Nat.reduceBEq,Bh,Bq,jJ,jIo,e5,m0]),(fun k0=>hb.alloc hb.size _),(fun k0 k1=>Cc W #[] 0 hb.size (by decide) rfl),(ab e5),(ab m0),h4,(ab j0)⟩
  | 2,_=>
   obtain⟨i0,c0,f0,g0,a0,b0,rfl,h0,h1,h2,h3,h4,h5⟩:=n0;obtain⟨d1,e2,e5,m0,j0,-⟩:=S;have hb:=h0 j0;have x3:=(RA.below hb RA.lt).cell 3;simp at x3;refine jB rfl (fun _=>rfl) fun K hK=>?_
   simp only[d1,jJ];go_simp
   exact hK _ _ ⟨i0,c0,f0,g0,a0,b0,(by simp only[Nat.reduceBEq,Bh,Bq,jJ,d1,e5,m0]),h0,h1,(ab e5),(ab m0),h4,(ab j0)⟩
  | 4,_=>
   obtain⟨i0,c0,f0,g0,a0,b0,rfl,h0,h1,h2,h3,h4,h5⟩:=n0;obtain⟨d2,d3,e4,e5,m0,j0,-⟩:=S;refine jB rfl (fun _=>rfl) fun K hK=>?_
   simp only[d2,d3,jJ];refine jPa 15 16 rfl gW m cW a7 rfl rfl (by omega) ?_;exact hK _ _ ⟨i0,c0,f0,g0,a0,b0,(by simp[Act.put,jJ,d2,d3]),h0,h1,(ab e5),(ab m0),h4,(ab j0)⟩
  | 5,_=>
   obtain⟨i0,c0,f0,g0,a0,b0,rfl,h0,h1,h2,h3,h4,h5⟩:=n0;obtain⟨d0,d4,e5,m0,j0,-⟩:=S;have hb:=h0 j0;have q1:=h1 d0 e5;have oW:=jE s1 hb;refine jB rfl (fun _=>rfl) fun K hK=>?_
   simp only[d0,d4,jJ];refine QH 13 17 rfl w1 i0 0 0 [] rfl q1 gW a7 cW (cL 10 cy a7) rfl (fun e=>by cases e) (qB _ _ _) (fun b e j u hu=>by cases e;exact p1.out W oW 0 a7 (by omega) j u (by rw[jCv];exact hu)) r1.out (by omega) hb.size ?_;intro c0 f0 w9 ho hg _;exact hK _ _ ⟨i0,c0,f0,g0,a0,b0,(by simp[Act.put,jJ,d0,d4]),(fun k0=>hb.grown hg hb.size (fun k e=>by cases e;exact(A0 q1 i0 rfl).1)),(fun _=>nf),(fun k0 k1=>by simpa using ho),(ab m0),h4,(ab j0)⟩
  | 7,_=>
   obtain⟨i0,c0,f0,g0,a0,b0,rfl,h0,h1,h2,h3,h4,h5⟩:=n0;obtain⟨d6,e7,j1,m0,j0,-⟩:=S;have hb:=h0 j0;have x3:=(RA.below hb RA.lt).cell 3;simp at x3;refine jB rfl (fun _=>rfl) fun K hK=>?_
   simp only[d6,jJ];go_simp
   exact hK _ _ ⟨i0,c0,f0,g0,a0,b0,(by simp only[Nat.reduceBEq,Bh,Bq,jJ,d6,j1,m0]),h0,h1,h2,(ab m0),(ab j1),(ab j0)⟩
  | 10,_=>
   obtain⟨i0,c0,f0,g0,a0,b0,rfl,h0,h1,h2,h3,h4,h5⟩:=n0;obtain⟨d7,d9,j1,m0,j0,-⟩:=S;have hb:=h0 j0;refine jB rfl (fun _=>rfl) fun K hK=>?_
   simp only[d7,d9,jJ];refine jG5 20 22 rfl gW m cW a8 rfl rfl (by omega) y1 ?_;intro g0 z1;exact hK _ _ ⟨i0,c0,f0,g0,a0,b0,(by simp[Act.put,jJ,d7,d9]),h0,h1,h2,(ab m0),(fun k0=>z1),(ab j0)⟩
  | 11,_=>
   obtain⟨i0,c0,f0,g0,a0,b0,rfl,h0,h1,h2,h3,h4,h5⟩:=n0;obtain⟨d0,d5,r0,m0,j0,-⟩:=S;have hb:=h0 j0;have q2:=h2 d5 m0;have oW:=jE s1 hb;have q4:=h4 r0;refine jB rfl (fun _=>rfl) fun K hK=>?_
   simp only[d5,r0,jJ];refine QH 18 23 rfl w1 c0 a7 f0 (cL 10 cy a7) rfl q2 (M ⟨gW,g0,I⟩) (m-a8) (cW-a8) (cL 10 (fun i q=>cy (i+a8) q) (m-a8)) rfl (fun e=>by cases e) (qB _ _ _) (fun b e j u hu=>?_) (fun u hu=>?_) (by have:=H8.out;omega) hb.size ?_
   .cases e;rcases q4 with q4|q4
    .have:=(Ca.1 hu).1
     rw[qB] at this;omega
    .rw[q4];exact p1 W oW a8 (m-a8) (by omega) j u hu
   .obtain⟨i,q,hi,hq,rfl⟩:=jAx (by omega) hu;exact z0 _ q (by have:=H8.out;omega) hq
   intro a0 b0 w9 ho hg _;rw[H9.out];exact hK _ _ ⟨i0,c0,f0,g0,a0,b0,(by simp[Act.put,jJ,d5,r0]),(fun k0=>hb.grown hg hb.size (fun k e=>by cases e;exact(A0 q2 c0 rfl).1)),(fun _=>ba d5),(fun _=>nf),(fun k0=>cutE ha H8 q0 ho),h4,(ab j0)⟩
  | 13,_=>
   obtain⟨i0,c0,f0,g0,a0,b0,rfl,h0,h1,h2,h3,h4,h5⟩:=n0;obtain⟨d0,d5,r0,w0,v1,j0,-⟩:=S;have hb:=h0 j0;have q3:=h3 w0;have qA:=RA.below hb RA.lt;have fr:=qA.free 3;have x3:=qA.cell 3;simp at x3;refine jB rfl (fun _=>rfl) fun K hK=>?_
   simp only[v1,w0,jJ];go_simp
   exact hK _ _ ⟨i0,c0,f0,g0,a0,b0,(by simp only[Nat.reduceBEq,Bh,d0,d5,r0,w0,v1,jJ]),nf,(fun _=>ba d5),(fun _=>ba w0),(fun k0=>jK q3 (jP W A 3 _) (fun x e=>by cases e;have:=(A0 q3 a0 rfl).1;show a0≠A;omega)),h4,(fun k0=>⟨(Trn.ofBelow _ hb).trans (Trn.set W 3 _ rfl),qA.set 3 _⟩)⟩
  | n9+14,h=>exact Bo h (by omega)
theorem jH8 (B:Nat) (f:Int) (n:Nat) (N:Nat->Nd) (zs:List Int) (m:Nat) (Y:Nat->Sy) (gN cN:Nat) (a2:Option Al) (c2 gW cW a7:Nat) (y:Sy) (X9:Nat->Prop) (t:Nat) (d:Nd) (w:Ad) (h:NtE w B n N zs m Y gN cN (V a2 zs.length c2) gW cW X9) (hB:B<=w.1.size) (hm:m<=3000) (hn:n<=1048576) (hz:zs.length<=1048576) (ha:a7<m) (Hy:H (Y a7=y)) (HT:H (ToP n zs y.t)) (j1:t<n) (Hd:H (N t=d)) (Ht:H (y.t=(t:Int))) (a4:H (NhB d.n d.S y)) (hM:hdM d y<=10) (KX:H (∀ b,X9 b->b<w.1.size)):Ak Ac 138 #[ntV f (V (M ⟨gN,0,I⟩) n cN) (V a2 zs.length c2) (V (M ⟨gW,0,I⟩) m cW),Ao Ar (a7:Int)] w fun r w'=>∃ g c,r=Ae (ntV f (V (M ⟨gN,0,I⟩) n cN) (V a2 zs.length c2) (V (M ⟨g,0,I⟩) (m-1+hdM d y) c))/\NtE w' B n (fun i=>if i=t then hdN d y else N i) zs (m-1+hdM d y) (wyS (m-1) (QK a7 Y) (hdY d y)) gN cN (V a2 zs.length c2) g c X9/\Trn w w' (fun x=>x=gN)/\w.1.size<=g:=by
 obtain⟨N1,r3⟩:=nnH (nhN d.i d.f d.n d.S y);obtain⟨S1,s3⟩:=nnH (nhS d.i d.f d.n d.S y);obtain⟨M1,p2⟩:=nnH (nhM d.i d.f d.n d.S y);obtain⟨Y1,t3⟩:=nnH (nhY d.i d.f d.n d.S y);have g5:M1<=10:=by rw[<-p2.out];exact hM
 unfold hdN hdM hdY;rw[r3.out,s3.out,p2.out,t3.out];clear hM;obtain⟨cy,l3,n3⟩:=h.y;have m4:m<=cW:=by
  rcases l3.2 with ⟨e,_⟩|⟨g,cap,j5,e,_,_,hc,_⟩
  .cases e
  .cases e;exact hc
 have a5:B<=w.1.size:=hB;obtain⟨bb,fb,a9,c9,ea,g2,t9⟩:=zZ h.rdY ha;obtain⟨rfl,rfl⟩:gW=bb/\0=fb:=by simp at ea;exact⟨ea.1,ea.2⟩
 rw[Hy.out] at g2 t9;rw[Bt] at g2;obtain⟨zl,s2⟩:=nnH zs.length;obtain⟨m1,n1⟩:=nnH (m-1);have m5:m1<=3000:=by have:=n1.out;omega
 obtain⟨A,HA⟩:=nmH w.1.size;obtain⟨D,HD⟩:=nmH (w.1.size+1);obtain⟨X,HX⟩:=nmH (w.1.size+1+1);obtain⟨w1,w0⟩:=nmH (((w.alloc (J #[Ao Ar f,V (M ⟨gN,0,I⟩) n cN,V a2 zs.length c2,V (M ⟨gW,0,I⟩) m cW] 48)).alloc (J #[Ao Ar 0,V I 0 0,V I 0 0,V I 0 0] 48)).alloc (J (syC y (V a9 y.p.m c9)) 31));have RA:=zS w0 HA;have RD:=xV w0 HD;have RX:=zE w0 HX;have b1:=bl3 w0;have t2:H (Ab w.1.size w w1):=b1;have lA:w.1.size<=A/\A<D/\D<X/\X<w1.1.size:=⟨by have:=HA.out;omega,by have h1:=HA.out;have h2:=HD.out;omega,by have h1:=HD.out;have h2:=HX.out;omega,RX.out.lt⟩;have z3:H (w1.ownsRow B 31 10 (V (M ⟨gW,0,I⟩) m cW) m (cL 10 cy m)):=jE l3 b1;have u3:H (∀ W:Ad,W.ownsRow B 31 10 (V (M ⟨gW,0,I⟩) m cW) m (cL 10 cy m)->∀ p k,p+k<=m->∀ j u,(cL 10 (fun i q=>cy (i+p) q) k)[j]?=M u->W.cell? ((⟨gW,p*10,I⟩:Al).add j)=M u):=fun W hW p k z4 j u hu=>jI4 hW z4 hu
 have n2:H (∀ i q,i<m->q<10->(cy i q).oneCell'=Aw):=fun i q hi hq=>jCc (n3 i q hi hq).rd
 have w3:H (∀ u∈cL 10 cy a7,u.oneCell'=Aw):=fun u hu=>by obtain⟨i,q,hi,hq,rfl⟩:=jAx (by omega) hu;exact n2.out i q (by omega) hq
 have KE:H (NtE w B n N zs m Y gN cN (V a2 zs.length c2) gW cW X9):=h;have KY:H (∀ i q,i<m->q<10->Rf w (EX gN gW X9) (syD (Y i) q) (cy i q)):=n3;have KZ:H (Rf w (EX gN gW X9) (inD zs) (V a2 zs.length c2)):=h.z;have y3:H (jL w a9 y.p.m y.p.S):=t9;have w2:H (((w.alloc (J #[Ao Ar f,V (M ⟨gN,0,I⟩) n cN,V a2 zs.length c2,V (M ⟨gW,0,I⟩) m cW] 48)).alloc (J #[Ao Ar 0,V I 0 0,V I 0 0,V I 0 0] 48)).rangeAt gW (a7*10) (syC y (V a9 y.p.m c9)).toList):=(World.rangeAt_alloc (World.rangeAt_alloc g2 _) _);obtain⟨a8,H8⟩:=nnH (a7+1);have k5:a8<=m:=by have:=H8.out;omega
 have H9:H (a7+(m-a8)=m1):=by have:=H8.out;have:=n1.out;show _=_;omega
 have q5:IntKind.i64.wrap ((a7:Int)+1)=(a8:Int):=by have:=H8.out;rw[A8];omega
 have l5:(a7:Int)<(m:Int):=by omega
 have i5:(m:Int)<=(cW:Int):=by omega
 rw[s2.out] at RA w0 KE KZ w2 |-;rw[n1.out];have p5:(t:Int)<(n:Int):=by omega
 clear h b1 l3 n3 g2 t9 ea hB;go_enter Tryz.func138,Tryz.ntmps138
 have x3:=RA.out.cell 3;simp at x3;have b5:((w.alloc (J #[Ao Ar f,V (M ⟨gN,0,I⟩) n cN,V a2 zl c2,V (M ⟨gW,0,I⟩) m cW] 48)).alloc (J #[Ao Ar 0,V I 0 0,V I 0 0,V I 0 0] 48)).cell? ⟨w.1.size,3,I⟩=M (V (M ⟨gW,0,I⟩) m cW):=by simp
 go_wp2_with (refine Bv (by rfl) 31 _ (by rfl) gW (a7*10) (by rfl) (syC y (V a9 y.p.m c9)).toList _ ?_ Ci (by rfl) Tryz.infoSy ?_;exact w2.out)
 rw[<-w0.out,<-HX.out,<-HD.out,<-HA.out];clear b5 w2 w0 HX HD HA;go_upto_region 2 with fail
 refine JP Tryz.mixed 14 [([],[0,5,11,13]),([],[5,11,13]),([1],[2,5,11,13]),([],[5,11,13]),([2,3],[4,5,11,13]),([0,4],[5,11,13]),([],[10,11,13]),([6],[7,10,11,13]),([],[10,11,13]),([8],[10,11,13]),([7,9],[10,11,13]),([0,5,10],[11,13]),([],[13]),([0,5,10,11,12],[13])] (by kernel_rfl) (fun L A9 W=>∃ (m0:Nat) (c0:Nat) (f0:Nat) (i0:Nat) (a0:Nat) (b0:Nat),A9=⟨(List.toArray (α:=Aj) ((ntV f (V (M ⟨gN,0,I⟩) n cN) (V a2 zl c2) (V (M ⟨gW,0,I⟩) m cW))::(Ao Ar (a7:Int))::(Af (M ⟨A,0,I⟩))::O::(Af (M ⟨D,0,I⟩))::(Af (M ⟨X,0,I⟩))::O::O::(Af (M ⟨A,3,I⟩))::(V (M ⟨gW,0,I⟩) m cW)::(Ao Ar (a7:Int))::(Af (M ⟨gW,a7*10,I⟩))::(Ai #[Ao Ar y.k,Ao Ar y.f,Ao Ar y.t,Ag y.r,Ag y.p.r,Ao Ar y.p.k,Ao Ar y.p.n,Ao Ar y.p.i,Ag y.p.b,V a9 y.p.m c9])::(cX (L 0) (V (M ⟨m0,0,I⟩) 0 0) O)::(cX (L 1) (Af (M ⟨A,3,I⟩)) O)::(cX (L 2) (V (M ⟨gW,0,I⟩) m cW) O)::(cX (L 3) (Ao Ar (a7:Int)) O)::(cX (L 4) (V (M ⟨gW,0,I⟩) a7 cW) O)::(cX (L 5) (V (M ⟨c0,0,I⟩) a7 f0) O)::(cX (L 6) (Af (M ⟨A,3,I⟩)) O)::(cX (L 7) (V (M ⟨gW,0,I⟩) m cW) O)::(cX (L 8) (Ao Ar (a7:Int)) O)::(cX (L 9) (Ao Ar (a8:Int)) O)::(cX (L 10) (V (M ⟨gW,i0,I⟩) (m-a8) (cW-a8)) O)::(cX (L 11) (V (M ⟨a0,0,I⟩) m1 b0) O)::(cX (L 12) (Af (M ⟨A,3,I⟩)) O)::O::O::O::O::O::O::O::O::O::O::O::O::O::O::O::O::O::O::O::O::O::O::O::O::O::O::O::O::O::O::O::O::O::O::O::O::O::O::[])),[]⟩/\(L 13=Av->Ab w1.1.size w1 W)/\(L 0=Aw->L 5=Av->W.ownsRow w1.1.size 31 10 (V (M ⟨m0,0,I⟩) 0 0) 0 ([]))/\(L 5=Aw->L 11=Av->W.ownsRow w1.1.size 31 10 (V (M ⟨c0,0,I⟩) a7 f0) a7 (cL 10 cy a7))/\(L 11=Aw->W.ownsRow w1.1.size 31 10 (V (M ⟨a0,0,I⟩) m1 b0) m1 (cL 10 (fun i q=>if i<a7 then cy i q else cy (i+1) q) m1))/\(L 10=Aw->m=a8\/i0=a8*10)/\(L 13=Aw->Trn w1 W (fun x=>x=A)/\Row W A 48 #[Ao Ar f,V (M ⟨gN,0,I⟩) n cN,V a2 zl c2,V (M ⟨a0,0,I⟩) m1 b0])) ?_ ?_ ?_
 .exact⟨0,0,0,0,0,0,rfl,(fun _=>jD _),(fun h=>by cases h),(fun h=>by cases h),(fun h=>by cases h),(fun h=>by cases h),(fun h=>by cases h)⟩
 .rintro a9 wx ⟨m0,c0,f0,i0,a0,b0,u1,-,-,-,j2,-,i1⟩;simp only[Nat.reduceLT,Dp,jJ] at u1;subst u1;replace j2:=(j2 rfl)
  replace i1:=(i1 rfl)
  have a3:H (wx.ownsRow w1.1.size 31 10 (V (M ⟨a0,0,I⟩) m1 b0) m1 (cL 10 (fun i q=>if i<a7 then cy i q else cy (i+1) q) m1)):=j2;have f1:H (Row wx A 48 #[Ao Ar f,V (M ⟨gN,0,I⟩) n cN,V a2 zl c2,V (M ⟨a0,0,I⟩) m1 b0]):=i1.2;have b2:H (Trn w1 wx (fun x=>x=A)):=i1.1;have z0:H (Ab w.1.size w wx):=t2.out.trans (i1.1.below (fun x e=>by have e9:x=A:=e;omega) t2.out.size);have t0:H (Row wx X 31 (syC y (V a9 y.p.m c9))):=(b2.out.block X RX.out.lt (fun e=>by have e9:X=A:=e;omega)).trans RX.out;have g3:H (Row wx D 48 #[Ao Ar 0,V I 0 0,V I 0 0,V I 0 0]):=(b2.out.block D RD.out.lt (fun e=>by have e9:D=A:=e;omega)).trans RD.out;have n5:=b2.out.size;clear j2 i1;have z2:=t0.out.cell 2;obtain⟨za,zb⟩:=f1.out.c2 1 2;simp at z2 za zb;have u4:H (Ak Ac 43 #[Ao Ar y.t,Ao Ar 0,Ao Ar ((n:Int)-1)] wx fun e w'=>e=Ae (.bool Aw)/\w'=wx):=by
   have:=jN y.t 0 ((n:Int)-1) wx
   rw[show inB y.t 0 ((n:Int)-1)=Aw from Bf (by have:=HT.out.1;omega)] at this;exact this
  have t4:H (Ak Ac 139 #[V a2 zl c2,Ao Ar y.t] wx fun e w'=>e=Ae (.bool Av)/\w'=wx):=by
   have:=QX a2 c2 zs y.t wx ((qL.1 (by rw[s2.out];exact KZ.out.rd)).below z0.out) hz
   rw[Bg HT.out.2,s2.out] at this;exact this
  go_wp2_with fail
  refine CM u4.out fun w9 v1=>?_
  obtain rfl:=v1.symm;clear v1;go_wp2_with fail
  refine CM t4.out fun w9 v1=>?_
  obtain rfl:=v1.symm;clear v1;obtain⟨c1,m2,hrN⟩:=KE.out.o;have z1:H (w.ownsRow B 26 3 (V (M ⟨gN,0,I⟩) n cN) n (cL 3 c1 n)/\∀ i q,i<n->q<3->Rf w (EX gN gW X9) (ndD (N i) q) (c1 i q)):=⟨m2,hrN⟩;have r2:Rd w (qH d.n d.S) (c1 t 2):=by have:=(hrN t 2 j1 (by omega)).rd;rw[Hd.out] at this;exact this
  obtain⟨an,cn,e2⟩:=r2.shape;rw[e2] at r2;have g0:c1 t 0=Ao Ar d.i:=by have:=(hrN t 0 j1 (by omega)).rd;rw[Hd.out] at this;exact this
  have g1:c1 t 1=Ao Ar d.f:=by have:=(hrN t 1 j1 (by omega)).rd;rw[Hd.out] at this;exact this
  have o3:=A0 m2 gN rfl;have RG:H (∀ W,Ab wx.1.size wx W->W.rangeAt gN (t*3) [Ao Ar d.i,Ao Ar d.f,V an d.n cn]):=fun W hW j v hv=>by
   have hj:j<3:=by
    rcases Fz j 3 with k|k
    .exact k
    .rw[Be (by simpa using k)] at hv;cases hv
   have e1:w.cell? ⟨gN,t*3+j,I⟩=M v:=by
    rw[Br m2 _ (qM j1 hj),jU _ _ _ _ _ j1 hj];match j,hj with
    | 0,_=>rw[g0];simpa using hv
    | 1,_=>rw[g1];simpa using hv
    | 2,_=>rw[e2];simpa using hv
   exact((z0.out.trans (hW.mono (by have:=z0.out.size;omega))).cell (A7 e1)).trans e1
  have KH:H (∀ W,Ab wx.1.size wx W->Ak Ac 10 #[Ai #[Ao Ar d.i,Ao Ar d.f,V an d.n cn],Ai (syC y (V a9 y.p.m c9))] W fun e w'=>∃ va vc sa sc,e=Ae (Ah #[Ai #[Ao Ar d.i,Ao Ar d.f,V va N1 vc],V sa M1 sc])/\Rf w' (fun b=>b<W.1.size) (qH N1 S1) (V va N1 vc)/\Rf w' (fun b=>b<W.1.size) (qI M1 Y1) (V sa M1 sc)/\Ab W.1.size W w'/\∃ F,Ow w' W.1.size (qH N1 S1) (V va N1 vc) F):=fun W hW=>by
   have:=jB7 d.i d.f an d.n cn d.S y a9 c9 W ((r2.below z0.out).below hW) ((y3.out.below z0.out).below hW) a4.out
   rw[r3.out,s3.out,p2.out,t3.out] at this;exact this
  clear r2 e2 g0 g1 m2 hrN y3 a4 b2;go_upto_region 4 with fail
  refine JP Tryz.mixed 14 [([],[7,12]),([0],[1,7,12]),([],[7,12]),([2],[3,7,12]),([1,3],[7,12]),([4],[5,7,12]),([],[6,7,12]),([5,6],[7,8,9,10,12,13]),([7],[12]),([7,8],[12]),([7,8],[]),([],[11,12]),([7,9,11],[12]),([7,10],[])] (by kernel_rfl) (fun L A9 W=>∃ (x6:Nat) (va:Option Al) (vc:Nat) (sa:Option Al) (sc:Nat),A9=⟨(List.toArray (α:=Aj) ((ntV f (V (M ⟨gN,0,I⟩) n cN) (V a2 zl c2) (V (M ⟨gW,0,I⟩) m cW))::(Ao Ar (a7:Int))::(Af (M ⟨A,0,I⟩))::O::(Af (M ⟨D,0,I⟩))::(Af (M ⟨X,0,I⟩))::(cX (L 11) (Af (M ⟨x6,0,I⟩)) O)::(cX (L 13) (V sa M1 sc) O)::(Af (M ⟨A,3,I⟩))::(V (M ⟨gW,0,I⟩) m cW)::(Ao Ar (a7:Int))::(Af (M ⟨gW,a7*10,I⟩))::(Ai #[Ao Ar y.k,Ao Ar y.f,Ao Ar y.t,Ag y.r,Ag y.p.r,Ao Ar y.p.k,Ao Ar y.p.n,Ao Ar y.p.i,Ag y.p.b,V a9 y.p.m c9])::(V (M ⟨m0,0,I⟩) 0 0)::(Af (M ⟨A,3,I⟩))::(V (M ⟨gW,0,I⟩) m cW)::(Ao Ar (a7:Int))::(V (M ⟨gW,0,I⟩) a7 cW)::(V (M ⟨c0,0,I⟩) a7 f0)::(Af (M ⟨A,3,I⟩))::(V (M ⟨gW,0,I⟩) m cW)::(Ao Ar (a7:Int))::(Ao Ar (a8:Int))::(V (M ⟨gW,i0,I⟩) (m-a8) (cW-a8))::(V (M ⟨a0,0,I⟩) m1 b0)::(Af (M ⟨A,3,I⟩))::(Af (M ⟨X,2,I⟩))::(Ao Ar y.t)::(Af (M ⟨A,1,I⟩))::(V (M ⟨gN,0,I⟩) n cN)::(Ao Ar (n:Int))::(Ao Ar ((n:Int)-1))::(.bool Aw)::(.bool Aw)::(Af (M ⟨A,2,I⟩))::(V a2 zl c2)::(Af (M ⟨X,2,I⟩))::(Ao Ar y.t)::(.bool Av)::(.bool Aw)::(.bool Aw)::(cX (L 8) (Ah #[Ai #[Ao Ar d.i,Ao Ar d.f,V va N1 vc],V sa M1 sc]) O)::(cX (L 0) (Af (M ⟨A,1,I⟩)) O)::(cX (L 1) (V (M ⟨gN,0,I⟩) n cN) O)::(cX (L 2) (Af (M ⟨X,2,I⟩)) O)::(cX (L 3) (Ao Ar (t:Int)) O)::(cX (L 4) (Af (M ⟨gN,t*3,I⟩)) O)::(cX (L 5) (Ai #[Ao Ar d.i,Ao Ar d.f,V an d.n cn]) O)::(cX (L 6) (Ai (syC y (V a9 y.p.m c9))) O)::(cX (L 7) (Ah #[Ai #[Ao Ar d.i,Ao Ar d.f,V va N1 vc],V sa M1 sc]) O)::(cX (L 9) (Ai #[Ao Ar d.i,Ao Ar d.f,V va N1 vc]) O)::(cX (L 10) (V sa M1 sc) O)::O::O::O::O::O::O::O::O::O::O::O::O::[])),[]⟩/\(Ab wx.1.size wx W)/\(L 11=Aw->L 12=Av->Row W x6 26 #[Ao Ar 0,Ao Ar 0,V I 0 0]/\wx.1.size<=x6)/\(L 12=Aw->Row W x6 26 #[Ao Ar d.i,Ao Ar d.f,V va N1 vc]/\wx.1.size<=x6)/\(L 7=Aw->L 11=Av->Rf W (fun b=>b<wx.1.size) (qH N1 S1) (V va N1 vc)/\Rf W (fun b=>b<wx.1.size) (qI M1 Y1) (V sa M1 sc))/\(L 7=Aw->L 11=Aw->Rf W (fun b=>b<wx.1.size\/b=x6) (qH N1 S1) (V va N1 vc)/\Rf W (fun b=>b<wx.1.size\/b=x6) (qI M1 Y1) (V sa M1 sc))) ?_ ?_ ?_
  .exact⟨0,I,0,I,0,rfl,jD _,(fun h=>by cases h),(fun h=>by cases h),(fun h=>by cases h),(fun h=>by cases h)⟩
  .rintro a9 wy ⟨x6,va,vc,sa,sc,u1,o4,-,i2,-,k2⟩;simp only[Nat.reduceLT,Dp,jJ] at u1;subst u1;replace i2:=(i2 rfl)
   replace k2:=(k2 rfl rfl)
   have a1:H (Ab wx.1.size wx wy):=o4;have K6:H (Row wy x6 26 #[Ao Ar d.i,Ao Ar d.f,V va N1 vc]/\wx.1.size<=x6):=i2;have v2:H (Rf wy (fun b=>b<wx.1.size\/b=x6) (qH N1 S1) (V va N1 vc)/\Rf wy (fun b=>b<wx.1.size\/b=x6) (qI M1 Y1) (V sa M1 sc)):=k2;clear o4 i2 k2 KH;have sx:=z0.out.size;have sy:=a1.out.size;have f3:Row wy A 48 #[Ao Ar f,V (M ⟨gN,0,I⟩) n cN,V a2 zl c2,V (M ⟨a0,0,I⟩) m1 b0]:=f1.out.below a1.out f1.out.lt;have j4:Row wy X 31 (syC y (V a9 y.p.m c9)):=t0.out.below a1.out t0.out.lt;have i4:Row wy D 48 #[Ao Ar 0,V I 0 0,V I 0 0,V I 0 0]:=g3.out.below a1.out g3.out.lt;have R6:H (Row wy x6 26 #[Ao Ar d.i,Ao Ar d.f,V va N1 vc]):=K6.out.1;have y1:=f3.cell 1;have y2:=j4.cell 2;simp at y1 y2;rw[Ht.out] at y2;have i3:Ab w.1.size w wy:=z0.out.trans (a1.out.mono sx);have TH:H (wy.there gN (t*3) 3):=fun j hj=>by
    refine⟨?_,?_⟩
    .rw[RG.out wy a1.out j ([Ao Ar d.i,Ao Ar d.f,V an d.n cn].getD j O) (by match j,hj with|0,_|1,_|2,_=>rfl)];rfl
    .rw[i3.frozen (p:=⟨gN,t*3+j,I⟩) o3.2];exact B0 z1.out.1 _
   obtain⟨w5,x0⟩:=nmH (wy.setCells gN (t*3) #[Ao Ar d.i,Ao Ar d.f,V va N1 vc].toList);have s5:w5.1.size=wy.1.size:=by rw[x0.out];exact jQ _ _ _ _
   have o5:∀ x,x≠gN->w5.1[x]?=wy.1[x]?:=fun x hx=>by rw[x0.out];exact jG gN _ _ wy x hx
   have b3:Row w5 A 48 #[Ao Ar f,V (M ⟨gN,0,I⟩) n cN,V a2 zl c2,V (M ⟨a0,0,I⟩) m1 b0]:=(o5 A (by omega)).trans f3;have b4:Row w5 D 48 #[Ao Ar 0,V I 0 0,V I 0 0,V I 0 0]:=(o5 D (by omega)).trans i4;have v0:=A0 a3.out a0 rfl;have O5:H (w5.ownsRow w1.1.size 31 10 (V (M ⟨a0,0,I⟩) m1 b0) m1 (cL 10 (fun i q=>if i<a7 then cy i q else cy (i+1) q) m1)):=vO (vO a3.out sy (a1.out.block a0 v0.2)) (by omega) (o5 a0 (by omega));have u2:H (Rf w5 (fun b=>b<wx.1.size\/b=x6) (qH N1 S1) (V va N1 vc)/\Rf w5 (fun b=>b<wx.1.size\/b=x6) (qI M1 Y1) (V sa M1 sc)):=⟨v2.out.1.turn (by omega) (fun b hb _=>o5 b (fun e=>hb (.inl (by omega)))),v2.out.2.turn (by omega) (fun b hb _=>o5 b (fun e=>hb (.inl (by omega))))⟩;obtain⟨cs,l4,n4,y4,j3⟩:=jKa u2.out.2;have KC:H ((sa=I->M1=0)/\(∀ b,sa=M b->∀ j u,(cL 10 cs M1)[j]?=M u->w5.cell? (b.add j)=M u)/\∀ i q,i<M1->q<10->Rf w5 (fun b=>b<wx.1.size\/b=x6) (syD (Y1 i) q) (cs i q)):=⟨l4,n4,j3⟩;have s4:H (w1.1.size<=w5.1.size):=by have:=v0;show _<=_;omega
   have v3:H (∀ u∈cL 10 cs M1,u.oneCell'=Aw):=fun u hu=>by obtain⟨i,q,hi,hq,rfl⟩:=jAx (by omega) hu;exact jCc (j3 i q hi hq).rd
   have x3:=b3.cell 3;simp at x3;have o1:H (Row w5 A 48 #[Ao Ar f,V (M ⟨gN,0,I⟩) n cN,V a2 zl c2,V (M ⟨a0,0,I⟩) m1 b0]):=b3;have p1:H (Row w5 D 48 #[Ao Ar 0,V I 0 0,V I 0 0,V I 0 0]):=b4;have KL:H (w.1.size<=w1.1.size/\w1.1.size<=wx.1.size/\wx.1.size<=wy.1.size/\w5.1.size=wy.1.size/\w1.1.size<=a0/\a0<wx.1.size/\gN<w.1.size/\B<=gN):=⟨by have:=t2.out.size;omega,by omega,sy,s5,v0.1,v0.2,o3.2,o3.1⟩;have s0:H ((∀ x,x≠gN->w5.1[x]?=wy.1[x]?)/\Ab w.1.size w wy):=⟨o5,i3⟩;clear l4 n4 y4 j3 f3 j4 i4 b3 b4 o5 s5 v0 sx sy v2 K6 a3 f1 t0 g3 i3;go_wp2_with (first|(refine C7 (by rfl) 26 _ _ (by rfl) gN (t*3) #[Ao Ar d.i,Ao Ar d.f,V va N1 vc] (by rfl) (by rfl) ?_ Tryz.infoNd (by simp[Aq]) ?_;exact TH.out;rw[<-x0.out])|(refine Bb (by rfl) 26 _ (by rfl) x6 (by rfl) 26 #[Ao Ar d.i,Ao Ar d.f,V va N1 vc] (0,0) _ ?_ Ch (by rfl) Tryz.infoNd ?_;exact R6.out)|(guard_hyp O5;at_builtin;refine(show True->_ from ?_) trivial))
   intro _;refine jAt (by rfl) 59 60 (by rfl) w1.1.size a0 m1 b0 (cL 10 (fun i q=>if i<a7 then cy i q else cy (i+1) q) m1) (by rfl) O5.out sa M1 sc (cL 10 cs M1) (by rfl) KC.out.1 (qB _ _ _) KC.out.2.1 v3.out (by omega) s4.out ?_;intro g7 c7 w6 k3 u0 o2;have f2:Row w6 A 48 #[Ao Ar f,V (M ⟨gN,0,I⟩) n cN,V a2 zl c2,V (M ⟨a0,0,I⟩) m1 b0]:=(u0.block A o1.out.lt (fun e=>by cases e;have h1:=KL.out;omega)).trans o1.out;have f4:Row w6 D 48 #[Ao Ar 0,V I 0 0,V I 0 0,V I 0 0]:=(u0.block D p1.out.lt (fun e=>by cases e;have h1:=KL.out;omega)).trans p1.out;have f5:=f2.cell 3;have r5:=f2.free 3;simp at f5;have s6:=u0.size;have l6:=A0 k3 g7 rfl;obtain⟨w7,r0⟩:=nmH (w6.setCell ⟨A,3,I⟩ (V (M ⟨g7,0,I⟩) (m1+M1) c7));have v4:H (Row w7 A 48 #[Ao Ar f,V (M ⟨gN,0,I⟩) n cN,V a2 zl c2,V (M ⟨g7,0,I⟩) (m1+M1) c7]):=by show Row _ _ _ _;rw[r0.out];exact f2.set 3 _
   have g4:H (Row w7 D 48 #[Ao Ar 0,V I 0 0,V I 0 0,V I 0 0]):=by show Row _ _ _ _;rw[r0.out];exact f4.other _ _ (by omega)
   obtain⟨w8,y0⟩:=nmH (w7.setRow D #[Ao Ar f,V (M ⟨gN,0,I⟩) n cN,V a2 zl c2,V (M ⟨g7,0,I⟩) (m1+M1) c7]);have w4:=rr y0 g4;have KF:H (NtE w8 B n (fun i=>if i=t then ⟨d.i,d.f,N1,S1⟩ else N i) zs (m1+M1) (wyS m1 (QK a7 Y) Y1) gN cN (V a2 zl c2) g7 c7 X9/\Trn w w8 (fun x=>x=gN)/\w.1.size<=g7):=by
    have hL:=KL.out;have r4:∀ x,x≠A->x≠D->w8.1[x]?=w6.1[x]?:=fun x h1 h2=>by
     rw[y0.out,r0.out];exact(Cd _ _ _ _ (fun e=>h2 e)).trans (Cn w6 ⟨A,3,I⟩ x _ (fun e=>h1 e))
    have s8:w8.1.size=w6.1.size:=by rw[y0.out,r0.out];simp
    have p3:∀ x,x<w5.1.size->x≠A->x≠D->x≠a0->w8.1[x]?=w5.1[x]?:=fun x hx h1 h2 h3=>(r4 x h1 h2).trans (u0.block x hx (fun e=>h3 (by injection e)))
    have tw:∀ x,x<w.1.size->x≠gN->w8.1[x]?=w.1[x]?:=fun x hx h1=>(p3 x (by omega) (by omega) (by omega) (by omega)).trans ((s0.out.1 x h1).trans (s0.out.2.block x hx))
    have x4:w1.1.size<=g7/\(g7<wx.1.size\/wy.1.size<=g7):=by rcases o2 with e|e <;> omega
    have old:∀ {dd:Dt} {v:Aj},Rf w (EX gN gW X9) dd v->Rf w8 (EX gN g7 X9) dd v:=fun r=>(r.since (by omega) (fun b hb hl=>tw b hl (fun e=>hb (.inl e)))).mono (fun b k=>by rcases k with k|k|k;exact .inl (.inl k);exact .inr (by omega);exact .inl (.inr (.inr k)))
    have new:∀ {dd:Dt} {v:Aj},Rf w5 (fun b=>b<wx.1.size\/b=x6) dd v->Rf w8 (EX gN g7 X9) dd v:=fun r=>(r.since (by omega) (fun b hb hl=>p3 b hl (by omega) (by omega) (by omega))).mono (fun b k=>by rcases k with k|k|k;exact .inl (.inl (by omega));rcases x4.2 with q|q;exact .inl (.inl (by omega));exact .inr (by omega);exact .inl (.inl (by have:=KX.out b k;omega)))
    have oN:w8.ownsRow B 26 3 (V (M ⟨gN,0,I⟩) n cN) n (cL 3 (fun i q=>if i=t/\0<=q then ([Ao Ar d.i,Ao Ar d.f,V va N1 vc]:List Aj).getD (q-0) O else c1 i q) n):=by
     have h1:=vO z1.out.1 s0.out.2.size (s0.out.2.block gN hL.2.2.2.2.2.2.1);have h2:=qJ (sz:=3) j1 [Ao Ar d.i,Ao Ar d.f,V va N1 vc] 0 wy c1 rfl h1;have e5:w5=wy.setCells gN (t*3) [Ao Ar d.i,Ao Ar d.f,V va N1 vc]:=x0.out;rw[Cp,<-e5] at h2;exact vO h2 (by omega) (p3 gN (by omega) (by omega) (by omega) (by omega))
    refine⟨⟨⟨_,oN,fun i q hi hq=>?_⟩,old KZ.out,⟨_,by have:=vO k3 (Gv s8.symm) (r4 g7 (by omega) (by omega));rw[jI3 10 _ _ _ _ (by omega)] at this;exact jY this (by have:=a5;omega),fun i q hi hq=>?_⟩,by omega⟩,?_,by omega⟩
    .by_cases e:i=t
     .subst e;rw[A6 rfl,A6 ⟨rfl,Bi q⟩];match q,hq with
      | 0,_=>exact Rf.val _
      | 1,_=>exact Rf.val _
      | 2,_=>exact new u2.out.1
     .rw[A5 e,A5 (fun k=>e k.1)];exact old (z1.out.2 i q hi hq)
    .by_cases e:i<m1
     .rw[A6 e,jHa e];exact old (jRj ha n1.out e hq KY.out)
     .rw[A5 e,jG9 e];exact new (KC.out.2.2 (i-m1) q (by omega) hq)
    .exact⟨(jS0 y0.out r0.out u0 x0.out s0.out.2).1,(jS0 y0.out r0.out u0 x0.out s0.out.2).2.1,(jS0 y0.out r0.out u0 x0.out s0.out.2).2.2,by omega,fun x hx hn=>tw x hx hn⟩
   clear k3 u0 o2 f2 f4 s6 l6 KC u2 s0 KL O5 z1 v3 RG TH o1 p1;go_wp2_with (first|(rw[<-r0.out];refine Bb (by rfl) 48 _ (by rfl) A (by rfl) 48 #[Ao Ar f,V (M ⟨gN,0,I⟩) n cN,V a2 zl c2,V (M ⟨g7,0,I⟩) (m1+M1) c7] (0,0) _ ?_ Bp (by rfl) Tryz.infoNt ?_;exact v4.out)|(refine Bw (by rfl) 48 _ _ (by rfl) D #[Ao Ar f,V (M ⟨gN,0,I⟩) n cN,V a2 zl c2,V (M ⟨g7,0,I⟩) (m1+M1) c7] (by rfl) (by rfl) 48 #[Ao Ar 0,V I 0 0,V I 0 0,V I 0 0] ?_ Tryz.infoNt rfl (by simp[Aq]) ?_;exact g4.out;rw[<-y0.out]))
   exact B7 (v:=Ai #[Ao Ar f,V (M ⟨gN,0,I⟩) n cN,V a2 zl c2,V (M ⟨g7,0,I⟩) (m1+M1) c7]) (Ck Tryz.results138 _ _ D 48 _ (0,0) _ (by rfl) w4.out Bp (by rfl) Tryz.infoNt) rfl ⟨_,_,rfl,KF.out⟩
  .intro q9 m3 L a9 W S o0;match q9,m3 with
   | 0,_|2,_|4,_|8,_|9,_|10,_|13,_=>
    obtain⟨x6,va,vc,sa,sc,rfl,hf⟩:=o0;simp only[knT,kn,knN] at S;refine jB rfl (fun _=>rfl) fun K hK=>?_
    try simp only[S,jJ]
    go_simp
    exact hK _ _ ⟨x6,va,vc,sa,sc,(by simp only[Nat.reduceBEq,Bh,Bq,jJ,S]),hf⟩
   | 1,_=>
    obtain⟨x6,va,vc,sa,sc,rfl,h0,h1,h2,h3,h4⟩:=o0;obtain⟨d0,e1,e7,p0,-⟩:=S;have x1:=(f1.out.below h0 f1.out.lt).cell 1;simp at x1;refine jB rfl (fun _=>rfl) fun K hK=>?_
    simp only[d0,jJ];go_simp
    exact hK _ _ ⟨x6,va,vc,sa,sc,(by simp only[Nat.reduceBEq,Bh,Bq,jJ,d0,e7]),h0,h1,(ab p0),(ab e7),(ab e7)⟩
   | 3,_=>
    obtain⟨x6,va,vc,sa,sc,rfl,h0,h1,h2,h3,h4⟩:=o0;obtain⟨d2,e3,e7,p0,-⟩:=S;have x2:=(t0.out.below h0 t0.out.lt).cell 2;simp at x2;rw[Ht.out] at x2;refine jB rfl (fun _=>rfl) fun K hK=>?_
    simp only[d2,jJ];go_simp
    exact hK _ _ ⟨x6,va,vc,sa,sc,(by simp only[Nat.reduceBEq,Bh,Bq,jJ,d2,e7]),h0,h1,(ab p0),(ab e7),(ab e7)⟩
   | 5,_=>
    obtain⟨x6,va,vc,sa,sc,rfl,h0,h1,h2,h3,h4⟩:=o0;obtain⟨d4,e5,e7,p0,-⟩:=S;refine jB rfl (fun _=>rfl) fun K hK=>?_
    simp only[d4,jJ];refine Gu 26 _ rfl gN (t*3) (by rfl) [Ao Ar d.i,Ao Ar d.f,V an d.n cn] _ (RG.out W h0) Ch (by rfl) Tryz.infoNd ?_;exact hK _ _ ⟨x6,va,vc,sa,sc,(by simp[Act.put,jJ,d4]),h0,h1,(ab p0),(ab e7),(ab e7)⟩
   | 6,_=>
    obtain⟨x6,va,vc,sa,sc,rfl,h0,h1,h2,h3,h4⟩:=o0;obtain⟨e6,e7,p0,-⟩:=S;refine jB rfl (fun _=>rfl) fun K hK=>?_
    refine Fv 31 _ rfl X (by rfl) 31 (syC y (V a9 y.p.m c9)) (0,0) _ (t0.out.below h0 t0.out.lt) Ci (by rfl) Tryz.infoSy ?_;exact hK _ _ ⟨x6,va,vc,sa,sc,(by simp[Act.put,jJ]),h0,h1,(ab p0),(ab e7),(ab e7)⟩
   | 7,_=>
    obtain⟨x6,va,vc,sa,sc,rfl,h0,h1,h2,h3,h4⟩:=o0;obtain⟨d5,d6,e7,e8,e9,t1,p0,j0,-⟩:=S;refine jB rfl (fun _=>rfl) fun K hK=>?_
    simp only[d5,d6,jJ];go_simp
    refine Ax (KH.out W h0) ?_;rintro e w9 ⟨va,vc,sa,sc,rfl,r1,r2,b9,_⟩;exact hK _ _ ⟨x6,va,vc,sa,sc,(by simp only[Nat.reduceBEq,Bh,Bq,jJ,jIo,d5,d6,e8,e9,t1,j0]),(jA h0 b9),(fun k0 k1=>by have q:=h1 (show L 11=Aw from k0) (show L 12=Av from k1);exact⟨q.1.below b9 q.1.lt,q.2⟩),(ab p0),(fun k0 k1=>⟨r1.mono (fun b k=>Bu k h0.size),r2.mono (fun b k=>Bu k h0.size)⟩),(fun k0 k1=>by have q:=(h1 (show L 11=Aw from k1) p0).1.lt;have hs:=h0.size;exact⟨r1.mono (fun b k=>by rcases k with k|k <;> omega),r2.mono (fun b k=>by rcases k with k|k <;> omega)⟩)⟩
   | 11,_=>
    obtain⟨x6,va,vc,sa,sc,rfl,h0,h1,h2,h3,h4⟩:=o0;obtain⟨n0,p0,-⟩:=S;refine jB rfl (fun _=>rfl) fun K hK=>?_
    go_simp
    exact hK _ _ ⟨W.1.size,va,vc,sa,sc,(by simp only[Nat.reduceBEq,Bh,Bq,jJ]),(h0.alloc h0.size _),(fun k0 k1=>⟨Row.new W _ _,h0.size⟩),(ab p0),(fun _=>nf),(fun k0 k1=>by have q:=h3 (show L 7=Aw from k0) n0;exact⟨(q.1.since (by simp) (fun b _ hl=>((Az W.1.size W).alloc (Ay _) _).block b hl)).mono (fun b k=>k.elim .inl (fun k=>.inr (by omega))),(q.2.since (by simp) (fun b _ hl=>((Az W.1.size W).alloc (Ay _) _).block b hl)).mono (fun b k=>k.elim .inl (fun k=>.inr (by omega)))⟩)⟩
   | 12,_=>
    obtain⟨x6,va,vc,sa,sc,rfl,h0,h1,h2,h3,h4⟩:=o0;obtain⟨d7,d9,q0,p0,-⟩:=S;obtain⟨r6,l6⟩:=h1 q0 p0;have q4:=h4 d7 q0;refine jB rfl (fun _=>rfl) fun K hK=>?_
    simp only[q0,d9,jJ];refine wp_store_row 26 _ _ rfl x6 #[Ao Ar d.i,Ao Ar d.f,V va N1 vc] (by rfl) (by rfl) 26 #[Ao Ar 0,Ao Ar 0,V I 0 0] r6 Tryz.infoNd rfl (by simp[Aq]) ?_;exact hK _ _ ⟨x6,va,vc,sa,sc,(by simp[Act.put,jJ,q0,d9]),(jF h0 l6 _),(fun _=>nf),(fun k0=>⟨r6.row,l6⟩),(fun _=>ba q0),(fun k0 k1=>⟨q4.1.setRow (.inr rfl) _,q4.2.setRow (.inr rfl) _⟩)⟩
   | n9+14,h=>exact Bo h (by omega)
 .intro q9 m3 L a9 W S o0;match q9,m3 with
  | 1,_|3,_|6,_|8,_|9,_|12,_=>
   obtain⟨m0,c0,f0,i0,a0,b0,rfl,hf⟩:=o0;simp only[knT,kn,knN] at S;refine jB rfl (fun _=>rfl) fun K hK=>?_
   try simp only[S,jJ]
   go_simp
   exact hK _ _ ⟨m0,c0,f0,i0,a0,b0,(by simp only[Nat.reduceBEq,Bh,Bq,jJ,S]),hf⟩
  | 0,_=>
   obtain⟨m0,c0,f0,i0,a0,b0,rfl,h0,h1,h2,h3,h4,h5⟩:=o0;obtain⟨e0,e5,n0,j0,-⟩:=S;have hb:=h0 j0;refine jB rfl (fun _=>rfl) fun K hK=>?_
   go_simp
   exact hK _ _ ⟨W.1.size,c0,f0,i0,a0,b0,(by simp only[Nat.reduceBEq,Bh,Bq,jJ,jIo,e5,n0]),(fun k0=>hb.alloc hb.size _),(fun k0 k1=>Cc W #[] 0 hb.size (by decide) rfl),(ab e5),(ab n0),h4,(ab j0)⟩
  | 2,_=>
   obtain⟨m0,c0,f0,i0,a0,b0,rfl,h0,h1,h2,h3,h4,h5⟩:=o0;obtain⟨d1,e2,e5,n0,j0,-⟩:=S;have hb:=h0 j0;have x3:=(RA.out.below hb RA.out.lt).cell 3;simp at x3;refine jB rfl (fun _=>rfl) fun K hK=>?_
   simp only[d1,jJ];go_simp
   exact hK _ _ ⟨m0,c0,f0,i0,a0,b0,(by simp only[Nat.reduceBEq,Bh,Bq,jJ,d1,e5,n0]),h0,h1,(ab e5),(ab n0),h4,(ab j0)⟩
  | 4,_=>
   obtain⟨m0,c0,f0,i0,a0,b0,rfl,h0,h1,h2,h3,h4,h5⟩:=o0;obtain⟨d2,d3,e4,e5,n0,j0,-⟩:=S;refine jB rfl (fun _=>rfl) fun K hK=>?_
   simp only[d2,d3,jJ];refine jPa 15 16 rfl gW m cW a7 (by rfl) (by rfl) (by omega) ?_;exact hK _ _ ⟨m0,c0,f0,i0,a0,b0,(by simp[Act.put,jJ,d2,d3]),h0,h1,(ab e5),(ab n0),h4,(ab j0)⟩
  | 5,_=>
   obtain⟨m0,c0,f0,i0,a0,b0,rfl,h0,h1,h2,h3,h4,h5⟩:=o0;obtain⟨d0,d4,e5,n0,j0,-⟩:=S;have hb:=h0 j0;have q1:=h1 d0 e5;have oW:=jE z3.out hb;refine jB rfl (fun _=>rfl) fun K hK=>?_
   simp only[d0,d4,jJ];refine QH 13 17 rfl w1.1.size m0 0 0 [] (by rfl) q1 (M ⟨gW,0,I⟩) a7 cW (cL 10 cy a7) (by rfl) (fun e=>by cases e) (qB _ _ _) (fun b e j u hu=>by cases e;exact u3.out W oW 0 a7 (by omega) j u (by rw[jCv];exact hu)) w3.out (by omega) hb.size ?_;intro c0 f0 w9 ho hg _;exact hK _ _ ⟨m0,c0,f0,i0,a0,b0,(by simp[Act.put,jJ,d0,d4]),(fun k0=>hb.grown hg hb.size (fun k e=>by cases e;exact(A0 q1 m0 rfl).1)),(fun _=>nf),(fun k0 k1=>by simpa using ho),(ab n0),h4,(ab j0)⟩
  | 7,_=>
   obtain⟨m0,c0,f0,i0,a0,b0,rfl,h0,h1,h2,h3,h4,h5⟩:=o0;obtain⟨d6,e7,t1,n0,j0,-⟩:=S;have hb:=h0 j0;have x3:=(RA.out.below hb RA.out.lt).cell 3;simp at x3;refine jB rfl (fun _=>rfl) fun K hK=>?_
   simp only[d6,jJ];go_simp
   exact hK _ _ ⟨m0,c0,f0,i0,a0,b0,(by simp only[Nat.reduceBEq,Bh,Bq,jJ,d6,t1,n0]),h0,h1,h2,(ab n0),(ab t1),(ab j0)⟩
  | 10,_=>
   obtain⟨m0,c0,f0,i0,a0,b0,rfl,h0,h1,h2,h3,h4,h5⟩:=o0;obtain⟨d7,d9,t1,n0,j0,-⟩:=S;have hb:=h0 j0;refine jB rfl (fun _=>rfl) fun K hK=>?_
   simp only[d7,d9,jJ];refine jG5 20 22 rfl gW m cW a8 (by rfl) (by rfl) (by omega) m4 ?_;intro i0 p4;exact hK _ _ ⟨m0,c0,f0,i0,a0,b0,(by simp[Act.put,jJ,d7,d9]),h0,h1,h2,(ab n0),(fun k0=>p4),(ab j0)⟩
  | 11,_=>
   obtain⟨m0,c0,f0,i0,a0,b0,rfl,h0,h1,h2,h3,h4,h5⟩:=o0;obtain⟨d0,d5,s1,n0,j0,-⟩:=S;have hb:=h0 j0;have q2:=h2 d5 n0;have oW:=jE z3.out hb;have q4:=h4 s1;refine jB rfl (fun _=>rfl) fun K hK=>?_
   simp only[d5,s1,jJ];refine QH 18 23 rfl w1.1.size c0 a7 f0 (cL 10 cy a7) (by rfl) q2 (M ⟨gW,i0,I⟩) (m-a8) (cW-a8) (cL 10 (fun i q=>cy (i+a8) q) (m-a8)) (by rfl) (fun e=>by cases e) (qB _ _ _) (fun b e j u hu=>?_) (fun u hu=>?_) (by have:=H8.out;omega) hb.size ?_
   .cases e;rcases q4 with q4|q4
    .have:=(Ca.1 hu).1
     rw[qB] at this;omega
    .rw[q4];exact u3.out W oW a8 (m-a8) (by omega) j u hu
   .obtain⟨i,q,hi,hq,rfl⟩:=jAx (by omega) hu;exact n2.out _ q (by have:=H8.out;omega) hq
   intro a0 b0 w9 ho hg _;rw[H9.out];exact hK _ _ ⟨m0,c0,f0,i0,a0,b0,(by simp[Act.put,jJ,d5,s1]),(fun k0=>hb.grown hg hb.size (fun k e=>by cases e;exact(A0 q2 c0 rfl).1)),(fun _=>ba d5),(fun _=>nf),(fun k0=>cutE ha H8.out n1.out ho),h4,(ab j0)⟩
  | 13,_=>
   obtain⟨m0,c0,f0,i0,a0,b0,rfl,h0,h1,h2,h3,h4,h5⟩:=o0;obtain⟨d0,d5,s1,q0,k4,j0,-⟩:=S;have hb:=h0 j0;have q3:=h3 q0;have qA:=RA.out.below hb RA.out.lt;have fr:=qA.free 3;have x3:=qA.cell 3;simp at x3;refine jB rfl (fun _=>rfl) fun K hK=>?_
   simp only[k4,q0,jJ];go_simp
   exact hK _ _ ⟨m0,c0,f0,i0,a0,b0,(by simp only[Nat.reduceBEq,Bh,d0,d5,s1,q0,k4,jJ]),nf,(fun _=>ba d5),(fun _=>ba q0),(fun k0=>jK q3 (jP W A 3 _) (fun x e=>by cases e;have:=(A0 q3 a0 rfl).1;show a0≠A;omega)),h4,(fun k0=>⟨(Trn.ofBelow _ hb).trans (Trn.set W 3 _ rfl),qA.set 3 _⟩)⟩
  | n9+14,h=>exact Bo h (by omega)
theorem NtE.laterG {w w':Ad} {B n:Nat} {N:Nat->Nd} {zs:List Int} {m m':Nat} {Y Y':Nat->Sy} {g1 c1 g3 c3 g c:Nat} {v2:Aj} {cc:Nat->Nat->Aj} {X:Nat->Prop} (h:NtE w B n N zs m Y g1 c1 v2 g3 c3 X) (hs:w.1.size<=w'.1.size) (ht:∀ x,x<w.1.size->x≠g3->w'.1[x]?=w.1[x]?) (ho:w'.ownsRow B 31 10 (V g m' c) m' (cL 10 cc m')) (hg:g=g3\/w.1.size<=g) (hr:∀ i q,i<m'->q<10->Rf w (EX g1 g3 X) (syD (Y' i) q) (cc i q)\/(g1<w->Rf w' (EX g1 g X) (syD (Y' i) q) (cc i q))):NtE w' B n N zs m' Y' g1 c1 v2 g c X:=by
 have up:∀ {d:Dt} {v:Aj},Rf w (EX g1 g3 X) d v->Rf w' (EX g1 g X) d v:=fun r=>(r.since hs (fun b hb hl=>ht b hl (fun e=>hb (.inr (.inl e))))).mono (fun b k=>by
  rcases k with k|k|k
  .exact .inl (.inl k)
  .rcases hg with e|e
   .exact .inl (.inr (.inl (k.trans e)))
   .exact .inr (by omega)
  .exact .inl (.inr (.inr k)))
 obtain⟨cn,h1,h2⟩:=h.o;have l1:=A0 h1 g1 rfl;refine⟨⟨cn,vO h1 hs (ht g1 l1.2 h.d),fun i q hi hq=>up (h2 i q hi hq)⟩,up h.z,⟨cc,ho,fun i q hi hq=>(hr i q hi hq).elim up (fun k=>k l1.2)⟩,fun e=>?_⟩;rcases hg with k|k
 .exact h.d (e.trans k)
 .omega
structure ApR (B m gW:Nat) (y:Sy) (cy:Nat->Nat->Aj) (ga ca g c:Nat) (w0 W:Ad) (F:Nat->Prop):Prop where
 o:W.ownsRow B 31 10 (V g (m+1) c) (m+1) (cL 10 (fun i q=>if i=m then (syC y (V ga y.p.m ca)).toList.getD q O else cy i q) (m+1))
 x:jI W w0 ga y.p.m ca y.p.S
 t:Trn w0 W F
 g:(g=gW\/w0.1.size<=g)/\g≠ga
 l:w0.1.size<=ga/\gW<w0
theorem ApR.mk' {B m gW:Nat} {y:Sy} {cy:Nat->Nat->Aj} {ga ca g c:Nat} {w0 W w':Ad} (hb:Ab w0 w0 W) (ot:jI W w0 ga y.p.m ca y.p.S) (ho:w'.ownsRow B 31 10 (V g (m+1) c) (m+1) (cL 10 cy m++(syC y (V ga y.p.m ca)).toList)) (hg:W.grownBy w' (M gW)) (a0:g=gW\/g=W.1.size) (lW:gW<w0):ApR B m gW y cy ga ca g c w0 w' (fun x=>x=gW):=by
 have la:=A0 ot ga rfl;have hs:=hb.size;rw[jEo 10 cy m _ (by omega) rfl] at ho;refine⟨ho,jK ot hg (fun x e=>by cases e;show ga≠gW;omega),(Trn.ofBelow _ hb).trans ⟨hg.os,hg.tape,hg.output,hg.size,fun x hx hn=>hg.block x hx (fun e=>hn (by injection e))⟩,⟨?_,?_⟩,la.1,lW⟩
 .rcases a0 with e|e
  .exact .inl e
  .exact .inr (by omega)
 .rcases a0 with e|e <;> omega
theorem ApR.set {B m gW:Nat} {y:Sy} {cy:Nat->Nat->Aj} {ga ca g c A:Nat} {w0 W:Ad} (h:ApR B m gW y cy ga ca g c w0 W (fun x=>x=gW)) (hA:A≠gW/\A<w0) (v:Aj) (i:Nat):ApR B m gW y cy ga ca g c w0 (W.setCell (Q A i I) v) (fun x=>x=gW\/x=A):=by
 have hl:=h.l;have hg:=h.g;refine⟨jK h.o (jP W A i v) (fun x e=>by cases e;show g≠A;rcases hg.1 with e|e <;> omega),jK h.x (jP W A i v) (fun x e=>by cases e;show ga≠A;omega),(h.t.mono (fun _=>.inl)).trans (Trn.set W i v (.inr rfl)),hg,hl⟩
theorem ApR.cells {B m gW gN:Nat} {Y:Nat->Sy} {y:Sy} {cy:Nat->Nat->Aj} {ga ca g c:Nat} {w w0 W w8:Ad} {F X:Nat->Prop} (h:ApR B m gW y cy ga ca g c w0 W F) (hY:∀ i q,i<m->q<10->Rf w (EX gN gW X) (syD (Y i) q) (cy i q)) (ot:jI w8 w0 ga y.p.m ca y.p.S) (hw:w.1.size<=w0.1.size) (hX:∀ b,X b->b<w.1.size) {i q:Nat} (hi:i<m+1) (hq:q<10):Rf w (EX gN gW X) (syD (wyS m Y (fun _=>y) i) q) (if i=m then (syC y (V ga y.p.m ca)).toList.getD q O else cy i q)\/(gN<w->Rf w8 (EX gN g X) (syD (wyS m Y (fun _=>y) i) q) (if i=m then (syC y (V ga y.p.m ca)).toList.getD q O else cy i q)):=by
 by_cases e:i=m
 .right
  intro hN;rw[A6 e,jG9 (by omega)];have hg:=h.g;have hl:=h.l;match q,hq with
  | 0,_|1,_|2,_|3,_|4,_|5,_|6,_|7,_|8,_=>exact Rf.val _
  | 9,_=>exact Rf.of_ow (xQ (F:=fun x=>x=ga) ot (fun x e=>by cases e;rfl)) (fun x hx k=>by have a0:x=ga:=hx;rcases k with k|k|k;omega;omega;have:=hX x k;omega)
 .left
  rw[A5 e,jHa (by omega)];exact hY i q (by omega) hq
theorem jK5 (B:Nat) (f:Int) (n:Nat) (zs:List Int) (T:Ns) (gN cN:Nat) (a2:OA) (c2 gW cW a7:Nat) (X9:Nat->Prop) (w:Ad) (h:NtE w B n T.N zs T.m T.Y gN cN (V a2 zs.length c2) gW cW X9) (hB:B<=w) (hX:∀ b,X9 b->b<w.1.size) (hG:NsG f n zs T) (ha:a7<T.m):Ak prog 138 #[ntV f (V gN n cN) (V a2 zs.length c2) (V gW T.m cW),(a7:Int)] w fun r w'=>∃ g c,r=Ae (ntV f (V gN n cN) (V a2 zs.length c2) (V (Q g 0 I) (hrT n zs T a7).m c))/\NtE w' B n (hrT n zs T a7).N zs (hrT n zs T a7).m (hrT n zs T a7).Y gN cN (V a2 zs.length c2) g c X9/\Trn w w' (fun x=>x=gN\/x=gW)/\w.1.size<=g:=by
 have b0:=hG.n10;unfold hrT;by_cases ht:ToP n zs (T.Y a7).t
 .have a0:(T.Y a7).t.toNat<n:=by have:=ht.1;omega
  have hd:=hG.nd a0;rw[A6 ht];refine(jH8 B f n T.N zs T.m T.Y gN cN a2 c2 gW cW a7 (T.Y a7) X9 (T.Y a7).t.toNat (T.N (T.Y a7).t.toNat) w h hB b0.2.2.1 (by omega) (by omega) ha rfl ht a0 rfl (show (T.Y a7).t=_ by have:=ht.1;omega) (hG.nh a0 (hG.y a7 ha)) (jOj hd.1) hX).mono ?_;rintro r w' ⟨g,c,rfl,h1,h2,h3⟩;exact⟨g,c,rfl,h1,h2.mono (fun _=>.inl),h3⟩
 .rw[A5 ht];refine(jH9 B f n T.N zs T.m T.Y gN cN a2 c2 gW cW a7 (T.Y a7) X9 w h hB b0.2.2.1 (by omega) (by omega) ha rfl ht).mono ?_;rintro r w' ⟨g,c,rfl,h1,h2,h3⟩;exact⟨g,c,rfl,h1,Trn.ofBelow _ h2,h3⟩
theorem jNd (B:Nat) (f:Int) (n:Nat) (zs:List Int) (T:Ns) (m:Nat) (gN cN:Nat) (a2:OA) (c2 gW cW:Nat) (X9:Nat->Prop) (a7:Nat) (y:Sy) (s:BA) (v9:Aj) (w:Ad) (Hm:T.m=m) (h:NtE w B n T.N zs m T.Y gN cN (V a2 zs.length c2) gW cW X9) (hB:B<=w) (hX:∀ b,X9 b->b<w.1.size) (hG:NsG f n zs T) (ha:a7<m):Ak prog 70 #[ntV f (V gN n cN) (V a2 zs.length c2) (V gW m cW),Ai (opC ⟨0,(a7:Int),y,s⟩ v9)] w fun r w'=>∃ g c,r=Ae (Ah #[ntV f (V gN n cN) (V a2 zs.length c2) (V (Q g 0 I) ((hrT n zs T a7).m) c),Aw])/\Trn w w' (fun x=>x=gN\/x=gW)/\NtE w' B n (hrT n zs T a7).N zs ((hrT n zs T a7).m) (hrT n zs T a7).Y gN cN (V a2 zs.length c2) g c X9/\(g=gW\/w.1.size<=g):=by
 have hm:m<=3000:=by rw[<-Hm];exact hG.n10.2.2.1
 obtain⟨zl,f0⟩:=nnH zs.length;obtain⟨A,HA⟩:=nmH w.1.size;obtain⟨C,HC⟩:=nmH (w.1.size+1);obtain⟨D,HD⟩:=nmH (w.1.size+1+1);obtain⟨w0,d0⟩:=nmH (((w.alloc (J #[f,V gN n cN,V a2 zs.length c2,V gW m cW] 48)).alloc (J (opC ⟨0,(a7:Int),y,s⟩ v9) 50)).alloc (J #[(),V I 0 0,V I 0 0,V I 0 0] 48));have RA:=zS d0 HA;have RC:=xV d0 HC;have RD:=zE d0 HD;have b0:=bl3 d0;have c0:=hd b0;have lA:w.1.size<=A/\A<C/\C<D/\D<w0:=⟨by have:=HA.out;omega,by have h1:=HA.out;have h2:=HC.out;omega,by have h1:=HC.out;have h2:=HD.out;omega,RD.out.lt⟩;have KE:=hd h;have KZ:=hd h.z;have m0:B<=w0:=by have:=b0.size;omega
 obtain⟨x0,x1⟩:=RC.c2 0 1;have x3:=RA.cell 3;simp at x0 x1 x3;have i0:H (CS 43 #[(a7:Int),(),((m:Int)-1:Int)] w0 Aw):=by
  have:=jN (a7:Int) 0 ((m:Int)-1) w0
  rw[show inB (a7:Int) 0 ((m:Int)-1)=Aw from Bf (by omega)] at this;exact this
 have e0:H (Ak prog 138 #[Ai #[f,V gN n cN,V a2 zs.length c2,V gW m cW],(a7:Int)] w0 fun r w'=>∃ g c,r=Ae (ntV f (V gN n cN) (V a2 zs.length c2) (V (Q g 0 I) (hrT n zs T a7).m c))/\NtE w' B n (hrT n zs T a7).N zs (hrT n zs T a7).m (hrT n zs T a7).Y gN cN (V a2 zs.length c2) g c (fun b=>X9 b\/(w.1.size<=b/\b<w0.1.size))/\Trn w0 w' (fun x=>x=gN\/x=gW)/\w0.1.size<=g):=by
  subst Hm;exact jK5 B f n zs T gN cN a2 c2 gW cW a7 _ w0 (h.grow b0) m0 (fun b k=>by rcases k with k|k;have:=hX b k;have:=b0.size;omega;exact k.2) hG ha
 have n0:gN<w/\gW<w:=⟨h.lt.1.2,h.lt.2.2⟩;obtain⟨T1,h0⟩:=nnH (hrT n zs T a7);rw[h0.out] at e0 |-;rw[f0.out] at e0;rw[f0.out] at RA d0 KE KZ |-;go_enter func70,Gl
 go_upto_region 1 with fail
 rw[<-d0.out,<-HD.out,<-HC.out,<-HA.out];go_wp2_with fail
 refine CM i0.out fun w9 k0=>?_
 obtain rfl:=k0.symm;go_wp2_with (refine Bb rfl 48 _ rfl A rfl 48 #[f,V gN n cN,V a2 zl c2,V gW m cW] (0,0) _ ?_ Bp rfl Tryz.infoNt ?_;exact RA)
 refine Ax e0.out ?_;rintro r w1 ⟨g,c,rfl,e1,t1,lg⟩;have g0:=hd ((t1.block D RD.lt (fun e=>by rcases e with e|e <;> omega)).trans RD.out);obtain⟨w8,a0⟩:=nmH (w1.setRow D #[f,V gN n cN,V a2 zl c2,V (Q g 0 I) T1.m c]);have j0:=rr a0 g0;have KF:H (Trn w w8 (fun x=>x=gN\/x=gW)/\NtE w8 B n T1.N zs T1.m T1.Y gN cN (V a2 zl c2) g c X9/\(g=gW\/w.1.size<=g)):=by
  have s8:w8.1.size=w1.1.size:=by rw[a0.out];simp
  have t8:∀ x,x≠D->w8.1[x]?=w1.1[x]?:=fun x hx=>by rw[a0.out];exact Cd _ _ _ _ hx
  refine⟨⟨by rw[a0.out];exact t1.os.trans c0.os,by rw[a0.out];exact t1.tape.trans c0.tape,by rw[a0.out];exact t1.output.trans c0.output,by have:=t1.size;have:=c0.size;omega,fun x hx hn=>(t8 x (by omega)).trans ((t1.block x (by have:=c0.out.size;omega) hn).trans (c0.out.block x hx))⟩,?_,.inr (by have:=c0.size;omega)⟩;refine(e1.turn (by omega) (fun b hb hn=>t8 b (fun e=>?_))).less (fun b k=>.inl k);rcases hn with hn|hn|hn
  .exact hn (.inr (by omega))
  .omega
  .omega
 go_wp2_with (refine Bw rfl 48 _ _ rfl D #[f,V gN n cN,V a2 zl c2,V (M ⟨g,0,I⟩) T1.m c] rfl rfl 48 #[(),V I 0 0,V I 0 0,V I 0 0] ?_ Tryz.infoNt rfl (by simp[Aq]) ?_;exact g0;rw[<-a0.out])
 obtain⟨p0,p1,p2,p3⟩:=j0.c4 0 1 2 3;simp at p0 p1 p2 p3;exact B7 (v:=Ah #[Ai #[f,V gN n cN,V a2 zl c2,V (Q g 0 I) T1.m c],Aw]) (by simp[results,Tryz.results70,go_sem,p0,p1,p2,p3]) rfl ⟨_,_,rfl,KF⟩
theorem jK4 (B:Nat) (f:Int) (n:Nat) (N:Nat->Nd) (zs:List Int) (m:Nat) (Y:Nat->Sy) (gN cN:Nat) (a2:OA) (c2 gW cW:Nat) (X9:Nat->Prop) (a7:Nat) (y y9:Sy) (s:BA) (v9:Aj) (w:Ad) (h:NtE w B n N zs m Y gN cN (V a2 zs.length c2) gW cW X9) (hB:B<=w) (hX:∀ b,X9 b->b<w.1.size) (hm:m<=3000) (ha:a7<m) (H9:H (Y a7=y9)) (g1:y9.p.m<=1048576):Ak prog 70 #[ntV f (V gN n cN) (V a2 zs.length c2) (V gW m cW),Ai (opC ⟨1,(a7:Int),y,s⟩ v9)] w fun r w'=>∃ g c,r=Ae (Ah #[ntV f (V gN n cN) (V a2 zs.length c2) (V (Q g 0 I) (m+1) c),Aw])/\Trn w w' (fun x=>x=gN\/x=gW)/\NtE w' B n N zs (m+1) (wyS m Y (fun _=>y9)) gN cN (V a2 zs.length c2) g c X9/\(g=gW\/w.1.size<=g):=by
 obtain⟨zl,y0⟩:=nnH zs.length;obtain⟨A,HA⟩:=nmH w.1.size;obtain⟨C,HC⟩:=nmH (w.1.size+1);obtain⟨D,HD⟩:=nmH (w.1.size+1+1);obtain⟨w0,m0⟩:=nmH (((w.alloc (J #[f,V gN n cN,V a2 zs.length c2,V gW m cW] 48)).alloc (J (opC ⟨1,(a7:Int),y,s⟩ v9) 50)).alloc (J #[(),V I 0 0,V I 0 0,V I 0 0] 48));have RA:=zS m0 HA;have RC:=xV m0 HC;have RD:=zE m0 HD;have b0:=bl3 m0;have o0:=hd b0;have lA:w.1.size<=A/\A<C/\C<D/\D<w0:=⟨by have:=HA.out;omega,by have h1:=HA.out;have h2:=HC.out;omega,by have h1:=HC.out;have h2:=HD.out;omega,RD.out.lt⟩;have KE:=hd h;have KZ:=hd h.z;have r1:B<=w0:=by have:=b0.size;omega
 obtain⟨x0,x1⟩:=RC.c2 0 1;have x3:=RA.cell 3;simp at x0 x1 x3;have a1:H (CS 43 #[(a7:Int),(),((m:Int)-1:Int)] w0 Aw):=by
  have:=jN (a7:Int) 0 ((m:Int)-1) w0
  rw[show inB (a7:Int) 0 ((m:Int)-1)=Aw from Bf (by omega)] at this;exact this
 obtain⟨bb,fb,a9,c9,ea,q0,t9⟩:=zZ h.rdY ha;obtain⟨rfl,rfl⟩:gW=bb/\0=fb:=by simp at ea;exact⟨ea.1,ea.2⟩
 rw[H9.out] at q0 t9;rw[Bt] at q0;obtain⟨cy,j1,n1⟩:=h.y;have KY:H (∀ i q,i<m->q<10->Rf w (EX gN gW X9) (syD (Y i) q) (cy i q)):=n1;have KX:H (∀ b,X9 b->b<w.1.size):=hX;have b1:=hd (jE j1 b0);have w1:gN<w/\gW<w:=⟨h.lt.1.2,h.lt.2.2⟩;have t1:gW<w0:=by have:=b0.size;omega
 have q1:A≠gW/\A<w0:=by omega
 have z0:H (∀ W,Ab w0 w0 W->Ak prog 137 #[Ai (syC y9 (V a9 y9.p.m c9))] W fun e w'=>∃ g c,e=Ae (Ai (syC y9 (V (Q g 0 I) y9.p.m c)))/\jI w' W.1.size (Q g 0 I) y9.p.m c y9.p.S/\Ab W.1.size W w'):=fun W hW=>XO y9 a9 c9 W ((t9.below b0).below hW) g1
 have RG:H (∀ W,Ab w0 w0 W->W.rangeAt gW (a7*10) (syC y9 (V a9 y9.p.m c9)).toList):=fun W hW j v hv=>by
  have:=q0 j v hv
  exact((jA b0 hW).cell (A7 this)).trans this
 have v1:(a7:Int)<(m:Int):=by omega
 rw[y0.out] at RA m0 KE KZ |-;go_enter func70,Gl
 go_upto_region 1 with fail
 rw[<-m0.out,<-HD.out,<-HC.out,<-HA.out];go_wp2_with fail
 refine CM a1.out fun w9 o1=>?_
 obtain rfl:=o1.symm;go_upto_region 10 with fail
 refine JP Tryz.mixed 13 [([],[10,12]),([0],[1,10,12]),([],[8,9,10,12]),([2],[3,8,9,10,12]),([],[8,9,10,12]),([4],[5,8,9,10,12]),([3,5],[8,9,10,12]),([6],[7,8,9,10,12]),([7],[8,9,10,12]),([8],[9,10,12]),([1,8,9],[10,12]),([],[12]),([8,9,10,11],[12])] (by kernel_rfl) (fun L A9 W=>∃ (ga:Nat) (ca:Nat) (f0:Nat) (a0:Nat) (c0:Nat),A9=⟨(List.toArray (α:=Aj) ((ntV f (V gN n cN) (V a2 zl c2) (V gW m cW))::(Ai (opC {k:=1,a:=(a7:Int),y:=y,s:=s} v9))::(Af A)::(Af C)::(Af D)::(Av)::(Aw)::O::O::O::(Af (Q C 1 I))::((a7:Int))::(Af (Q A 3 I))::(V gW m cW)::((m:Int))::(((m:Int)-1:Int))::(Aw)::(Af C)::((1:Int))::(Av)::(Av)::O::O::O::O::O::O::O::(Aw)::(Aw)::(Aw)::(Av)::O::(cX (L 0) (Af (Q A 3 I)) O)::(cX (L 1) (V gW m cW) O)::(cX (L 2) (Af (Q A 3 I)) O)::(cX (L 3) (V gW m cW) O)::(cX (L 4) (Af (Q C 1 I)) O)::(cX (L 5) (a7:Int) O)::(cX (L 6) (Af (Q gW (a7*10) I)) O)::(cX (L 7) (Ai (syC y9 (V a9 y9.p.m c9))) O)::(cX (L 8) (Ai (syC y9 (V ga y9.p.m ca))) O)::(cX (L 9) (V f0 1 1) O)::(cX (L 10) (V a0 (m+1) c0) O)::(cX (L 11) (Af (Q A 3 I)) O)::O::O::O::O::O::O::O::O::O::O::O::O::O::O::O::O::O::O::O::O::O::O::O::O::O::O::O::O::O::O::O::O::O::O::O::O::O::O::O::O::O::O::O::O::O::O::O::O::O::O::[])),[]⟩/\(L 10=Av->Ab w0 w0 W)/\(L 8=Aw->L 10=Av->jI W w0 ga y9.p.m ca y9.p.S)/\(L 9=Aw->L 10=Av->Row W f0 31 (syC y9 (V ga y9.p.m ca))/\w0.1.size<=f0)/\(L 10=Aw->L 12=Av->ApR B m gW y9 cy ga ca a0 c0 w0 W (fun x=>x=gW)/\Row W A 48 #[f,V gN n cN,V a2 zl c2,V gW m cW])/\(L 12=Aw->ApR B m gW y9 cy ga ca a0 c0 w0 W (fun x=>x=gW\/x=A)/\Row W A 48 #[f,V gN n cN,V a2 zl c2,V a0 (m+1) c0])) ?_ ?_ ?_
 .exact⟨0,0,0,0,0,rfl,(fun _=>jD _),(fun h=>by cases h),(fun h=>by cases h),(fun h=>by cases h),(fun h=>by cases h)⟩
 .rintro a9 wx ⟨ga,ca,f0,a0,c0,v0,-,-,-,-,r0⟩;simp only[Nat.reduceLT,Dp,jJ] at v0;subst v0;replace r0:=(r0 rfl)
  obtain⟨q4,qA⟩:=r0;have KQ:=hd q4;have c1:=hd qA;have t0:=hd ((q4.t.block D RD.lt (fun e=>by rcases e with e|e <;> omega)).trans RD.out);obtain⟨w8,j0⟩:=nmH (wx.setRow D #[f,V gN n cN,V a2 zl c2,V a0 (m+1) c0]);have f1:=rr j0 t0;have KF:H (Trn w w8 (fun x=>x=gN\/x=gW)/\NtE w8 B n N zs (m+1) (wyS m Y (fun _=>y9)) gN cN (V a2 zl c2) a0 c0 X9/\(a0=gW\/w.1.size<=a0)):=by
   have s0:=o0.size;have s1:=KQ.t.size;have s8:w8.1.size=wx.1.size:=by rw[j0.out];simp
   have t8:∀ x,x≠D->w8.1[x]?=wx.1[x]?:=fun x hx=>by rw[j0.out];exact Cd _ _ _ _ hx
   have tw:∀ x,x<w.1.size->x≠gW->w8.1[x]?=w.1[x]?:=fun x hx h1=>(t8 x (by omega)).trans ((KQ.out.t.block x (by omega) (fun e=>by rcases e with e|e <;> omega)).trans (o0.out.block x hx))
   have lg:=A0 KQ.o a0 rfl;refine⟨⟨by rw[j0.out];exact KQ.t.os.trans o0.os,by rw[j0.out];exact KQ.t.tape.trans o0.tape,by rw[j0.out];exact KQ.t.output.trans o0.output,by omega,fun x hx hn=>tw x hx (fun e=>hn (.inr e))⟩,?_,by rcases KQ.out.g.1 with e|e;exact .inl e;exact .inr (by omega)⟩;have u1:=JL KQ.x (fun x e hb hl=>t8 _ (by omega));exact KE.laterG (by omega) tw (vO KQ.out.o (by omega) (t8 a0 (by have:=KQ.out.g;omega))) (by have:=KQ.out.g;omega) (fun i q hi hq=>KQ.out.cells KY.out u1 (by omega) KX.out hi hq)
  go_wp2_with (first|(refine Bb rfl 48 _ rfl A rfl 48 #[f,V gN n cN,V a2 zl c2,V a0 (m+1) c0] (0,0) _ ?_ Bp rfl Tryz.infoNt ?_;exact c1)|(refine Bw rfl 48 _ _ rfl D #[f,V gN n cN,V a2 zl c2,V a0 (m+1) c0] rfl rfl 48 #[(),V I 0 0,V I 0 0,V I 0 0] ?_ Tryz.infoNt rfl (by simp[Aq]) ?_;exact t0;rw[<-j0.out]))
  obtain⟨p0,p1,p2,p3⟩:=f1.c4 0 1 2 3;simp at p0 p1 p2 p3;exact B7 (v:=Ah #[Ai #[f,V gN n cN,V a2 zl c2,V a0 (m+1) c0],Aw]) (by simp[results,Tryz.results70,go_sem,p0,p1,p2,p3]) rfl ⟨_,_,rfl,KF⟩
 .intro q9 m1 L a9 W S i0;match q9,m1 with
  | 0,_|2,_|4,_|6,_|11,_=>
   obtain⟨ga,ca,f0,a0,c0,rfl,hf⟩:=i0;simp only[knT,kn,knN] at S;refine jB rfl (fun _=>rfl) fun K hK=>?_
   try simp only[S,jJ]
   go_simp
   exact hK _ _ ⟨ga,ca,f0,a0,c0,(by simp only[Nat.reduceBEq,Bh,Bq,jJ,S]),hf⟩
  | 1,_=>
   obtain⟨ga,ca,f0,a0,c0,rfl,h0,h1,h2,h3,h4⟩:=i0;obtain⟨d0,e1,e0,g0,-⟩:=S;have hb:=h0 e0;have x1:=(RA.below hb RA.lt).cell 3;simp at x1;refine jB rfl (fun _=>rfl) fun K hK=>?_
   simp only[d0,jJ];go_simp
   exact hK _ _ ⟨ga,ca,f0,a0,c0,(by simp only[Nat.reduceBEq,Bh,Bq,jJ,d0,e0]),h0,h1,h2,(ab e0),(ab g0)⟩
  | 3,_=>
   obtain⟨ga,ca,f0,a0,c0,rfl,h0,h1,h2,h3,h4⟩:=i0;obtain⟨d2,e3,e8,e9,e0,g0,-⟩:=S;have hb:=h0 e0;have x1:=(RA.below hb RA.lt).cell 3;simp at x1;refine jB rfl (fun _=>rfl) fun K hK=>?_
   simp only[d2,jJ];go_simp
   exact hK _ _ ⟨ga,ca,f0,a0,c0,(by simp only[Nat.reduceBEq,Bh,Bq,jJ,d2,e8,e9,e0]),h0,(ab e8),(ab e9),(ab e0),(ab g0)⟩
  | 5,_=>
   obtain⟨ga,ca,f0,a0,c0,rfl,h0,h1,h2,h3,h4⟩:=i0;obtain⟨d4,e5,e8,e9,e0,g0,-⟩:=S;have hb:=h0 e0;have x1:=(RC.below hb RC.lt).cell 1;simp at x1;refine jB rfl (fun _=>rfl) fun K hK=>?_
   simp only[d4,jJ];go_simp
   exact hK _ _ ⟨ga,ca,f0,a0,c0,(by simp only[Nat.reduceBEq,Bh,Bq,jJ,d4,e8,e9,e0]),h0,(ab e8),(ab e9),(ab e0),(ab g0)⟩
  | 7,_=>
   obtain⟨ga,ca,f0,a0,c0,rfl,h0,h1,h2,h3,h4⟩:=i0;obtain⟨d6,e7,e8,e9,e0,g0,-⟩:=S;have hb:=h0 e0;refine jB rfl (fun _=>rfl) fun K hK=>?_
   simp only[d6,jJ];refine Gu 31 _ rfl gW (a7*10) rfl (syC y9 (V a9 y9.p.m c9)).toList _ (RG W hb) Ci rfl Tryz.infoSy ?_;exact hK _ _ ⟨ga,ca,f0,a0,c0,(by simp[Act.put,jJ,d6]),h0,(ab e8),(ab e9),(ab e0),(ab g0)⟩
  | 8,_=>
   obtain⟨ga,ca,f0,a0,c0,rfl,h0,h1,h2,h3,h4⟩:=i0;obtain⟨d7,e8,e9,e0,g0,-⟩:=S;have hb:=h0 e0;refine jB rfl (fun _=>rfl) fun K hK=>?_
   simp only[d7,jJ];go_simp
   refine Ax (z0 W hb) ?_;rintro e w9 ⟨ga,ca,rfl,ot,b9⟩;exact hK _ _ ⟨ga,ca,f0,a0,c0,(by simp only[Nat.reduceBEq,Bh,Bq,jJ,d7,e9,e0]),(fun k0=>jA hb b9),(fun k0 k1=>jY ot hb.size),(ab e9),(ab e0),(ab g0)⟩
  | 9,_=>
   obtain⟨ga,ca,f0,a0,c0,rfl,h0,h1,h2,h3,h4⟩:=i0;obtain⟨d8,e9,e0,g0,-⟩:=S;have hb:=h0 e0;refine jB rfl (fun _=>rfl) fun K hK=>?_
   simp only[d8,jJ];go_simp
   exact hK _ _ ⟨ga,ca,W.1.size,a0,c0,(by simp only[Nat.reduceBEq,Bh,Bq,jJ,d8,e0]),(fun k0=>hb.alloc hb.size _),(fun k0 k1=>jI.below (h1 (show L 8=Aw from k0) (show L 10=Av from k1)) ((Az _ _).alloc (Ay _) _)),(fun k0 k1=>⟨Row.new W _ _,hb.size⟩),(ab e0),(ab g0)⟩
  | 10,_=>
   obtain⟨ga,ca,f0,a0,c0,rfl,h0,h1,h2,h3,h4⟩:=i0;obtain⟨d1,d8,d9,e0,g0,-⟩:=S;have hb:=h0 e0;have ot:=h1 d8 e0;have r4:=h2 d9 e0;have oW:=jE b1 hb;refine jB rfl (fun _=>rfl) fun K hK=>?_
   simp only[d1,d9,jJ];refine QH 34 42 rfl B gW m cW (cL 10 cy m) rfl oW f0 1 1 (syC y9 (V ga y9.p.m ca)).toList rfl (fun e=>by cases e) rfl (fun b e j u hu=>by cases e;rw[Addr.add_mid,Bt,r4.1.cell j,<-Gd];exact hu) (by simp[Aq]) (by omega) (By r1 hb.size) ?_;intro a0 c0 w9 ho hg i1;exact hK _ _ ⟨ga,ca,f0,a0,c0,(by simp[Act.put,jJ,d1,d9]),nf,(fun _=>nf),(fun _=>nf),(fun k0 k1=>⟨ApR.mk' hb ot ho hg i1 t1,(RA.below hb RA.lt).keptG hg (by omega)⟩),(ab g0)⟩
  | 12,_=>
   obtain⟨ga,ca,f0,a0,c0,rfl,h0,h1,h2,h3,h4⟩:=i0;obtain⟨d8,d9,n0,u0,g0,-⟩:=S;obtain⟨q3,qA⟩:=h3 n0 g0;have fr:=qA.free 3;have x3:=qA.cell 3;simp at x3;refine jB rfl (fun _=>rfl) fun K hK=>?_
   simp only[u0,n0,jJ];go_simp
   exact hK _ _ ⟨ga,ca,f0,a0,c0,(by simp only[Nat.reduceBEq,Bh,d8,d9,n0,u0,jJ]),(ba n0),(fun _=>ba n0),(fun _=>ba n0),(fun _=>nf),(fun k0=>⟨q3.set q1 _ 3,qA.set 3 _⟩)⟩
  | n9+13,h=>exact Bo h (by omega)
theorem jK3 (B:Nat) (f:Int) (n:Nat) (N:Nat->Nd) (zs:List Int) (m:Nat) (Y:Nat->Sy) (gN cN:Nat) (a2:OA) (c2 gW cW:Nat) (X9:Nat->Prop) (a:Int) (y9:Sy) (s:BA) (a9:OA) (c9:Nat) (w:Ad) (h:NtE w B n N zs m Y gN cN (V a2 zs.length c2) gW cW X9) (hB:B<=w) (hm:m<=3000) (hn:n<=1048576) (hz:zs.length<=1048576) (h0:¬ (y9.f∈zs/\(0<=y9.t/\y9.t<n))):Ak prog 70 #[ntV f (V gN n cN) (V a2 zs.length c2) (V gW m cW),Ai (opC ⟨2,a,y9,s⟩ (V a9 y9.p.m c9))] w fun r w'=>∃ g c mm,r=Ae (Ah #[ntV f (V gN n cN) (V a2 zs.length c2) (V (Q g 0 I) mm c),Av])/\Trn w w' (fun x=>x=gN\/x=gW):=by
 obtain⟨zl,d0⟩:=nnH zs.length;obtain⟨A,HA⟩:=nmH w.1.size;obtain⟨C,HC⟩:=nmH (w.1.size+1);obtain⟨D,HD⟩:=nmH (w.1.size+1+1);obtain⟨w0,c0⟩:=nmH (((w.alloc (J #[f,V gN n cN,V a2 zs.length c2,V gW m cW] 48)).alloc (J (opC ⟨2,a,y9,s⟩ (V a9 y9.p.m c9)) 50)).alloc (J #[(),V I 0 0,V I 0 0,V I 0 0] 48));have RA:=zS c0 HA;have RC:=xV c0 HC;have RD:=zE c0 HD;have b0:=bl3 c0;have f0:H (Ab w w w0):=b0;have lA:w.1.size<=A/\A<C/\C<D/\D<w0:=⟨by have:=HA.out;omega,by have h1:=HA.out;have h2:=HC.out;omega,by have h1:=HC.out;have h2:=HD.out;omega,RD.out.lt⟩;have KE:H (NtE w B n N zs m Y gN cN (V a2 zs.length c2) gW cW X9):=h;have KZ:H (Rf w (EX gN gW X9) (inD zs) (V a2 zs.length c2)):=h.z;have n0:B<=w0:=by have:=b0.size;omega
 obtain⟨x0,x1⟩:=RC.c2 0 1;have x3:=RA.cell 3;simp at x0 x1 x3;obtain⟨b9,j0⟩:=nnH (inB a 0 ((m:Int)-1));have i0:H (CS 43 #[a,(),((m:Int)-1:Int)] w0 b9):=by
  have:=jN a 0 ((m:Int)-1) w0
  rw[j0.out] at this;exact this
 obtain⟨q3,q4⟩:=RC.c2 3 4;obtain⟨za,zb⟩:=RA.c2 1 2;simp at q3 q4 za zb;rw[d0.out] at RA c0 KE KZ zb |-;clear b0 hB n0;by_cases c1:y9.f∈zs
 have c3:¬ (0<=y9.t/\y9.t<(n:Int)):=fun k=>h0 ⟨c1,k⟩
 have g0:H (CS 139 #[V a2 zl c2,y9.f] w0 Aw):=by
  have:=QX a2 c2 zs y9.f w0 ((qL.1 (by rw[d0.out];exact KZ.rd)).below f0) hz
  rw[Bf c1,d0.out] at this;exact this
 have k0:H (CS 43 #[y9.t,(),((n:Int)-1:Int)] w0 Av):=by
  have:=jN y9.t 0 ((n:Int)-1) w0
  rw[show inB y9.t 0 ((n:Int)-1)=Av from Bg (fun q=>c3 (by omega))] at this;exact this
 clear h h0 c1 c3;go_enter func70,Gl
 go_upto_region 1 with fail
 rw[<-c0.out,<-HD.out,<-HC.out,<-HA.out];go_wp2_with fail
 refine CM i0.out fun w9 a0=>?_
 obtain rfl:=a0.symm;clear a0 c0 HA HC HD;go_wp2_with fail
 refine CM g0.out fun w9 a0=>?_
 obtain rfl:=a0.symm;clear a0;go_wp2_with fail
 refine Ax k0.out ?_;rotate_left;have c3:True:=trivial;have g0:H (CS 139 #[V a2 zl c2,y9.f] w0 Av):=by
  have:=QX a2 c2 zs y9.f w0 ((qL.1 (by rw[d0.out];exact KZ.rd)).below f0) hz
  rw[Bg c1,d0.out] at this;exact this
 clear h h0 c1 c3;go_enter func70,Gl
 go_upto_region 1 with fail
 rw[<-c0.out,<-HD.out,<-HC.out,<-HA.out];go_wp2_with fail
 refine CM i0.out fun w9 a0=>?_
 obtain rfl:=a0.symm;clear a0 c0 HA HC HD;go_wp2_with fail
 refine Ax g0.out ?_;rotate_left;all_goals
  rintro e w9 ⟨rfl,a0⟩;obtain rfl:=a0.symm;clear a0;go_upto_region 14 with fail
  obtain⟨w8,e0⟩:=nmH (w0.setRow D #[f,V gN n cN,V a2 zl c2,V gW m cW]);have m0:H (Row w8 D 48 #[f,V gN n cN,V a2 zl c2,V gW m cW]):=by show Row _ _ _ _;rw[e0.out];exact RD.row
  have KF:H (Trn w w8 (fun x=>x=gN\/x=gW)):=Trn.ofBelow _ (by rw[e0.out];exact jF f0 (by omega) _);clear KE KZ;go_wp2_with (first|(refine Bb rfl 48 _ rfl A rfl 48 #[f,V gN n cN,V a2 zl c2,V gW m cW] (0,0) _ ?_ Bp rfl Tryz.infoNt ?_;exact RA)|(refine Bw rfl 48 _ _ rfl D #[f,V gN n cN,V a2 zl c2,V gW m cW] rfl rfl 48 #[(),V I 0 0,V I 0 0,V I 0 0] ?_ Tryz.infoNt rfl (by simp[Aq]) ?_;exact RD;rw[<-e0.out]))
  obtain⟨p0,p1,p2,p3⟩:=m0.c4 0 1 2 3;simp at p0 p1 p2 p3;exact B7 (v:=Ah #[Ai #[f,V gN n cN,V a2 zl c2,V gW m cW],Av]) (by simp[results,Tryz.results70,go_sem,p0,p1,p2,p3]) rfl ⟨_,_,_,rfl,KF⟩
theorem jQm (B:Nat) (f:Int) (n:Nat) (N:Nat->Nd) (zs:List Int) (m:Nat) (Y:Nat->Sy) (gN cN:Nat) (a2:OA) (c2 gW cW:Nat) (X9:Nat->Prop) (a:Int) (y9:Sy) (s:BA) (a9:OA) (c9:Nat) (w:Ad) (h:NtE w B n N zs m Y gN cN (V a2 zs.length c2) gW cW X9) (hB:B<=w) (hX:∀ b,X9 b->b<w.1.size) (hm:m<=3000) (hn:n<=1048576) (hz:zs.length<=1048576) (c1:y9.f∈zs) (c3:0<=y9.t/\y9.t<(n:Int)) (t9:jL w a9 y9.p.m y9.p.S) (g1:y9.p.m<=1048576):Ak prog 70 #[ntV f (V gN n cN) (V a2 zs.length c2) (V gW m cW),Ai (opC ⟨2,a,y9,s⟩ (V a9 y9.p.m c9))] w fun r w'=>∃ g c,r=Ae (Ah #[ntV f (V gN n cN) (V a2 zs.length c2) (V (Q g 0 I) (m+1) c),Aw])/\Trn w w' (fun x=>x=gN\/x=gW)/\NtE w' B n N zs (m+1) (wyS m Y (fun _=>y9)) gN cN (V a2 zs.length c2) g c X9/\(g=gW\/w.1.size<=g):=by
 obtain⟨zl,n0⟩:=nnH zs.length;obtain⟨A,HA⟩:=nmH w.1.size;obtain⟨C,HC⟩:=nmH (w.1.size+1);obtain⟨D,HD⟩:=nmH (w.1.size+1+1);obtain⟨w0,i0⟩:=nmH (((w.alloc (J #[f,V gN n cN,V a2 zs.length c2,V gW m cW] 48)).alloc (J (opC ⟨2,a,y9,s⟩ (V a9 y9.p.m c9)) 50)).alloc (J #[(),V I 0 0,V I 0 0,V I 0 0] 48));have RA:=zS i0 HA;have RC:=xV i0 HC;have RD:=zE i0 HD;have b0:=bl3 i0;have j0:=hd b0;have lA:w.1.size<=A/\A<C/\C<D/\D<w0:=⟨by have:=HA.out;omega,by have h1:=HA.out;have h2:=HC.out;omega,by have h1:=HC.out;have h2:=HD.out;omega,RD.out.lt⟩;have KE:=hd h;have KZ:=hd h.z;have q1:B<=w0:=by have:=b0.size;omega
 obtain⟨x0,x1⟩:=RC.c2 0 1;have x3:=RA.cell 3;simp at x0 x1 x3;obtain⟨b9,t0⟩:=nnH (inB a 0 ((m:Int)-1));have z0:H (CS 43 #[a,(),((m:Int)-1:Int)] w0 b9):=by
  have:=jN a 0 ((m:Int)-1) w0
  rw[t0.out] at this;exact this
 obtain⟨q3,q4⟩:=RC.c2 3 4;obtain⟨za,zb⟩:=RA.c2 1 2;simp at q3 q4 za zb;obtain⟨cy,j1,n1⟩:=h.y;have KY:H (∀ i q,i<m->q<10->Rf w (EX gN gW X9) (syD (Y i) q) (cy i q)):=n1;have KX:H (∀ b,X9 b->b<w.1.size):=hX;have a1:=hd (jE j1 b0);have u1:gN<w/\gW<w:=⟨h.lt.1.2,h.lt.2.2⟩;have r1:gW<w0:=by have:=b0.size;omega
 have o1:A≠gW/\A<w0:=by omega
 have u0:H (∀ W,Ab w0 w0 W->Ak prog 137 #[Ai (syC y9 (V a9 y9.p.m c9))] W fun e w'=>∃ g c,e=Ae (Ai (syC y9 (V (Q g 0 I) y9.p.m c)))/\jI w' W.1.size (Q g 0 I) y9.p.m c y9.p.S/\Ab W.1.size W w'):=fun W hW=>XO y9 a9 c9 W ((t9.below b0).below hW) g1
 have RG:H (∀ W,Ab w0 w0 W->W.rangeAt C 2 (syC y9 (V a9 y9.p.m c9)).toList):=fun W hW j v hv=>by
  have hj:j<10:=by
   rcases Fz j 10 with k|k
   .exact k
   .rw[Be (by simpa using k)] at hv;cases hv
  rw[(RC.out.below hW RC.out.lt).cell (2+j)];match j,hj with
  | 0,_|1,_|2,_|3,_|4,_|5,_|6,_|7,_|8,_|9,_=>simpa using hv
 rw[n0.out] at RA i0 KE KZ zb |-;have v0:H (CS 139 #[V a2 zl c2,y9.f] w0 Aw):=by
  have:=QX a2 c2 zs y9.f w0 ((qL.1 (by rw[n0.out];exact KZ.rd)).below j0) hz
  rw[Bf c1,n0.out] at this;exact this
 have y0:H (CS 43 #[y9.t,(),((n:Int)-1:Int)] w0 Aw):=by
  have:=jN y9.t 0 ((n:Int)-1) w0
  rw[show inB y9.t 0 ((n:Int)-1)=Aw from Bf (by omega)] at this;exact this
 go_enter func70,Gl
 go_upto_region 1 with fail
 rw[<-i0.out,<-HD.out,<-HC.out,<-HA.out];go_wp2_with fail
 refine CM z0.out fun w9 m0=>?_
 obtain rfl:=m0.symm;go_wp2_with fail
 refine CM v0.out fun w9 m0=>?_
 obtain rfl:=m0.symm;go_wp2_with fail
 refine CM y0.out fun w9 m0=>?_
 obtain rfl:=m0.symm;go_upto_region 15 with fail
 refine JP Tryz.mixed 9 [([],[6,8]),([0],[1,6,8]),([],[4,5,6,8]),([2],[3,4,5,6,8]),([3],[4,5,6,8]),([4],[5,6,8]),([1,4,5],[6,8]),([],[8]),([4,5,6,7],[8])] (by kernel_rfl) (fun L A9 W=>∃ (ga:Nat) (ca:Nat) (e0:Nat) (a0:Nat) (c0:Nat),A9=⟨(List.toArray (α:=Aj) ((ntV f (V gN n cN) (V a2 zl c2) (V gW m cW))::(Ai (opC {k:=2,a:=a,y:=y9,s:=s} (V a9 y9.p.m c9)))::(Af A)::(Af C)::(Af D)::(Av)::(b9)::O::O::O::(Af (Q C 1 I))::(a)::(Af (Q A 3 I))::(V gW m cW)::((m:Int))::(((m:Int)-1:Int))::(b9)::(Af C)::((2:Int))::(Av)::(Av)::O::O::O::O::O::O::O::(Av)::(Av)::O::O::O::O::O::O::O::O::O::O::O::O::O::O::O::O::(Aw)::(Aw)::(Af (Q A 2 I))::(V a2 zl c2)::(Af (Q C 2 I))::(Af (Q C 3 I))::(y9.f)::(Aw)::(Av)::(Av)::(Af (Q C 2 I))::(Af (Q C 4 I))::(y9.t)::(Af (Q A 1 I))::(V gN n cN)::((n:Int))::(((n:Int)-1:Int))::(Aw)::(Av)::(Av)::O::(cX (L 0) (Af (Q A 3 I)) O)::(cX (L 1) (V gW m cW) O)::(cX (L 2) (Af (Q C 2 I)) O)::(cX (L 3) (Ai (syC y9 (V a9 y9.p.m c9))) O)::(cX (L 4) (Ai (syC y9 (V ga y9.p.m ca))) O)::(cX (L 5) (V e0 1 1) O)::(cX (L 6) (V a0 (m+1) c0) O)::(cX (L 7) (Af (Q A 3 I)) O)::O::O::O::O::O::O::O::O::O::O::O::O::O::O::O::O::O::O::O::O::[])),[]⟩/\(L 6=Av->Ab w0 w0 W)/\(L 4=Aw->L 6=Av->jI W w0 ga y9.p.m ca y9.p.S)/\(L 5=Aw->L 6=Av->Row W e0 31 (syC y9 (V ga y9.p.m ca))/\w0.1.size<=e0)/\(L 6=Aw->L 8=Av->ApR B m gW y9 cy ga ca a0 c0 w0 W (fun x=>x=gW)/\Row W A 48 #[f,V gN n cN,V a2 zl c2,V gW m cW])/\(L 8=Aw->ApR B m gW y9 cy ga ca a0 c0 w0 W (fun x=>x=gW\/x=A)/\Row W A 48 #[f,V gN n cN,V a2 zl c2,V a0 (m+1) c0])) ?_ ?_ ?_
 .exact⟨0,0,0,0,0,rfl,(fun _=>jD _),(fun h=>by cases h),(fun h=>by cases h),(fun h=>by cases h),(fun h=>by cases h)⟩
 .rintro a9 wx ⟨ga,ca,e0,a0,c0,r0,-,-,-,-,o0⟩;simp only[Nat.reduceLT,Dp,jJ] at r0;subst r0;replace o0:=(o0 rfl)
  obtain⟨q4,qA⟩:=o0;have KQ:=hd q4;have b1:=hd qA;have q0:=hd ((q4.t.block D RD.lt (fun e=>by rcases e with e|e <;> omega)).trans RD.out);obtain⟨w8,f0⟩:=nmH (wx.setRow D #[f,V gN n cN,V a2 zl c2,V a0 (m+1) c0]);have f1:=rr f0 q0;have KF:H (Trn w w8 (fun x=>x=gN\/x=gW)/\NtE w8 B n N zs (m+1) (wyS m Y (fun _=>y9)) gN cN (V a2 zl c2) a0 c0 X9/\(a0=gW\/w.1.size<=a0)):=by
   have s0:=j0.size;have s1:=KQ.t.size;have s8:w8.1.size=wx.1.size:=by rw[f0.out];simp
   have t8:∀ x,x≠D->w8.1[x]?=wx.1[x]?:=fun x hx=>by rw[f0.out];exact Cd _ _ _ _ hx
   have tw:∀ x,x<w.1.size->x≠gW->w8.1[x]?=w.1[x]?:=fun x hx h1=>(t8 x (by omega)).trans ((KQ.out.t.block x (by omega) (fun e=>by rcases e with e|e <;> omega)).trans (j0.out.block x hx))
   have lg:=A0 KQ.o a0 rfl;refine⟨⟨by rw[f0.out];exact KQ.t.os.trans j0.os,by rw[f0.out];exact KQ.t.tape.trans j0.tape,by rw[f0.out];exact KQ.t.output.trans j0.output,by omega,fun x hx hn=>tw x hx (fun e=>hn (.inr e))⟩,?_,by rcases KQ.out.g.1 with e|e;exact .inl e;exact .inr (by omega)⟩;have t1:=JL KQ.x (fun x e hb hl=>t8 _ (by omega));exact KE.laterG (by omega) tw (vO KQ.out.o (by omega) (t8 a0 (by have:=KQ.out.g;omega))) (by have:=KQ.out.g;omega) (fun i q hi hq=>KQ.out.cells KY.out t1 (by omega) KX.out hi hq)
  go_wp2_with (first|(refine Bb rfl 48 _ rfl A rfl 48 #[f,V gN n cN,V a2 zl c2,V a0 (m+1) c0] (0,0) _ ?_ Bp rfl Tryz.infoNt ?_;exact b1)|(refine Bw rfl 48 _ _ rfl D #[f,V gN n cN,V a2 zl c2,V a0 (m+1) c0] rfl rfl 48 #[(),V I 0 0,V I 0 0,V I 0 0] ?_ Tryz.infoNt rfl (by simp[Aq]) ?_;exact q0;rw[<-f0.out]))
  obtain⟨p0,p1,p2,p3⟩:=f1.c4 0 1 2 3;simp at p0 p1 p2 p3;exact B7 (v:=Ah #[Ai #[f,V gN n cN,V a2 zl c2,V a0 (m+1) c0],Aw]) (by simp[results,Tryz.results70,go_sem,p0,p1,p2,p3]) rfl ⟨_,_,rfl,KF⟩
 .intro q9 m1 L a9 W S g0;match q9,m1 with
  | 0,_|2,_|7,_=>
   obtain⟨ga,ca,e0,a0,c0,rfl,hf⟩:=g0;simp only[knT,kn,knN] at S;refine jB rfl (fun _=>rfl) fun K hK=>?_
   go_simp
   exact hK _ _ ⟨ga,ca,e0,a0,c0,(by simp only[Nat.reduceBEq,Bh,Bq,jJ,S]),hf⟩
  | 1,_=>
   obtain⟨ga,ca,e0,a0,c0,rfl,h0,h1,h2,h3,h4⟩:=g0;obtain⟨d0,e1,e6,e8,-⟩:=S;have hb:=h0 e6;have x1:=(RA.below hb RA.lt).cell 3;simp at x1;refine jB rfl (fun _=>rfl) fun K hK=>?_
   simp only[d0,jJ];go_simp
   exact hK _ _ ⟨ga,ca,e0,a0,c0,(by simp only[Nat.reduceBEq,Bh,Bq,jJ,d0,e6]),h0,h1,h2,(ab e6),(ab e8)⟩
  | 3,_=>
   obtain⟨ga,ca,e0,a0,c0,rfl,h0,h1,h2,h3,h4⟩:=g0;obtain⟨d2,e3,e4,e5,e6,e8,-⟩:=S;have hb:=h0 e6;refine jB rfl (fun _=>rfl) fun K hK=>?_
   simp only[d2,jJ];refine Gu 31 _ rfl C 2 rfl (syC y9 (V a9 y9.p.m c9)).toList _ (RG W hb) Ci rfl Tryz.infoSy ?_;exact hK _ _ ⟨ga,ca,e0,a0,c0,(by simp[Act.put,jJ,d2]),h0,(ab e4),(ab e5),(ab e6),(ab e8)⟩
  | 4,_=>
   obtain⟨ga,ca,e0,a0,c0,rfl,h0,h1,h2,h3,h4⟩:=g0;obtain⟨d3,e4,e5,e6,e8,-⟩:=S;have hb:=h0 e6;refine jB rfl (fun _=>rfl) fun K hK=>?_
   simp only[d3,jJ];go_simp
   refine Ax (u0 W hb) ?_;rintro e w9 ⟨ga,ca,rfl,ot,b9⟩;exact hK _ _ ⟨ga,ca,e0,a0,c0,(by simp only[Nat.reduceBEq,Bh,Bq,jJ,d3,e5,e6]),(fun k0=>jA hb b9),(fun k0 k1=>jY ot hb.size),(ab e5),(ab e6),(ab e8)⟩
  | 5,_=>
   obtain⟨ga,ca,e0,a0,c0,rfl,h0,h1,h2,h3,h4⟩:=g0;obtain⟨d4,e5,e6,e8,-⟩:=S;have hb:=h0 e6;refine jB rfl (fun _=>rfl) fun K hK=>?_
   simp only[d4,jJ];go_simp
   exact hK _ _ ⟨ga,ca,W.1.size,a0,c0,(by simp only[Nat.reduceBEq,Bh,Bq,jJ,d4,e6]),(fun k0=>hb.alloc hb.size _),(fun k0 k1=>jI.below (h1 (show L 4=Aw from k0) (show L 6=Av from k1)) ((Az _ _).alloc (Ay _) _)),(fun k0 k1=>⟨Row.new W _ _,hb.size⟩),(ab e6),(ab e8)⟩
  | 6,_=>
   obtain⟨ga,ca,e0,a0,c0,rfl,h0,h1,h2,h3,h4⟩:=g0;obtain⟨d1,d4,d5,e6,e8,-⟩:=S;have hb:=h0 e6;have ot:=h1 d4 e6;have r4:=h2 d5 e6;have oW:=jE a1 hb;refine jB rfl (fun _=>rfl) fun K hK=>?_
   simp only[d1,d5,jJ];refine QH 68 72 rfl B gW m cW (cL 10 cy m) rfl oW e0 1 1 (syC y9 (V ga y9.p.m ca)).toList rfl (fun e=>by cases e) rfl (fun b e j u hu=>by cases e;rw[Addr.add_mid,Bt,r4.1.cell j,<-Gd];exact hu) (by simp[Aq]) (by omega) (By q1 hb.size) ?_;intro a0 c0 w9 ho hg i1;exact hK _ _ ⟨ga,ca,e0,a0,c0,(by simp[Act.put,jJ,d1,d5]),nf,(fun _=>nf),(fun _=>nf),(fun k0 k1=>⟨ApR.mk' hb ot ho hg i1 r1,(RA.below hb RA.lt).keptG hg (by omega)⟩),(ab e8)⟩
  | 8,_=>
   obtain⟨ga,ca,e0,a0,c0,rfl,h0,h1,h2,h3,h4⟩:=g0;obtain⟨d4,d5,d6,d7,e8,-⟩:=S;obtain⟨q3,qA⟩:=h3 d6 e8;have fr:=qA.free 3;have x3:=qA.cell 3;simp at x3;refine jB rfl (fun _=>rfl) fun K hK=>?_
   simp only[d7,d6,jJ];go_simp
   exact hK _ _ ⟨ga,ca,e0,a0,c0,(by simp only[Nat.reduceBEq,Bh,d4,d5,d6,d7,jJ]),(ba d6),(fun _=>ba d6),(fun _=>ba d6),(fun _=>nf),(fun k0=>⟨q3.set o1 _ 3,qA.set 3 _⟩)⟩
  | n9+9,h=>exact Bo h (by omega)
theorem jK2 (B:Nat) (f:Int) (n:Nat) (N:Nat->Nd) (zs:List Int) (m:Nat) (Y:Nat->Sy) (gN cN:Nat) (a2:OA) (c2 gW cW:Nat) (X9:Nat->Prop) (a:Int) (y:Sy) (s:BA) (v9:Aj) (w:Ad) (h:NtE w B n N zs m Y gN cN (V a2 zs.length c2) gW cW X9) (hB:B<=w) (hX:∀ b,X9 b->b<w.1.size) (hm:m<=3000) (hs:s.size<=1048576):Ak prog 70 #[ntV f (V gN n cN) (V a2 zs.length c2) (V gW m cW),Ai (opC ⟨3,a,y,s⟩ v9)] w fun r w'=>∃ g c,r=Ae (Ah #[ntV f (V gN n cN) (V a2 zs.length c2) (V (Q g 0 I) (m+brN s f) c),(brB s f)])/\Trn w w' (fun x=>x=gN\/x=gW)/\NtE w' B n N zs (m+brN s f) (wyS m Y (brS s f)) gN cN (V a2 zs.length c2) g c X9/\(g=gW\/w.1.size<=g):=by
 obtain⟨zl,y0⟩:=nnH zs.length;obtain⟨A,HA⟩:=nmH w.1.size;obtain⟨C,HC⟩:=nmH (w.1.size+1);obtain⟨D,HD⟩:=nmH (w.1.size+1+1);obtain⟨w0,c0⟩:=nmH (((w.alloc (J #[f,V gN n cN,V a2 zs.length c2,V gW m cW] 48)).alloc (J (opC ⟨3,a,y,s⟩ v9) 50)).alloc (J #[(),V I 0 0,V I 0 0,V I 0 0] 48));have RA:=zS c0 HA;have RC:=xV c0 HC;have RD:=zE c0 HD;have b0:=bl3 c0;have f0:=hd b0;have lA:w.1.size<=A/\A<C/\C<D/\D<w0:=⟨by have:=HA.out;omega,by have h1:=HA.out;have h2:=HC.out;omega,by have h1:=HC.out;have h2:=HD.out;omega,RD.out.lt⟩;have KE:=hd h;have KZ:=hd h.z;have z1:B<=w0:=by have:=b0.size;omega
 obtain⟨x0,x1⟩:=RC.c2 0 1;have x3:=RA.cell 3;simp at x0 x1 x3;obtain⟨b9,s0⟩:=nnH (inB a 0 ((m:Int)-1));have a1:H (CS 43 #[a,(),((m:Int)-1:Int)] w0 b9):=by
  have:=jN a 0 ((m:Int)-1) w0
  rw[s0.out] at this;exact this
 have t1:=RC.cell 12;have z0:=RA.cell 0;simp at t1 z0;obtain⟨cy,q1,r1⟩:=h.y;have KY:H (∀ i q,i<m->q<10->Rf w (EX gN gW X9) (syD (Y i) q) (cy i q)):=r1;have KX:H (∀ b,X9 b->b<w.1.size):=hX;have c1:=hd (jE q1 b0);have b2:gN<w/\gW<w:=⟨h.lt.1.2,h.lt.2.2⟩;have y1:=b0.size;have j1:=(jCu (s:=s) (f:=f)).2;have h0:H _:=jFc s f w0 hs;obtain⟨bn,t0⟩:=nnH (brN s f);obtain⟨bo,u0⟩:=nnH (brB s f);obtain⟨br,v0⟩:=nnH (brR s f);rw[t0.out] at h0 j1 |-;rw[u0.out] at h0 |-;rw[v0.out] at h0;rw[y0.out] at RA c0 KE KZ |-;go_enter func70,Gl
 go_upto_region 1 with fail
 rw[<-c0.out,<-HD.out,<-HC.out,<-HA.out];go_wp2_with fail
 refine CM a1.out fun w9 s1=>?_
 obtain rfl:=s1.symm;go_wp2_with fail
 refine Ax h0.out ?_;rintro r w3 ⟨la,lc,rfl,m1,b3⟩;have KR:H (Rf w3 (fun b=>b<w0.1.size) (qI bn (brS s f)) (V la bn lc)):=fun W' h1 h2=>m1 W' h1 (fun b k1 k2=>h2 b (by omega) k2)
 obtain⟨cs,n1,o1,w1,n0⟩:=jKa KR;have KC:H ((la=I->bn=0)/\(∀ b,la=M b->∀ j u,(cL 10 cs bn)[j]?=M u->w3.cell? (b.add j)=M u)/\∀ i q,i<bn->q<10->Rf w3 (fun b=>b<w0.1.size) (syD (brS s f i) q) (cs i q)):=⟨n1,o1,n0⟩;have b1:H (∀ u∈cL 10 cs bn,u.oneCell'=Aw):=fun u hu=>by obtain⟨i,q,hi,hq,rfl⟩:=jAx (by omega) hu;exact jCc (n0 i q hi hq).rd
 have j0:=RA.below b3 RA.lt;have f1:=RD.below b3 RD.lt;have O3:=hd (jE c1 b3);have g0:=hd b3;have s3:=b3.size;have u1:=j0.cell 3;simp at u1;go_wp2_with (at_builtin;refine(show True->_ from ?_) trivial)
 intro _;refine jAt rfl 88 89 rfl B gW m cW (cL 10 cy m) rfl O3 la bn lc (cL 10 cs bn) rfl KC.1 (qB _ _ _) KC.2.1 b1 (by omega) (by omega) ?_;intro g7 c7 w6 o0 a0 m0;have i0:=j0.keptG a0 (by omega);have g1:=f1.keptG a0 (by omega);have v1:=i0.cell 3;have e2:=i0.free 3;simp at v1;have s6:=a0.size;have l6:=A0 o0 g7 rfl;obtain⟨w7,d0⟩:=nmH (w6.setCell (Q A 3 I) (V g7 (m+bn) c7));have e1:H (Row w7 A 48 #[f,V gN n cN,V a2 zl c2,V g7 (m+bn) c7]):=by show Row _ _ _ _;rw[d0.out];exact i0.set 3 _
 have k0:H (Row w7 D 48 #[(),V I 0 0,V I 0 0,V I 0 0]):=by show Row _ _ _ _;rw[d0.out];exact g1.other _ _ (by omega)
 obtain⟨w8,e0⟩:=nmH (w7.setRow D #[f,V gN n cN,V a2 zl c2,V g7 (m+bn) c7]);have i1:=rr e0 k0;have KF:H (Trn w w8 (fun x=>x=gN\/x=gW)/\NtE w8 B n N zs (m+bn) (wyS m Y (brS s f)) gN cN (V a2 zl c2) g7 c7 X9/\(g7=gW\/w.1.size<=g7)):=by
  have r0:∀ x,x≠A->x≠D->w8.1[x]?=w6.1[x]?:=fun x h1 h2=>by
   rw[e0.out,d0.out];exact(Cd _ _ _ _ (fun e=>h2 e)).trans (Cn w6 (Q A 3 I) x _ (fun e=>h1 e))
  have s8:w8.1.size=w6.1.size:=by rw[e0.out,d0.out];simp
  have q0:∀ x,x<w3.1.size->x≠A->x≠D->x≠gW->w8.1[x]?=w3.1[x]?:=fun x hx h1 h2 h3=>(r0 x h1 h2).trans (a0.block x hx (fun e=>h3 (by injection e)))
  have tw:∀ x,x<w.1.size->x≠gW->w8.1[x]?=w.1[x]?:=fun x hx h1=>(q0 x (by omega) (by omega) (by omega) h1).trans ((g0.out.block x (by omega)).trans (f0.out.block x hx))
  have e8:w8.os=w.os/\w8.tape=w.tape/\w8.output=w.output:=by
   rw[e0.out,d0.out];exact⟨a0.os.trans (g0.os.trans f0.os),a0.tape.trans (g0.tape.trans f0.tape),a0.output.trans (g0.output.trans f0.output)⟩
  have o8:=vO o0 (Gv s8.symm) (r0 g7 (by omega) (by omega));rw[jI3 10 _ _ _ _ (by omega)] at o8;refine⟨⟨e8.1,e8.2.1,e8.2.2,by omega,fun x hx hn=>tw x hx (fun e=>hn (.inr e))⟩,KE.laterG (by omega) tw o8 (by omega) (fun i q hi hq=>?_),by omega⟩;by_cases e:i<m
  .left
   rw[A6 e,jHa e];exact KY i q e hq
  .right
   intro hN;rw[A5 e,jG9 e];refine((KC.2.2 (i-m) q (by omega) hq).since (by omega) (fun b hb hl=>q0 b hl (by omega) (by omega) (by omega))).mono (fun b k=>?_);rcases k with k|k|k
   .exact .inl (by omega)
   .rcases m0 with q6|q6
    .exact .inl (by omega)
    .exact .inr (by omega)
   .exact .inl (by have:=KX b k;omega)
 go_wp2_with (first|(rw[<-d0.out];refine Bb rfl 48 _ rfl A rfl 48 #[f,V gN n cN,V a2 zl c2,V g7 (m+bn) c7] (0,0) _ ?_ Bp rfl Tryz.infoNt ?_;exact e1)|(refine Bw rfl 48 _ _ rfl D #[f,V gN n cN,V a2 zl c2,V g7 (m+bn) c7] rfl rfl 48 #[(),V I 0 0,V I 0 0,V I 0 0] ?_ Tryz.infoNt rfl (by simp[Aq]) ?_;exact k0;rw[<-e0.out]))
 obtain⟨p0,p1,p2,p3⟩:=i1.c4 0 1 2 3;simp at p0 p1 p2 p3;exact B7 (v:=Ah #[Ai #[f,V gN n cN,V a2 zl c2,V g7 (m+bn) c7],bo]) (by simp[results,Tryz.results70,go_sem,p0,p1,p2,p3]) rfl ⟨_,_,rfl,KF⟩
theorem jFd (B:Nat) (f:Int) (n:Nat) (N:Nat->Nd) (zs:List Int) (m:Nat) (Y:Nat->Sy) (gN cN:Nat) (a2:OA) (c2 gW cW:Nat) (X9:Nat->Prop) (k a:Int) (y:Sy) (s:BA) (v9:Aj) (w:Ad) (h:NtE w B n N zs m Y gN cN (V a2 zs.length c2) gW cW X9) (hB:B<=w) (hm:m<=3000) (hk:((k=0\/k=1)/\¬ (0<=a/\a<m))\/¬ k=0/\¬ k=1/\¬ k=2/\¬ k=3):Ak prog 70 #[ntV f (V gN n cN) (V a2 zs.length c2) (V gW m cW),Ai (opC ⟨k,a,y,s⟩ v9)] w fun r w'=>∃ g c mm,r=Ae (Ah #[ntV f (V gN n cN) (V a2 zs.length c2) (V (Q g 0 I) mm c),Av])/\Trn w w' (fun x=>x=gN\/x=gW):=by
 obtain⟨zl,g0⟩:=nnH zs.length;obtain⟨A,HA⟩:=nmH w.1.size;obtain⟨C,HC⟩:=nmH (w.1.size+1);obtain⟨D,HD⟩:=nmH (w.1.size+1+1);obtain⟨w0,a0⟩:=nmH (((w.alloc (J #[f,V gN n cN,V a2 zs.length c2,V gW m cW] 48)).alloc (J (opC ⟨k,a,y,s⟩ v9) 50)).alloc (J #[(),V I 0 0,V I 0 0,V I 0 0] 48));have RA:=zS a0 HA;have RC:=xV a0 HC;have RD:=zE a0 HD;have b0:=bl3 a0;have i0:H (Ab w w w0):=b0;have lA:w.1.size<=A/\A<C/\C<D/\D<w0:=⟨by have:=HA.out;omega,by have h1:=HA.out;have h2:=HC.out;omega,by have h1:=HC.out;have h2:=HD.out;omega,RD.out.lt⟩;have KE:H (NtE w B n N zs m Y gN cN (V a2 zs.length c2) gW cW X9):=h;have KZ:H (Rf w (EX gN gW X9) (inD zs) (V a2 zs.length c2)):=h.z;have m0:B<=w0:=by have:=b0.size;omega
 obtain⟨x0,x1⟩:=RC.c2 0 1;have x3:=RA.cell 3;simp at x0 x1 x3;obtain⟨b9,c0⟩:=nnH (inB a 0 ((m:Int)-1));have j0:H (CS 43 #[a,(),((m:Int)-1:Int)] w0 b9):=by
  have:=jN a 0 ((m:Int)-1) w0
  rw[c0.out] at this;exact this
 have hq:H (((k==0)=Aw/\b9=Av)\/((k==0)=Av/\(k==1)=Aw/\b9=Av)\/((k==0)=Av/\(k==1)=Av/\(k==2)=Av/\(k==3)=Av)):=by
  rcases hk with ⟨rfl|rfl,h2⟩|⟨h0,h1,h2,h3⟩
  .exact .inl ⟨rfl,c0.symm.trans (Bg (fun q=>h2 (by omega)))⟩
  .exact .inr (.inl ⟨rfl,rfl,c0.symm.trans (Bg (fun q=>h2 (by omega)))⟩)
  .exact .inr (.inr ⟨by simpa using h0,by simpa using h1,by simpa using h2,by simpa using h3⟩)
 rw[g0.out] at RA a0 KE KZ |-;clear h b0 hB m0 hk;go_enter func70,Gl
 go_upto_region 1 with fail
 rw[<-a0.out,<-HD.out,<-HC.out,<-HA.out];go_wp2_with fail
 refine CM j0.out fun w9 f0=>?_
 obtain rfl:=f0.symm;clear f0 a0 HA HC HD;obtain⟨w8,d0⟩:=nmH (w0.setRow D #[f,V gN n cN,V a2 zl c2,V gW m cW]);have k0:=rr d0 RD;have KF:H (Trn w w8 (fun x=>x=gN\/x=gW)):=Trn.ofBelow _ (by rw[d0.out];exact jF i0 (by omega) _);clear KE KZ;rcases hq.out with ⟨e0,rfl⟩|⟨e0,e1,rfl⟩|⟨e0,e1,e2,e3⟩;all_goals
  go_wp2_with (first|(refine Bb rfl 48 _ rfl A rfl 48 #[f,V gN n cN,V a2 zl c2,V gW m cW] (0,0) _ ?_ Bp rfl Tryz.infoNt ?_;exact RA)|(refine Bw rfl 48 _ _ rfl D #[f,V gN n cN,V a2 zl c2,V gW m cW] rfl rfl 48 #[(),V I 0 0,V I 0 0,V I 0 0] ?_ Tryz.infoNt rfl (by simp[Aq]) ?_;exact RD;rw[<-d0.out]))
  obtain⟨p0,p1,p2,p3⟩:=k0.c4 0 1 2 3;simp at p0 p1 p2 p3;exact B7 (v:=Ah #[Ai #[f,V gN n cN,V a2 zl c2,V gW m cW],Av]) (by simp[results,Tryz.results70,go_sem,p0,p1,p2,p3]) rfl ⟨_,_,_,rfl,KF⟩
theorem jQl (B:Nat) (f:Int) (n:Nat) (zs:List Int) (T:Ns) (gN cN:Nat) (a2:OA) (c2 gW cW:Nat) (X9:Nat->Prop) (o:Op9) (a9:OA) (c9:Nat) (w:Ad) (h:NtE w B n T.N zs T.m T.Y gN cN (V a2 zs.length c2) gW cW X9) (hB:B<=w) (hX:∀ b,X9 b->b<w.1.size) (hG:NsG f n zs T) (hO:OpK o) (t9:jL w a9 o.y.p.m o.y.p.S):Ak prog 70 #[ntV f (V gN n cN) (V a2 zs.length c2) (V gW T.m cW),opV o (V a9 o.y.p.m c9)] w fun r w'=>∃ g c mm ok,r=Ae (Ah #[ntV f (V gN n cN) (V a2 zs.length c2) (V (Q g 0 I) mm c),.bool ok])/\Trn w w' (fun x=>x=gN\/x=gW)/\opB f n zs T o=(ok&&decide (mm<=3000))/\(ok=Aw->mm=(nxT f n zs T o).m/\NtE w' B n (nxT f n zs T o).N zs (nxT f n zs T o).m (nxT f n zs T o).Y gN cN (V a2 zs.length c2) g c X9/\(g=gW\/w.1.size<=g)):=by
 have a0:=hG.n10;obtain⟨k,a,y,s⟩:=o;have no:¬ OpP f n zs T ⟨k,a,y,s⟩->∀ w' r,(∃ g c mm,r=Ending.returned (Ah #[ntV f (V gN n cN) (V a2 zs.length c2) (V (Q g 0 I) mm c),Av])/\Trn w w' (fun x=>x=gN\/x=gW))->∃ g c mm ok,r=Ae (Ah #[ntV f (V gN n cN) (V a2 zs.length c2) (V (Q g 0 I) mm c),.bool ok])/\Trn w w' (fun x=>x=gN\/x=gW)/\opB f n zs T ⟨k,a,y,s⟩=(ok&&decide (mm<=3000))/\(ok=Aw->mm=(nxT f n zs T ⟨k,a,y,s⟩).m/\NtE w' B n (nxT f n zs T ⟨k,a,y,s⟩).N zs (nxT f n zs T ⟨k,a,y,s⟩).m (nxT f n zs T ⟨k,a,y,s⟩).Y gN cN (V a2 zs.length c2) g c X9/\(g=gW\/w.1.size<=g)):=by
  rintro hp w' r ⟨g,c,mm,rfl,t⟩;exact⟨g,c,mm,Av,rfl,t,by rw[jGh hp];rfl,fun e=>by cases e⟩
 have b0:∀ T':Ns,nxT f n zs T ⟨k,a,y,s⟩=T'->(OpP f n zs T ⟨k,a,y,s⟩↔T'.m<=3000)->∀ w' r,(∃ g c,r=Ending.returned (Ah #[ntV f (V gN n cN) (V a2 zs.length c2) (V (Q g 0 I) T'.m c),Aw])/\Trn w w' (fun x=>x=gN\/x=gW)/\NtE w' B n T'.N zs T'.m T'.Y gN cN (V a2 zs.length c2) g c X9/\(g=gW\/w.1.size<=g))->∃ g c mm ok,r=Ae (Ah #[ntV f (V gN n cN) (V a2 zs.length c2) (V (Q g 0 I) mm c),.bool ok])/\Trn w w' (fun x=>x=gN\/x=gW)/\opB f n zs T ⟨k,a,y,s⟩=(ok&&decide (mm<=3000))/\(ok=Aw->mm=(nxT f n zs T ⟨k,a,y,s⟩).m/\NtE w' B n (nxT f n zs T ⟨k,a,y,s⟩).N zs (nxT f n zs T ⟨k,a,y,s⟩).m (nxT f n zs T ⟨k,a,y,s⟩).Y gN cN (V a2 zs.length c2) g c X9/\(g=gW\/w.1.size<=g)):=by
  rintro T' eT hp w' r ⟨g,c,rfl,t,e,hg⟩;refine⟨g,c,T'.m,Aw,rfl,t,?_,fun _=>⟨by rw[eT],by rw[eT];exact e,hg⟩⟩;rw[Gx];by_cases q:T'.m<=3000
  .rw[Bf q,jKe (hp.2 q)]
  .rw[Bg q,jGh (fun k=>q (hp.1 k))]
 by_cases k0:k=0
 .subst k0;by_cases ha:0<=a/\a<T.m
  .obtain⟨a7,rfl⟩:∃ k:Nat,a=(k:Int):=⟨a.toNat,by omega⟩;refine(jNd B f n zs T T.m gN cN a2 c2 gW cW X9 a7 y s _ w rfl h hB hX hG (by omega)).mono (fun r w' k=>b0 (hrT n zs T a7) (by unfold nxT;rw[A6 rfl];rfl) ⟨fun q=>?_,fun q=>.inl ⟨rfl,ha,q⟩⟩ w' r k);rcases q with q|q|q|q
   .exact q.2.2
   .exact Bo q.1 (by simp)
   .exact Bo q.1 (by simp)
   .exact Bo q.1 (by simp)
  .refine(jFd B f n T.N zs T.m T.Y gN cN a2 c2 gW cW X9 0 a y s _ w h hB a0.2.2.1 (.inl ⟨.inl rfl,ha⟩)).mono (fun r w' k=>no (fun q=>?_) w' r k);rcases q with q|q|q|q
   .exact ha q.2.1
   .exact Bo q.1 (by simp)
   .exact Bo q.1 (by simp)
   .exact Bo q.1 (by simp)
 by_cases k1:k=1
 .subst k1;by_cases ha:0<=a/\a<T.m
  .obtain⟨a7,rfl⟩:∃ k:Nat,a=(k:Int):=⟨a.toNat,by omega⟩;refine(jK4 B f n T.N zs T.m T.Y gN cN a2 c2 gW cW X9 a7 y (T.Y a7) s _ w h hB hX a0.2.2.1 (by omega) rfl (hG.y a7 (by omega)).m).mono (fun r w' k=>b0 ⟨T.N,T.m+1,wyS T.m T.Y (fun _=>T.Y a7)⟩ (by unfold nxT;rw[A5 (by simp),A6 rfl];rfl) ⟨fun q=>?_,fun q=>.inr (.inl ⟨rfl,ha,q⟩)⟩ w' r k);rcases q with q|q|q|q
   .exact Bo q.1 (by simp)
   .exact q.2.2
   .exact Bo q.1 (by simp)
   .exact Bo q.1 (by simp)
  .refine(jFd B f n T.N zs T.m T.Y gN cN a2 c2 gW cW X9 1 a y s _ w h hB a0.2.2.1 (.inl ⟨.inr rfl,ha⟩)).mono (fun r w' k=>no (fun q=>?_) w' r k);rcases q with q|q|q|q
   .exact Bo q.1 (by simp)
   .exact ha q.2.1
   .exact Bo q.1 (by simp)
   .exact Bo q.1 (by simp)
 by_cases k2:k=2
 .subst k2;by_cases hl:y.f∈zs/\(0<=y.t/\y.t<n)
  .refine(jQm B f n T.N zs T.m T.Y gN cN a2 c2 gW cW X9 a y s a9 c9 w h hB hX a0.2.2.1 (by omega) (by omega) hl.1 hl.2 t9 hO.y.m).mono (fun r w' k=>b0 ⟨T.N,T.m+1,wyS T.m T.Y (fun _=>y)⟩ (by unfold nxT;rw[A5 (by simp),A5 (by simp),A6 rfl]) ⟨fun q=>?_,fun q=>.inr (.inr (.inl ⟨rfl,hl.1,hl.2,q⟩))⟩ w' r k);rcases q with q|q|q|q
   .exact Bo q.1 (by simp)
   .exact Bo q.1 (by simp)
   .exact q.2.2.2
   .exact Bo q.1 (by simp)
  .refine(jK3 B f n T.N zs T.m T.Y gN cN a2 c2 gW cW X9 a y s a9 c9 w h hB a0.2.2.1 (by omega) (by omega) hl).mono (fun r w' k=>no (fun q=>?_) w' r k);rcases q with q|q|q|q
   .exact Bo q.1 (by simp)
   .exact Bo q.1 (by simp)
   .exact hl ⟨q.2.1,q.2.2.1⟩
   .exact Bo q.1 (by simp)
 by_cases k3:k=3
 .subst k3;refine(jK2 B f n T.N zs T.m T.Y gN cN a2 c2 gW cW X9 a y s _ w h hB hX a0.2.2.1 hO.s).mono ?_;rintro r w' ⟨g,c,rfl,t,e,hg⟩;cases hb:brB s f with
  | true=>
   refine b0 ⟨T.N,T.m+brN s f,wyS T.m T.Y (brS s f)⟩ (by unfold nxT;rw[A5 (by simp),A5 (by simp),A5 (by simp)]) ⟨fun q=>?_,fun q=>.inr (.inr (.inr ⟨rfl,hb,q⟩))⟩ w' _ ⟨g,c,rfl,t,e,hg⟩;rcases q with q|q|q|q
   .exact Bo q.1 (by simp)
   .exact Bo q.1 (by simp)
   .exact Bo q.1 (by simp)
   .exact q.2.2
  | false=>
   refine no (fun q=>?_) w' _ ⟨g,c,_,rfl,t⟩;rcases q with q|q|q|q
   .exact Bo q.1 (by simp)
   .exact Bo q.1 (by simp)
   .exact Bo q.1 (by simp)
   .rw[show brB s f=Aw from q.2.1] at hb;cases hb
 .refine(jFd B f n T.N zs T.m T.Y gN cN a2 c2 gW cW X9 k a y s _ w h hB a0.2.2.1 (.inr ⟨k0,k1,k2,k3⟩)).mono (fun r w' k=>no (fun q=>?_) w' r k);rcases q with q|q|q|q
  .exact k0 q.1
  .exact k1 q.1
  .exact k2 q.1
  .exact k3 q.1
end Go.Proofs.YtcaejlalnjnifaaGreat
