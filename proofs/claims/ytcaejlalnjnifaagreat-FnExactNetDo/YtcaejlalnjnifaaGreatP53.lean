import Derived.Test.YtcaejlalnjnifaaGreatP51
set_option maxHeartbeats 8000000
set_option maxRecDepth 2000
open Go.Value renaming slice->V,pointer->Af,string->Ag,tuple->Ah,agg->Ai,int->Ao,oneCell'->Aq
open Option renaming none->I,some->M
open Go.RowKit renaming Hid->H,Below->Ab
open Go.Addr renaming mk->Q
open Go renaming undef->O,World->Ad,Value->Aj,Calls->Ak,Addr->Al,maxLen->Au
open Go.Obj renaming cells->J
open Go.Proofs.Tryz renaming prog->Ac
open Go.Ending renaming returned->Ae
open Go.IntKind renaming i64->Ar
open Bool renaming false->Av,true->Aw
open Go.Proofs.Tryz
open Go.ChangeShapes Go.WideShapes Go.ChangeAt Go.RowKit
namespace Go.Proofs.YtcaejlalnjnifaaGreat
def wtO (o:Op9):Nat:=wtY o.y+o.s.size
structure jR4 (o:Op9):Prop where
 y:SyB o.y
 s:o.s.size<=Au
theorem Tryz.infoOpL:(Tryz.prog.info? 68).map (·.size)=M 13:=by kernel_rfl
theorem jDi {W:Ad} {X:Nat} {t:TypeId} {o:Op9} {v:Aj} (h:Row W X t (opC o v)):W.rangeAt X 2 (syC o.y v).toList:=fun j u hv=>by
 have hj:j<10:=by
  rcases F0 j 10 with k|k
  .exact k
  .rw[Bb (by simpa using k)] at hv;cases hv
 rw[h.cell (2+j)];match j,hj with
 | 0,_|1,_|2,_|3,_|4,_|5,_|6,_|7,_|8,_|9,_=>simpa using hv
theorem jNd (o:Op9) (an:OA) (cn l:Nat) (w:Ad) (h:jK w an o.y.p.m o.y.p.S) (hB:jR4 o) (hl:l<=1048576):CB 27 #[opV o (V an o.y.p.m cn),(l:Int)] w (szN l (wtO o)):=by
 obtain⟨A,HA⟩:=nmH w.1.size;obtain⟨w0,a0⟩:=nmH (w.alloc (J (opC o (V an o.y.p.m cn)) 68));have R0:=(jZ a0 HA).out;have b0:=bl1 a0;have KB:=hd b0;have KM:=hd (jDi R0);have KS:H _:=jGo o.y an cn l w0 (h.below b0) hB.y hl;have KR:=hd R0;obtain⟨sz,c0⟩:=nnH o.s.size;obtain⟨ny,d0⟩:=nnH (wtY o.y);have hs:(sz:Int)<=9223372036854775807:=by have:=hB.s;rw[c0.out] at this;unfold Au at this;omega
 have hW:H (wtO o=ny+sz):=by show _=_;unfold wtO;rw[c0.out,d0.out]
 have f0:(o.s.size:Int)=(sz:Int):=by rw[c0.out]
 rw[hW.out];rw[d0.out] at KS;by_cases c1:ny<=l
 .obtain⟨r,Hr⟩:=nnH (l-ny);rw[qF c1,Hr.out] at KS;have hr:r<=1048576:=by have:=Hr.out;omega
  have n0:¬ ((r:Int)<0):=by omega
  by_cases c2:sz<=r
  have e2:H (szN l (ny+sz)=((r-sz:Nat):Int)):=by show _=_;have:=Hr.out;rw[qF (by omega),show l-(ny+sz)=r-sz by omega]
  have e3:IntKind.i64.wrap ((r:Int)-(sz:Int))=((r-sz:Nat):Int):=by rw[A8];omega
  have n1:¬ (((r-sz:Nat):Int)<0):=by omega
  rw[e2.out];obtain⟨q,Hq⟩:=nnH (r-sz);rw[Hq.out] at e3 n1 |-;rotate_left;have e2:H (szN l (ny+sz) = -1):=by show _=_;have:=Hr.out;rw[qD (by omega)]
  have e3:IntKind.i64.wrap ((r:Int)-(sz:Int))=(r:Int)-(sz:Int):=by rw[A8];omega
  have n1:(r:Int)-(sz:Int)<0:=by omega
  rw[e2.out];rotate_left;all_goals
   go_enter func27,ntmps27
   go_upto_region 1 with fail
   rw[<-a0.out,<-HA.out];go_wp2_with (refine Bv rfl 66 _ rfl A 2 rfl (syC o.y (V an o.y.p.m cn)).toList _ ?_ Ei rfl Tryz.infoSyL ?_;exact KM)
   refine Ax KS.out ?_;rintro e w1 ⟨rfl,b1⟩;have e0:=(KR.below b1 KR.lt).cell 12;simp at e0;have KF:=hd (jA KB b1);go_wp2
   go_ret
   exact⟨rfl,KF⟩
 .rw[qD c1] at KS;have e2:H (szN l (ny+sz) = -1):=by show _=_;rw[qD (by omega)]
  rw[e2.out];go_enter func27,ntmps27
  go_upto_region 1 with fail
  rw[<-a0.out,<-HA.out];go_wp2_with (refine Bv rfl 66 _ rfl A 2 rfl (syC o.y (V an o.y.p.m cn)).toList _ ?_ Ei rfl Tryz.infoSyL ?_;exact KM)
  refine Ax KS.out ?_;rintro e w1 ⟨rfl,b1⟩;have KF:=hd (jA KB b1);go_wp2
  go_ret
  exact⟨rfl,KF⟩
theorem jNj (o:Op9) (an:OA) (cn:Nat) (w:Ad) (h:jK w an o.y.p.m o.y.p.S) (hm:o.y.p.m<=1048576):Ak prog 29 #[opV o (V an o.y.p.m cn)] w fun e w'=>∃ g,e=Ae (opV o (V (Q g 0 I) o.y.p.m o.y.p.m))/\Ow w' w (txD o.y.p.m o.y.p.S) (V (Q g 0 I) o.y.p.m o.y.p.m) (fun x=>x=g)/\w.1.size<=g/\g<w'.1.size/\Ab w w w':=by
 obtain⟨A,HA⟩:=nmH w.1.size;obtain⟨D,HD⟩:=nmH (w.1.size+1);obtain⟨E,HE⟩:=nmH (w.1.size+1+1);obtain⟨w0,i0⟩:=nmH (((w.alloc (J (opC o (V an o.y.p.m cn)) 68)).alloc (J #[(),(),(),(),(),Zs,Zs,(),(),(),Zs,V I 0 0,Zs] 50)).alloc (J #[(),(),(),(),(),Zs,Zs,(),(),(),Zs,V I 0 0,Zs] 50));have RA:=(zD i0 HA).out;have RD:=(xL i0 HD).out;have RE:=(xR i0 HE).out;have b0:=bl3 i0;have lA:w.1.size<=A/\A<D/\D<E/\E<w0:=⟨by have:=HA.out;omega,by have h1:=HA.out;have h2:=HD.out;omega,by have h1:=HD.out;have h2:=HE.out;omega,RE.lt⟩;have x0:=RA.cell 0;have x1:=RA.cell 1;have z0:=RE.cell 0;have z1:=RE.cell 1;have f0:=RE.free 0;have f1:=RE.free 1;simp at x0 x1 z0 z1;obtain⟨w1,d0⟩:=nmH ((w0.setCell E o.k).setCell (Q E 1 I) o.a);have a0:Row w1 A 68 (opC o (V an o.y.p.m cn)):=by rw[d0.out];exact(RA.other _ _ (by omega)).other _ _ (by omega)
 have g0:Row w1 D 50 #[(),(),(),(),(),Zs,Zs,(),(),(),Zs,V I 0 0,Zs]:=by rw[d0.out];exact(RD.other _ _ (by omega)).other _ _ (by omega)
 have h0:Row w1 E 50 #[o.k,o.a,(),(),(),Zs,Zs,(),(),(),Zs,V I 0 0,Zs]:=by rw[d0.out];exact(RE.set 0 _).set 1 _
 have s1:w1.1.size=w0.1.size:=by rw[d0.out];simp
 have c0:Ab w w w1:=by rw[d0.out];exact(b0.setCell (by show w.1.size<=E;omega) _).setCell (by show w.1.size<=E;omega) _
 have KM:=hd (jDi a0);have KT:H _:=jGq o.y an cn w1 (h.below c0) hm;have KL:H (Ab w w w1/\w1.1.size=w0.1.size/\Row w1 A 68 (opC o (V an o.y.p.m cn))/\Row w1 D 50 #[(),(),(),(),(),Zs,Zs,(),(),(),Zs,V I 0 0,Zs]/\Row w1 E 50 #[o.k,o.a,(),(),(),Zs,Zs,(),(),(),Zs,V I 0 0,Zs]):=⟨c0,s1,a0,g0,h0⟩;clear RA RD RE b0 a0 g0 h0 s1 c0 h;go_enter func29,ntmps29
 go_upto_region 2 with fail
 rw[<-i0.out,<-HE.out,<-HD.out,<-HA.out];go_upto_region 4 with fail
 rw[<-d0.out];clear x0 x1 z0 z1 f0 f1;go_wp2_with (refine Bv rfl 66 _ rfl A 2 rfl (syC o.y (V an o.y.p.m cn)).toList _ ?_ Ei rfl Tryz.infoSyL ?_;exact KM)
 refine Ax KT.out ?_;rintro e w2 ⟨g,rfl,o2,lg,j1,b2⟩;obtain⟨c0,s1,a0,g0,h0⟩:=KL.out;have q0:=a0.below b2 a0.lt;have t0:=g0.below b2 g0.lt;have m0:=h0.below b2 h0.lt;have TH:H (w2.there E 2 10):=fun j hj=>by
  refine⟨?_,m0.free (2+j)⟩;rw[m0.cell (2+j)];match j,hj with
  | 0,_|1,_|2,_|3,_|4,_|5,_|6,_|7,_|8,_|9,_=>rfl
 obtain⟨w3,j0⟩:=nmH (w2.setCells E 2 (syC o.y (V (Q g 0 I) o.y.p.m o.y.p.m)).toList);have o3:∀ x,x≠E->w3.1[x]?=w2.1[x]?:=fun x hx=>by rw[j0.out];exact jE E _ _ w2 x hx
 have r0:Row w3 A 68 (opC o (V an o.y.p.m cn)):=(o3 A (by omega)).trans q0;have u0:Row w3 D 50 #[(),(),(),(),(),Zs,Zs,(),(),(),Zs,V I 0 0,Zs]:=(o3 D (by omega)).trans t0;obtain⟨u2,U2⟩:=nmH (w2.setCell (Q E 2 I) o.y.k);have S2:Row u2 E 50 #[o.k,o.a,o.y.k,(),(),Zs,Zs,(),(),(),Zs,V I 0 0,Zs]:=by rw[U2.out];exact m0.set 2 _
 obtain⟨u3,U3⟩:=nmH (u2.setCell (Q E 3 I) o.y.f);have S3:Row u3 E 50 #[o.k,o.a,o.y.k,o.y.f,(),Zs,Zs,(),(),(),Zs,V I 0 0,Zs]:=by rw[U3.out];exact S2.set 3 _
 obtain⟨u4,U4⟩:=nmH (u3.setCell (Q E 4 I) o.y.t);have S4:Row u4 E 50 #[o.k,o.a,o.y.k,o.y.f,o.y.t,Zs,Zs,(),(),(),Zs,V I 0 0,Zs]:=by rw[U4.out];exact S3.set 4 _
 obtain⟨u5,U5⟩:=nmH (u4.setCell (Q E 5 I) o.y.r);have S5:Row u5 E 50 #[o.k,o.a,o.y.k,o.y.f,o.y.t,o.y.r,Zs,(),(),(),Zs,V I 0 0,Zs]:=by rw[U5.out];exact S4.set 5 _
 obtain⟨u6,U6⟩:=nmH (u5.setCell (Q E 6 I) o.y.p.r);have S6:Row u6 E 50 #[o.k,o.a,o.y.k,o.y.f,o.y.t,o.y.r,o.y.p.r,(),(),(),Zs,V I 0 0,Zs]:=by rw[U6.out];exact S5.set 6 _
 obtain⟨u7,U7⟩:=nmH (u6.setCell (Q E 7 I) o.y.p.k);have S7:Row u7 E 50 #[o.k,o.a,o.y.k,o.y.f,o.y.t,o.y.r,o.y.p.r,o.y.p.k,(),(),Zs,V I 0 0,Zs]:=by rw[U7.out];exact S6.set 7 _
 obtain⟨u8,U8⟩:=nmH (u7.setCell (Q E 8 I) o.y.p.n);have S8:Row u8 E 50 #[o.k,o.a,o.y.k,o.y.f,o.y.t,o.y.r,o.y.p.r,o.y.p.k,o.y.p.n,(),Zs,V I 0 0,Zs]:=by rw[U8.out];exact S7.set 8 _
 obtain⟨u9,U9⟩:=nmH (u8.setCell (Q E 9 I) o.y.p.i);have S9:Row u9 E 50 #[o.k,o.a,o.y.k,o.y.f,o.y.t,o.y.r,o.y.p.r,o.y.p.k,o.y.p.n,o.y.p.i,Zs,V I 0 0,Zs]:=by rw[U9.out];exact S8.set 9 _
 obtain⟨b1,o0⟩:=nmH (u9.setCell (Q E 10 I) o.y.p.b);have y0:Row b1 E 50 #[o.k,o.a,o.y.k,o.y.f,o.y.t,o.y.r,o.y.p.r,o.y.p.k,o.y.p.n,o.y.p.i,o.y.p.b,V I 0 0,Zs]:=by rw[o0.out];exact S9.set 10 _
 obtain⟨c1,p0⟩:=nmH (b1.setCell (Q E 11 I) (V (Q g 0 I) o.y.p.m o.y.p.m));have a1:Row c1 E 50 #[o.k,o.a,o.y.k,o.y.f,o.y.t,o.y.r,o.y.p.r,o.y.p.k,o.y.p.n,o.y.p.i,o.y.p.b,V (Q g 0 I) o.y.p.m o.y.p.m,Zs]:=by rw[p0.out];exact y0.set 11 _
 have e3:w3=c1:=by rw[j0.out,p0.out,o0.out,U9.out,U8.out,U7.out,U6.out,U5.out,U4.out,U3.out,U2.out];rfl
 have n0:Row w3 E 50 #[o.k,o.a,o.y.k,o.y.f,o.y.t,o.y.r,o.y.p.r,o.y.p.k,o.y.p.n,o.y.p.i,o.y.p.b,V (Q g 0 I) o.y.p.m o.y.p.m,Zs]:=by rw[e3];exact a1
 clear e3 S2 U2 S3 U3 S4 U4 S5 U5 S6 U6 S7 U7 S8 U8 S9 U9 y0 o0 a1 p0;have k1:=r0.cell 12;have m1:=n0.cell 12;have n1:=n0.free 12;simp at k1 m1;obtain⟨w4,e0⟩:=nmH (w3.setCell (Q E 12 I) o.s);have g1:H (Row w4 E 50 (opC o (V (Q g 0 I) o.y.p.m o.y.p.m))):=by show Row _ _ _ _;rw[e0.out];exact n0.set 12 _
 have v0:H (Row w4 D 50 #[(),(),(),(),(),Zs,Zs,(),(),(),Zs,V I 0 0,Zs]):=by show Row _ _ _ _;rw[e0.out];exact u0.other _ _ (by omega)
 obtain⟨w5,k0⟩:=nmH (w4.setRow D (opC o (V (Q g 0 I) o.y.p.m o.y.p.m)));have e1:=rr k0 v0;have KF:H (Ow w5 w (txD o.y.p.m o.y.p.S) (V (Q g 0 I) o.y.p.m o.y.p.m) (fun x=>x=g)/\w.1.size<=g/\g<w5.1.size/\Ab w w w5):=by
  have s0:=c0.size;have s2:=b2.size;have z3:w3.1.size=w2.1.size:=by rw[j0.out];exact jO _ _ _ _
  have z5:w5.1.size=w3.1.size:=by rw[k0.out,e0.out];simp
  have t5:∀ x,x≠E->x≠D->w5.1[x]?=w2.1[x]?:=fun x h1 h2=>by
   rw[k0.out,e0.out];exact((Cj _ _ _ _ (fun e=>h2 e)).trans (Ck w3 (Q E 12 I) x _ (fun e=>h1 e))).trans (o3 x h1)
  refine⟨(o2.base (by omega)).frame (fun x hx _=>t5 x (by have i1:x=g:=hx;omega) (by have i1:x=g:=hx;omega)),by omega,by omega,?_⟩;rw[k0.out,e0.out,j0.out];exact jG ((jP (c0.trans (b2.mono s0)) (by omega) _ _).setCell (by show w.1.size<=E;omega) _) (by omega) _
 clear o2 lg j1 b2 q0 t0 m0 r0 u0 n0 o3 c0 s1 a0 g0 h0 KL;go_wp2_with (first|(refine Dd rfl 31 _ _ rfl E 2 (syC o.y (V (M ⟨g,0,I⟩) o.y.p.m o.y.p.m)) rfl rfl ?_ Tryz.infoSy (by simp[Aq]) ?_;exact TH;rw[<-j0.out])|(rw[<-e0.out];refine Bg rfl 50 _ rfl E rfl 50 (opC o (V (M ⟨g,0,I⟩) o.y.p.m o.y.p.m)) (0,0) _ ?_ Fo rfl Tryz.infoOp ?_;exact g1)|(refine Ca rfl 50 _ _ rfl D (opC o (V (M ⟨g,0,I⟩) o.y.p.m o.y.p.m)) rfl rfl 50 #[(),(),(),(),(),Zs,Zs,(),(),(),Zs,V I 0 0,Zs] ?_ Tryz.infoOp rfl (by simp[Aq]) ?_;exact v0;rw[<-k0.out]))
 exact B7 (v:=opV o (V (Q g 0 I) o.y.p.m o.y.p.m)) (Cs results29 _ _ D 50 _ (0,0) _ rfl e1 Fo rfl Tryz.infoOp) rfl ⟨g,rfl,KF⟩
theorem jIy (o:Op9) (a9 b9:OA) (c9 d9:Nat) (w:Ad) (h9:jK w a9 o.y.p.m o.y.p.S) (k9:jK w b9 o.y.p.m o.y.p.S) (hs:o.y.p.m<=1048576):CB 31 #[opV o (V a9 o.y.p.m c9),opV o (V b9 o.y.p.m d9)] w Aw:=by
 obtain⟨A,HA⟩:=nmH w.1.size;obtain⟨D,HD⟩:=nmH (w.1.size+1);obtain⟨w0,a0⟩:=nmH ((w.alloc (J (opC o (V a9 o.y.p.m c9)) 50)).alloc (J (opC o (V b9 o.y.p.m d9)) 50));have RA:=(zP a0 HA).out;have RD:=(JO a0 HD).out;have b0:=bl2 a0;have KB:=hd b0;have KA:=hd (jDi RA);have KD:=hd (jDi RD);have KE:H _:=jCx o.y a9 b9 c9 d9 w0 (h9.below b0) (k9.below b0) hs;have KR:H (Row w0 A 50 (opC o (V a9 o.y.p.m c9))/\Row w0 D 50 (opC o (V b9 o.y.p.m d9))):=⟨RA,RD⟩;have x0:=RA.cell 0;have x1:=RA.cell 1;have y0:=RD.cell 0;have y1:=RD.cell 1;simp at x0 x1 y0 y1;have nk:(o.k !=o.k)=Av:=by simp
 have na:(o.a !=o.a)=Av:=by simp
 have n3:(o.s.toList !=o.s.toList)=Av:=by simp
 have e0:=vC o.s;go_enter func31,ntmps31
 go_upto_region 1 with fail
 rw[<-a0.out,<-HD.out,<-HA.out];go_upto_region 5 with fail
 go_wp2_with (first|(refine Bv rfl 31 _ rfl A 2 rfl (syC o.y (V a9 o.y.p.m c9)).toList _ ?_ Cd rfl Tryz.infoSy ?_;exact KA)|(refine Bv rfl 31 _ rfl D 2 rfl (syC o.y (V b9 o.y.p.m d9)).toList _ ?_ Cd rfl Tryz.infoSy ?_;exact KD))
 refine Ax KE.out ?_;rintro e w1 ⟨rfl,b1⟩;have c0:=(KR.1.below b1 KR.1.lt).cell 12;have d0:=(KR.2.below b1 KR.2.lt).cell 12;simp at c0 d0;have KF:=hd (jA KB b1);go_wp2
 go_ret
 exact⟨rfl,KF⟩
theorem jEs (o:Op9) (B:Nat) (v:Aj) (l q:Nat) (F:Nat->Prop) (w:Ad) (h:Ow w B (txD o.y.p.m o.y.p.S) v F) (hm:o.y.p.m<=1048576) (hk:l<=500000000) (hq:l+o.y.p.m=q):Ak prog 33 #[opV o v,(l:Int)] w fun e w'=>e=Ae (q:Int)/\Trn w w' F:=by
 obtain⟨A,HA⟩:=nmH w.1.size;obtain⟨w0,a0⟩:=nmH (w.alloc (J (opC o v) 50));have R0:=(jZ a0 HA).out;have b0:=bl1 a0;have c0:=hd (Trn.ofBelow F b0);have KR:=hd (jDi R0);have KM:=hd (jEu o.y B v l q F w0 (h.below b0) hm hk hq);go_enter func33,ntmps33
 go_upto_region 1 with fail
 rw[<-a0.out,<-HA.out];go_wp2_with (refine Bv rfl 31 _ rfl A 2 rfl (syC o.y v).toList _ ?_ Cd rfl Tryz.infoSy ?_;exact KR)
 refine Ax KM.out ?_;rintro e w1 ⟨rfl,hT⟩;have KT:=hd (c0.trans hT);go_wp2
 go_ret
 exact⟨rfl,KT⟩
variable {H:Type} {enc:TypeId×Value->H} {w:World} {base:Nat} {spare:Nat->Bool} {held:Bool}
theorem jPi {α:Type} (l:List α) (h:l.length=13):∃ c0 c1 c2 c3 c4 c5 c6 c7 c8 c9 c10 c11 c12,l=[c0,c1,c2,c3,c4,c5,c6,c7,c8,c9,c10,c11,c12]:=by
 match l,h with
 | [c0,c1,c2,c3,c4,c5,c6,c7,c8,c9,c10,c11,c12],_=>exact⟨c0,c1,c2,c3,c4,c5,c6,c7,c8,c9,c10,c11,c12,rfl⟩
theorem jHn {a0:Nat} {cs:List Aj} {x:DataW H×List MemPlace} (h:DataW.trod enc prog w base spare held a0 68 cs=M x):∃ (o:Op9) (a:OA) (c:Nat),cs=(opC o (V a o.y.p.m c)).toList/\jK w a o.y.p.m o.y.p.S/\jR4 o:=by
 have f0:Tryz.prog.cellsOf 68=13:=by kernel_rfl
 have d0:Tryz.prog.cellsOf 66=10:=by kernel_rfl
 have i0:Tryz.prog.cellsOf 9=1:=by kernel_rfl
 have h0:Tryz.prog.cellsOf 3=1:=by kernel_rfl
 obtain⟨xs,f,_,_,hl,b0,hf⟩:=Ey E5 h;rw[f0] at hl;obtain⟨c0,c1,c2,c3,c4,c5,c6,c7,c8,c9,j0,k0,m0,rfl⟩:=jPi cs hl;obtain⟨y0,y1,y2,y3,rfl⟩:=jJi xs b0;have g0:=hf 0 _ rfl;have g1:=hf 1 _ rfl;have g2:=hf 2 _ rfl;have g3:=hf 3 _ rfl;simp[i0,d0,h0] at g0 g1 g2 g3;obtain⟨k,e0,_,_⟩:=Dr Db g0;obtain⟨aa,e1,_,_⟩:=Dr Db g1;obtain⟨y,an,cn,e2,ht,hB⟩:=jJ6 g2;obtain⟨s,e3,_,hs⟩:=Fk C6 g3;simp at e0 e1 e2 e3;subst e0 e1 e3;obtain⟨rfl,rfl,rfl,rfl,rfl,rfl,rfl,rfl,rfl,rfl⟩:=e2;exact⟨⟨k,aa,y,s⟩,an,cn,rfl,ht,⟨hB,hs⟩⟩
end Go.Proofs.YtcaejlalnjnifaaGreat
namespace Go.Proofs.YtcaejlalnjnifaaGreat
abbrev yM (Y:Nat->Sy) (i:Nat):Nat:=9+(Y i).p.m
theorem jPs (k:Nat) (Y:Nat->Sy) (m:Nat):ofy k Y m=k+tot (yM Y) m:=by
 induction m with
 | zero=>rfl
 | succ m ih=>show ofy k Y m+9+(Y m).p.m=k+(tot (yM Y) m+(9+(Y m).p.m));omega
theorem jCc (m:Nat) (Y Z:Nat->Sy) (j:Nat):tot (yM (wyS m Y Z)) (m+j)=tot (yM Y) m+tot (yM Z) j:=by
 induction j with
 | zero=>exact jCb (fun i hi=>by show 9+(wyS m Y Z i).p.m=_;unfold wyS;rw[A6 (show i<m from hi)])
 | succ j ih=>
  show tot (yM (wyS m Y Z)) (m+j)+(9+(wyS m Y Z (m+j)).p.m)=tot (yM Y) m+(tot (yM Z) j+(9+(Z j).p.m));have:wyS m Y Z (m+j)=Z j:=by unfold wyS;rw[A5 (by omega),Fv]
  rw[this];omega
theorem jGr (a:Nat) (Y:Nat->Sy) (m:Nat):tot (yM (QH a Y)) m<=tot (yM Y) (m+1):=by
 induction m with
 | zero=>exact Bi _
 | succ m ih=>
  show tot (yM (QH a Y)) m+(9+(QH a Y m).p.m)<=tot (yM Y) (m+1)+(9+(Y (m+1)).p.m);by_cases h:m<a
  .have e:tot (yM (QH a Y)) m=tot (yM Y) m:=jCb (fun i hi=>by show 9+(QH a Y i).p.m=_;unfold QH;rw[A6 (by omega)]);have e2:QH a Y m=Y m:=by unfold QH;rw[A6 h]
   have e3:tot (yM Y) (m+1)=tot (yM Y) m+(9+(Y m).p.m):=rfl;rw[e,e2,e3];omega
  .have e2:QH a Y m=Y (m+1):=by unfold QH;rw[A5 h]
   rw[e2];omega
theorem jLk {g:Nat->Nat} {c:Nat} (n:Nat) (h:∀ i,i<n->g i<=c):tot g n<=n*c:=by
 induction n with
 | zero=>exact Bi _
 | succ n ih=>
  have h1:=ih (fun i hi=>h i (by omega));have h2:=h n (by omega);show tot g n+g n<=(n+1)*c;rw[F5];omega
abbrev mkT (n:Nat) (zs:List Int) (T:Ns):Nat:=mq3 n T.N zs T.m T.Y
theorem XR (n:Nat) (zs:List Int) (T:Ns):mkT n zs T=1+tot (fun i=>wkN (T.N i)) n+zs.length+tot (yM T.Y) T.m:=by
 unfold mkT mq3;rw[jPs];rfl
theorem jQx (s:BA) (f:Int) (i:Nat):(brS s f i).p.m<=16:=jOe _ _ _
theorem jQ6 {f:Int} {n:Nat} {zs:List Int} {T:Ns} (h:NsG f n zs T) {a:Nat} (ha:a<T.m):mkT n zs (hrT n zs T a)<=mkT n zs T+1048700:=by
 rw[XR,XR];obtain⟨m1,em⟩:∃ x,T.m=x+1:=⟨T.m-1,by omega⟩;unfold hrT;by_cases hp:ToP n zs (T.Y a).t
 .rw[A6 hp];have b0:=h.nd (i:=(T.Y a).t.toNat) (by have:=hp.1;omega);have hL:=jJz (id:=(T.N (T.Y a).t.toNat).i) (f:=(T.N (T.Y a).t.toNat).f) (h.nh (i:=(T.Y a).t.toNat) (by have:=hp.1;omega) (h.y a ha));have h1:=jLl (g:=fun i=>wkN (if i=(T.Y a).t.toNat then hdN (T.N (T.Y a).t.toNat) (T.Y a) else T.N i)) (h:=fun i=>wkN (T.N i)) (p:=(T.Y a).t.toNat) (c:=1048600) (fun i hi=>by simp only[A5 hi];exact Ay _) (by
   simp only[C0];have:=hL.w
   unfold wkN hdN;show 2+tot (fun i=>wkS (nhS _ _ _ _ _ i)) (nhN _ _ _ _ _)<=_;omega) n
  have a0:tot (fun i=>wkN (if i=(T.Y a).t.toNat then hdN (T.N (T.Y a).t.toNat) (T.Y a) else T.N i)) n<=tot (fun i=>wkN (T.N i)) n+1048600:=by
   refine Bx h1 ?_;split <;> omega
  have h2:=jCc (T.m-1) (QH a T.Y) (hdY (T.N (T.Y a).t.toNat) (T.Y a)) (hdM (T.N (T.Y a).t.toNat) (T.Y a));have h3:=jGr a T.Y m1;have h4:tot (yM (hdY (T.N (T.Y a).t.toNat) (T.Y a))) (hdM (T.N (T.Y a).t.toNat) (T.Y a))<=hdM (T.N (T.Y a).t.toNat) (T.Y a)*9:=jLk _ (fun i _=>by show 9+(nhY _ _ _ _ _ i).p.m<=9;rw[hL.p i];omega);have h5:hdM (T.N (T.Y a).t.toNat) (T.Y a)<=10:=hL.m;show 1+tot (fun i=>wkN (if i=(T.Y a).t.toNat then hdN (T.N (T.Y a).t.toNat) (T.Y a) else T.N i)) n+zs.length+tot (yM (wyS (T.m-1) (QH a T.Y) (hdY (T.N (T.Y a).t.toNat) (T.Y a)))) (T.m-1+hdM (T.N (T.Y a).t.toNat) (T.Y a))<=_;rw[h2];have e1:T.m-1=m1:=by omega
  rw[e1,em];omega
 .rw[A5 hp];have h3:=jGr a T.Y m1;show 1+tot (fun i=>wkN (T.N i)) n+zs.length+tot (yM (QH a T.Y)) (T.m-1)<=_;have e1:T.m-1=m1:=by omega
  rw[e1,em];omega
theorem jRm {f:Int} {n:Nat} {zs:List Int} {T:Ns} {o:Op9} (h:NsG f n zs T) (ho:OpK o):mkT n zs (opT f n zs T o)<=mkT n zs T+1048700:=by
 unfold opT;cases e:opB f n zs T o with
 | false=>exact Nat.le_add_right _ _
 | true=>
  rw[A6 rfl];have hp:=jN8 e;unfold nxT;rcases hp with ⟨e,ha,hm⟩|⟨e,ha,hm⟩|⟨e,ha,hb,hm⟩|⟨e,hb,hm⟩
  .rw[A6 e];exact jQ6 h (by omega)
  .rw[A5 (by omega),A6 e,XR,XR];have h2:=jCc T.m T.Y (fun _=>T.Y o.a.toNat) 1;have h3:tot (yM (fun _=>T.Y o.a.toNat)) 1=0+(9+(T.Y o.a.toNat).p.m):=rfl;have h4:=(h.y o.a.toNat (by omega)).m;show 1+tot (fun i=>wkN (T.N i)) n+zs.length+tot (yM (wyS T.m T.Y (fun _=>T.Y o.a.toNat))) (T.m+1)<=_;omega
  .rw[A5 (by omega),A5 (by omega),A6 e,XR,XR];have h2:=jCc T.m T.Y (fun _=>o.y) 1;have h3:tot (yM (fun _=>o.y)) 1=0+(9+o.y.p.m):=rfl;have h4:=ho.y.m;show 1+tot (fun i=>wkN (T.N i)) n+zs.length+tot (yM (wyS T.m T.Y (fun _=>o.y))) (T.m+1)<=_;omega
  .rw[A5 (by omega),A5 (by omega),A5 (by omega),XR,XR];have h2:=jCc T.m T.Y (brS o.s f) (brN o.s f);have h3:tot (yM (brS o.s f)) (brN o.s f)<=brN o.s f*25:=jLk _ (fun i _=>by have:=jQx o.s f i;show 9+(brS o.s f i).p.m<=25;omega);have h4:=(jCp (s:=o.s) (f:=f)).2;show 1+tot (fun i=>wkN (T.N i)) n+zs.length+tot (yM (wyS T.m T.Y (brS o.s f))) (T.m+brN o.s f)<=_;omega
theorem NsG.w {f:Int} {n:Nat} {zs:List Int} {T:Ns} (h:NsG f n zs T) (hk:mkT n zs T<=400000000):NtW n T.N zs T.m T.Y:=by
 have a0:=h.n10;refine⟨by omega,fun i hi=>⟨by have:=(h.nd hi).2.2.2;omega,fun j hj=>(h.k i hi j hj).s⟩,by omega,by omega,fun i hi=>(h.y i hi).m,hk⟩
theorem jSs {o:Op9} (h:wtO o<=1048576):OpK o:=by
 unfold wtO wtY wtP at h;refine⟨⟨by omega,by omega,by omega,by omega,fun j hj=>?_⟩,by omega⟩;have:(o.y.p.S j).size<=tot (fun j=>(o.y.p.S j).size) o.y.p.m:=QD (g:=fun j=>(o.y.p.S j).size) hj
 omega
theorem jGx {n:Nat} {N:Nat->Nd} {zs:List Int} {m:Nat} {Y:Nat->Sy} (h:wtT n N zs m Y<=1048576) (i:Nat) (hi:i<m):SyK (Y i):=by
 unfold wtT jGy at h;have h1:=QD (g:=fun i=>wtY (Y i)) hi;have h2:wtY (Y i)<=1048576:=by omega
 unfold wtY wtP at h2;refine⟨by omega,by omega,by omega,by omega,fun j hj=>?_⟩;have:((Y i).p.S j).size<=tot (fun j=>((Y i).p.S j).size) (Y i).p.m:=QD (g:=fun j=>((Y i).p.S j).size) hj
 omega
theorem jR0 {n:Nat} {N:Nat->Nd} {zs:List Int} {m:Nat} {Y:Nat->Sy} (h:wtT n N zs m Y<=1048576):mq3 n N zs m Y<=40000000:=by
 unfold wtT jIe jGy at h;have h1:=jFi (g:=fun i=>wkN (N i)) (h:=fun i=>wtN (N i)) (c:=2) (fun i=>jOt (N i)) n;have h2:=jN7 (mq2 n N zs) Y m;unfold mq3;unfold mq2 mq1 at h2 |-;omega
theorem jSe {f:Int} {n:Nat} {N:Nat->Nd} {zs:List Int} {m:Nat} {Y:Nat->Sy} {o:Op9} (h:wtT n N zs m Y<=1048576) (ho:OpK o):NtW n (doT f n zs ⟨N,m,Y⟩ o).N zs (doT f n zs ⟨N,m,Y⟩ o).m (doT f n zs ⟨N,m,Y⟩ o).Y:=by
 obtain⟨hQ,hW⟩:=jBe h;unfold doT;cases e:ntB f n N zs m with
 | false=>exact hW
 | true=>
  rw[A6 rfl];have hG:NsG f n zs ⟨N,m,Y⟩:=⟨jJ1 e,fun i hi=>(hQ i hi).k,jGx h⟩;refine(jRn hG ho).w ?_;have h1:=jRm hG ho;have h2:mkT n zs ⟨N,m,Y⟩<=40000000:=jR0 h;omega
end Go.Proofs.YtcaejlalnjnifaaGreat
namespace Go.Proofs.YtcaejlalnjnifaaGreat
theorem vN {w w':Ad} {B e s n g cap:Nat} {xs:List Aj} (h:w.ownsRow B e s (V g n cap) n xs) (_hs:w.1.size<=w'.1.size) (hg:w'.1[g]?=w.1[g]?):w'.ownsRow B e s (V g n cap) n xs:=by
 refine⟨h.1,?_⟩;rcases h.2 with k|⟨g',b0,a0,e',h1,h2,h3⟩
 .exact .inl k
 .cases e';exact .inr ⟨g,cap,a0,rfl,h1,hg.trans h2,h3⟩
theorem jCq (c:Nat->Nat->Aj) (n:Nat):cL 10 (fun i q=>c (i+0) q) n=cL 10 c n:=rfl
theorem jIr {W:Ad} {B g m cap p k j:Nat} {c:Nat->Nat->Aj} {u:Aj} (h:W.ownsRow B 31 10 (V g m cap) m (cL 10 c m)) (a0:p+k<=m) (hu:(cL 10 (fun i q=>c (i+p) q) k)[j]?=M u):W.cell? (((Q g (p*10) I):Al).add j)=M u:=by
 have hj:j<k*10:=by have:=(Bz.1 hu).1;rw[jY] at this;exact this
 have h1:=jT 10 (fun i q=>c (i+p) q) k (j / 10) (j % 10) (by omega) (by omega);rw[vA,hu] at h1;have h2:=jT 10 c m (j / 10+p) (j % 10) (by omega) (by omega);have e:(j / 10+p)*10+j % 10=p*10+j:=by omega
 rw[e] at h2;rw[Addr.add_mid,Bt h _ (by omega),h2,h1]
theorem cutE {W:Ad} {B g cap a7 a8 m m1:Nat} {c:Nat->Nat->Aj} (ha:a7<m) (h8:a7+1=a8) (hm:m-1=m1) (h:W.ownsRow B 31 10 (V g (a7+(m-a8)) cap) (a7+(m-a8)) (cL 10 c a7++cL 10 (fun i q=>c (i+a8) q) (m-a8))):W.ownsRow B 31 10 (V g m1 cap) m1 (cL 10 (fun i q=>if i<a7 then c i q else c (i+1) q) m1):=by
 subst h8;rw[jIq 10 _ _ _ _ (by omega),show a7+(m-(a7+1))=m1 by omega] at h;have e:cL 10 (fun i q=>if i<a7 then c i q else c (i-a7+(a7+1)) q) m1=cL 10 (fun i q=>if i<a7 then c i q else c (i+1) q) m1:=vX fun i q _ _=>by
  by_cases k:i<a7
  .rw[A6 k,A6 k]
  .rw[A5 k,A5 k,show i-a7+(a7+1)=i+1 by omega]
 rw[e] at h;exact h
theorem jQ1 {w:Ad} {E:Nat->Prop} {m m1 a7:Nat} {Y:Nat->Sy} {c:Nat->Nat->Aj} (ha:a7<m) (hm:m-1=m1) {i q:Nat} (hi:i<m1) (hq:q<10) (h:∀ i q,i<m->q<10->Rf w E (syD (Y i) q) (c i q)):Rf w E (syD (QH a7 Y i) q) (if i<a7 then c i q else c (i+1) q):=by
 unfold QH;by_cases k:i<a7
 .rw[A6 k,A6 k];exact h i q (by omega) hq
 .rw[A5 k,A5 k];exact h (i+1) q (by omega) hq
theorem NtE.later {w w':Ad} {B B1 n:Nat} {N:Nat->Nd} {zs:List Int} {m m':Nat} {Y Y':Nat->Sy} {g1 c1 g3 c3 g c:Nat} {v2:Aj} {cc:Nat->Nat->Aj} {X:Nat->Prop} (h:NtE w B n N zs m Y g1 c1 v2 g3 c3 X) (hb:Ab w w w') (ho:w'.ownsRow B1 31 10 (V g m' c) m' (cL 10 cc m')) (hB:B<=B1/\w.1.size<=B1) (hr:∀ i q,i<m'->q<10->Rf w (EX g1 g3 X) (syD (Y' i) q) (cc i q)):NtE w' B n N zs m' Y' g1 c1 v2 g c X:=by
 have lg:=A0 ho g rfl;have up:∀ {d:Dt} {v:Aj},Rf w (EX g1 g3 X) d v->Rf w' (EX g1 g X) d v:=fun r=>(r.since hb.size (fun b _ hl=>hb.block b hl)).mono (fun b k=>by rcases k with k|k|k;exact .inl (.inl k);exact .inr (by omega);exact .inl (.inr (.inr k)))
 obtain⟨cn,h1,h2⟩:=h.o;have l1:=A0 h1 g1 rfl;exact⟨⟨cn,jF h1 hb,fun i q hi hq=>up (h2 i q hi hq)⟩,up h.z,⟨cc,jX ho hB.1,fun i q hi hq=>up (hr i q hi hq)⟩,by omega⟩
theorem jSf {w wy w5 w6 w7 w8:Ad} {gN o A D a0:Nat} {vs:List Aj} {v:Aj} {cs:Array Aj} (h8:w8=w7.setRow D cs) (h7:w7=w6.setCell (Q A 3 I) v) (h6:w5.grownBy w6 (M a0)) (h5:w5=wy.setCells gN o vs) (hb:Ab w w wy):w8.os=w.os/\w8.tape=w.tape/\w8.output=w.output:=by
 subst h8 h7;have e5:=qY gN vs o wy;rw[<-h5] at e5;exact⟨h6.os.trans (e5.1.trans hb.os),h6.tape.trans (e5.2.1.trans hb.tape),h6.output.trans (e5.2.2.trans hb.output)⟩
theorem jHw (B:Nat) (f:Int) (n:Nat) (N:Nat->Nd) (zs:List Int) (m:Nat) (Y:Nat->Sy) (gN cN:Nat) (a2:OA) (c2 gW cW a7:Nat) (y:Sy) (X9:Nat->Prop) (w:Ad) (h:NtE w B n N zs m Y gN cN (V a2 zs.length c2) gW cW X9) (hB:B<=w) (hm:m<=3000) (hn:n<=1048576) (hz:zs.length<=1048576) (ha:a7<m) (Hy:H (Y a7=y)) (HT:H (¬ ToP n zs y.t)):Ak prog 138 #[ntV f (V gN n cN) (V a2 zs.length c2) (V gW m cW),(a7:Int)] w fun r w'=>∃ g c,r=Ae (ntV f (V gN n cN) (V a2 zs.length c2) (V (Q g 0 I) (m-1) c))/\NtE w' B n N zs (m-1) (QH a7 Y) gN cN (V a2 zs.length c2) g c X9/\Ab w w w'/\w.1.size<=g:=by
 obtain⟨cy,o1,y0⟩:=h.y;have y1:m<=cW:=by
  rcases o1.2 with ⟨e,_⟩|⟨g,cap,p2,e,_,_,hc,_⟩
  .cases e
  .cases e;exact hc
 have v2:B<=w:=hB;obtain⟨bb,fb,a9,c9,ea,v0,t9⟩:=zY h.rdY ha;obtain⟨rfl,rfl⟩:gW=bb/\0=fb:=by simp at ea;exact⟨ea.1,ea.2⟩
 rw[Hy.out] at v0 t9;rw[Bq] at v0;obtain⟨zl,a1⟩:=nnH zs.length;obtain⟨m1,q0⟩:=nnH (m-1);have t2:m1<=3000:=by have:=q0.out;omega
 obtain⟨A,HA⟩:=nmH w.1.size;obtain⟨D,HD⟩:=nmH (w.1.size+1);obtain⟨X,HX⟩:=nmH (w.1.size+1+1);obtain⟨w1,o0⟩:=nmH (((w.alloc (J #[f,V gN n cN,V a2 zs.length c2,V gW m cW] 48)).alloc (J #[(),V I 0 0,V I 0 0,V I 0 0] 48)).alloc (J (syC y (V a9 y.p.m c9)) 31));have RA:=zD o0 HA;have RD:=xL o0 HD;have RX:=xR o0 HX;have b1:=bl3 o0;have e1:H (Ab w w w1):=b1;have lA:w.1.size<=A/\A<D/\D<X/\X<w1:=⟨by have:=HA.out;omega,by have h1:=HA.out;have h2:=HD.out;omega,by have h1:=HD.out;have h2:=HX.out;omega,RX.out.lt⟩;have t1:H (w1.ownsRow B 31 10 (V gW m cW) m (cL 10 cy m)):=jF o1 b1;have r1:H (∀ W:Ad,W.ownsRow B 31 10 (V gW m cW) m (cL 10 cy m)->∀ p k,p+k<=m->∀ j u,(cL 10 (fun i q=>cy (i+p) q) k)[j]?=M u->W.cell? (((Q gW (p*10) I):Al).add j)=M u):=fun W hW p k i2 j u hu=>jIr hW i2 hu
 have z0:H (∀ i q,i<m->q<10->(cy i q).oneCell'=Aw):=fun i q hi hq=>jB8 (y0 i q hi hq).rd
 have s1:H (∀ u∈cL 10 cy a7,u.oneCell'=Aw):=fun u hu=>by obtain⟨i,q,hi,hq,rfl⟩:=jAt (by omega) hu;exact z0.out i q (by omega) hq
 have KE:H (NtE w B n N zs m Y gN cN (V a2 zs.length c2) gW cW X9):=h;have KY:H (∀ i q,i<m->q<10->Rf w (EX gN gW X9) (syD (Y i) q) (cy i q)):=y0;have KZ:H (Rf w (EX gN gW X9) (inD zs) (V a2 zs.length c2)):=h.z;have o2:H (jK w a9 y.p.m y.p.S):=t9;have g1:H (((w.alloc (J #[f,V gN n cN,V a2 zs.length c2,V gW m cW] 48)).alloc (J #[(),V I 0 0,V I 0 0,V I 0 0] 48)).rangeAt gW (a7*10) (syC y (V a9 y.p.m c9)).toList):=(World.rangeAt_alloc (World.rangeAt_alloc v0 _) _);obtain⟨a8,H8⟩:=nnH (a7+1);have r2:a8<=m:=by have:=H8.out;omega
 have H9:H (a7+(m-a8)=m1):=by have:=H8.out;have:=q0.out;show _=_;omega
 have u2:IntKind.i64.wrap ((a7:Int)+1)=(a8:Int):=by have:=H8.out;rw[A8];omega
 have s2:(a7:Int)<(m:Int):=by omega
 have n2:(m:Int)<=(cW:Int):=by omega
 rw[a1.out] at RA o0 KE KZ g1 |-;rw[q0.out];have jIb:∀ {i q:Nat},a7<m->m-1=m1->i<m1->q<10->Rf w (EX gN gW X9) (syD (QH a7 Y i) q) (if i<a7 then cy i q else cy (i+1) q):=fun h1 h2 h3 h4=>jQ1 h1 h2 h3 h4 y0
 clear h b1 o1 y0 v0 t9 ea hB;go_enter func138,ntmps138
 have x3:=RA.cell 3;simp at x3;have m2:((w.alloc (J #[f,V gN n cN,V a2 zl c2,V gW m cW] 48)).alloc (J #[(),V I 0 0,V I 0 0,V I 0 0] 48)).cell? (Q w 3 I)=M (V gW m cW):=by simp
 go_wp2_with (refine Bv rfl 31 _ rfl gW (a7*10) rfl (syC y (V a9 y.p.m c9)).toList _ ?_ Cd rfl Tryz.infoSy ?_;exact g1)
 rw[<-o0.out,<-HX.out,<-HD.out,<-HA.out];clear m2 g1 o0 HX HD HA;go_upto_region 2 with fail
 refine JE Tryz.mixed 14 [([],[0,5,11,13]),([],[5,11,13]),([1],[2,5,11,13]),([],[5,11,13]),([2,3],[4,5,11,13]),([0,4],[5,11,13]),([],[10,11,13]),([6],[7,10,11,13]),([],[10,11,13]),([8],[10,11,13]),([7,9],[10,11,13]),([0,5,10],[11,13]),([],[13]),([0,5,10,11,12],[13])] (by kernel_rfl) (fun L A9 W=>∃ (i0:Nat) (c0:Nat) (f0:Nat) (g0:Nat) (a0:Nat) (b0:Nat),A9=⟨(List.toArray (α:=Aj) ((ntV f (V gN n cN) (V a2 zl c2) (V gW m cW))::((a7:Int))::(Af A)::O::(Af D)::(Af X)::O::O::(Af (Q A 3 I))::(V gW m cW)::((a7:Int))::(Af (Q gW (a7*10) I))::(Ai #[y.k,y.f,y.t,y.r,y.p.r,y.p.k,y.p.n,y.p.i,y.p.b,V a9 y.p.m c9])::(cX (L 0) (V i0 0 0) O)::(cX (L 1) (Af (Q A 3 I)) O)::(cX (L 2) (V gW m cW) O)::(cX (L 3) (a7:Int) O)::(cX (L 4) (V gW a7 cW) O)::(cX (L 5) (V c0 a7 f0) O)::(cX (L 6) (Af (Q A 3 I)) O)::(cX (L 7) (V gW m cW) O)::(cX (L 8) (a7:Int) O)::(cX (L 9) (a8:Int) O)::(cX (L 10) (V (Q gW g0 I) (m-a8) (cW-a8)) O)::(cX (L 11) (V a0 m1 b0) O)::(cX (L 12) (Af (Q A 3 I)) O)::O::O::O::O::O::O::O::O::O::O::O::O::O::O::O::O::O::O::O::O::O::O::O::O::O::O::O::O::O::O::O::O::O::O::O::O::O::O::[])),[]⟩/\(L 13=Av->Ab w1 w1 W)/\(L 0=Aw->L 5=Av->W.ownsRow w1 31 10 (V i0 0 0) 0 ([]))/\(L 5=Aw->L 11=Av->W.ownsRow w1 31 10 (V c0 a7 f0) a7 (cL 10 cy a7))/\(L 11=Aw->W.ownsRow w1 31 10 (V a0 m1 b0) m1 (cL 10 (fun i q=>if i<a7 then cy i q else cy (i+1) q) m1))/\(L 10=Aw->m=a8\/g0=a8*10)/\(L 13=Aw->Trn w1 W (fun x=>x=A)/\Row W A 48 #[f,V gN n cN,V a2 zl c2,V a0 m1 b0])) ?_ ?_ ?_
 .exact⟨0,0,0,0,0,0,rfl,(fun _=>jD _),(fun h=>by cases h),(fun h=>by cases h),(fun h=>by cases h),(fun h=>by cases h),(fun h=>by cases h)⟩
 .rintro a9 wx ⟨i0,c0,f0,g0,a0,b0,x1,-,-,-,x0,-,p0⟩;simp only[Nat.reduceLT,Dn,jJ] at x1;subst x1;replace x0:=(x0 rfl)
  replace p0:=(p0 rfl)
  have i1:H (wx.ownsRow w1 31 10 (V a0 m1 b0) m1 (cL 10 (fun i q=>if i<a7 then cy i q else cy (i+1) q) m1)):=x0;have j1:H (Row wx A 48 #[f,V gN n cN,V a2 zl c2,V a0 m1 b0]):=p0.2;have u0:H (Trn w1 wx (fun x=>x=A)):=p0.1;have p1:H (Ab w w wx):=e1.trans (p0.1.below (fun x e=>by have e9:x=A:=e;omega) e1.out.size);have g2:H (Row wx X 31 (syC y (V a9 y.p.m c9))):=(u0.block X RX.lt (fun e=>by have e9:X=A:=e;omega)).trans RX.out;have u1:H (Row wx D 48 #[(),V I 0 0,V I 0 0,V I 0 0]):=(u0.block D RD.lt (fun e=>by have e9:D=A:=e;omega)).trans RD.out;have k2:=u0.size;clear x0 p0;have z2:=g2.cell 2;have za:=j1.cell 1;have zb:=j1.cell 2;simp at z2 za zb;obtain⟨w8,t0⟩:=nmH (wx.setRow D #[f,V gN n cN,V a2 zl c2,V a0 m1 b0]);have f2:=rr t0 u1;have KF:H (NtE w8 B n N zs m1 (QH a7 Y) gN cN (V a2 zl c2) a0 b0 X9/\Ab w w w8/\w.1.size<=a0):=by
   have b8:Ab w w w8:=by rw[t0.out];exact jG p1 (by omega) _
   have lg:=A0 i1 a0 rfl;have og:w8.ownsRow w1 31 10 (V a0 m1 b0) m1 (cL 10 (fun i q=>if i<a7 then cy i q else cy (i+1) q) m1):=by
    rw[t0.out];exact vN i1 (by simp) (Cj _ _ _ _ (by omega))
   exact⟨KE.later b8 og (by omega) (fun i q hi hq=>jIb ha q0.out hi hq),b8,by have:=e1.size;omega⟩
  clear u0 i1 KE k2;by_cases c1:0<=y.t/\y.t<(n:Int)
  have cz:y.t∈zs:=Classical.not_not.1 (fun k=>HT ⟨c1,k⟩);have f1:H (CS 43 #[y.t,(),((n:Int)-1:Int)] wx Aw):=by
   have:=jM y.t 0 ((n:Int)-1) wx
   rw[show inB y.t 0 ((n:Int)-1)=Aw from Bf (by have:=c1;omega)] at this;exact this
  have b2:H (CS 139 #[V a2 zl c2,y.t] wx Aw):=by
   have:=QT a2 c2 zs y.t wx ((qK.1 (by rw[a1.out];exact KZ.rd)).below p1) hz
   rw[Bf cz,a1.out] at this;exact this
  go_wp2_with fail
  refine Ax f1.out ?_;rintro e w9 ⟨rfl,s0⟩;obtain rfl:=s0.symm;clear s0;go_wp2_with fail
  refine Ax b2.out ?_;rotate_left;have f1:H (CS 43 #[y.t,(),((n:Int)-1:Int)] wx Av):=by
   have:=jM y.t 0 ((n:Int)-1) wx
   rw[show inB y.t 0 ((n:Int)-1)=Av from Bh (fun k=>c1 (by omega))] at this;exact this
  go_wp2_with fail
  refine Ax f1.out ?_;rotate_left;all_goals
   rintro e w9 ⟨rfl,s0⟩;obtain rfl:=s0.symm;clear s0;go_wp2_with (first|(refine Bg rfl 48 _ rfl A rfl 48 #[f,V gN n cN,V a2 zl c2,V a0 m1 b0] (0,0) _ ?_ Bu rfl Tryz.infoNt ?_;exact j1)|(refine Ca rfl 48 _ _ rfl D #[f,V gN n cN,V a2 zl c2,V a0 m1 b0] rfl rfl 48 #[(),V I 0 0,V I 0 0,V I 0 0] ?_ Tryz.infoNt rfl (by simp[Aq]) ?_;exact u1;rw[<-t0.out]))
   exact B7 (v:=Ai #[f,V gN n cN,V a2 zl c2,V a0 m1 b0]) (Cs results138 _ _ D 48 _ (0,0) _ rfl f2 Bu rfl Tryz.infoNt) rfl ⟨_,_,rfl,KF⟩
 .intro q9 j2 L a9 W S n0;match q9,j2 with
  | 1,_|3,_|6,_|8,_|9,_|12,_=>
   obtain⟨i0,c0,f0,g0,a0,b0,rfl,hf⟩:=n0;simp only[knT,kn,knN] at S;refine jB rfl (fun _=>rfl) fun K hK=>?_
   try simp only[S,jJ]
   go_simp
   exact hK _ _ ⟨i0,c0,f0,g0,a0,b0,(by simp only[Nat.reduceBEq,Be,Bp,jJ,S]),hf⟩
  | 0,_=>
   obtain⟨i0,c0,f0,g0,a0,b0,rfl,h0,h1,h2,h3,h4,h5⟩:=n0;obtain⟨e0,e5,m0,j0,-⟩:=S;have hb:=h0 j0;refine jB rfl (fun _=>rfl) fun K hK=>?_
   go_simp
   exact hK _ _ ⟨W.1.size,c0,f0,g0,a0,b0,(by simp only[Nat.reduceBEq,Be,Bp,jJ,jCr,e5,m0]),(fun k0=>hb.alloc hb.size _),(fun k0 k1=>Cc W #[] 0 hb.size (by decide) rfl),(ab e5),(ab m0),h4,(ab j0)⟩
  | 2,_=>
   obtain⟨i0,c0,f0,g0,a0,b0,rfl,h0,h1,h2,h3,h4,h5⟩:=n0;obtain⟨d1,e2,e5,m0,j0,-⟩:=S;have hb:=h0 j0;have x3:=(RA.below hb RA.lt).cell 3;simp at x3;refine jB rfl (fun _=>rfl) fun K hK=>?_
   simp only[d1,jJ];go_simp
   exact hK _ _ ⟨i0,c0,f0,g0,a0,b0,(by simp only[Nat.reduceBEq,Be,Bp,jJ,d1,e5,m0]),h0,h1,(ab e5),(ab m0),h4,(ab j0)⟩
  | 4,_=>
   obtain⟨i0,c0,f0,g0,a0,b0,rfl,h0,h1,h2,h3,h4,h5⟩:=n0;obtain⟨d2,d3,e4,e5,m0,j0,-⟩:=S;refine jB rfl (fun _=>rfl) fun K hK=>?_
   simp only[d2,d3,jJ];refine jOu 15 16 rfl gW m cW a7 rfl rfl (by omega) ?_;exact hK _ _ ⟨i0,c0,f0,g0,a0,b0,(by simp[Act.put,jJ,d2,d3]),h0,h1,(ab e5),(ab m0),h4,(ab j0)⟩
  | 5,_=>
   obtain⟨i0,c0,f0,g0,a0,b0,rfl,h0,h1,h2,h3,h4,h5⟩:=n0;obtain⟨d0,d4,e5,m0,j0,-⟩:=S;have hb:=h0 j0;have q1:=h1 d0 e5;have oW:=jF t1 hb;refine jB rfl (fun _=>rfl) fun K hK=>?_
   simp only[d0,d4,jJ];refine QE 13 17 rfl w1 i0 0 0 [] rfl q1 gW a7 cW (cL 10 cy a7) rfl (fun e=>by cases e) (jY _ _ _) (fun b e j u hu=>by cases e;exact r1.out W oW 0 a7 (by omega) j u (by rw[jCq];exact hu)) s1.out (by omega) hb.size ?_;intro c0 f0 w9 ho hg _;exact hK _ _ ⟨i0,c0,f0,g0,a0,b0,(by simp[Act.put,jJ,d0,d4]),(fun k0=>hb.grown hg hb.size (fun k e=>by cases e;exact(A0 q1 i0 rfl).1)),(fun _=>nf),(fun k0 k1=>by simpa using ho),(ab m0),h4,(ab j0)⟩
  | 7,_=>
   obtain⟨i0,c0,f0,g0,a0,b0,rfl,h0,h1,h2,h3,h4,h5⟩:=n0;obtain⟨d6,e7,n1,m0,j0,-⟩:=S;have hb:=h0 j0;have x3:=(RA.below hb RA.lt).cell 3;simp at x3;refine jB rfl (fun _=>rfl) fun K hK=>?_
   simp only[d6,jJ];go_simp
   exact hK _ _ ⟨i0,c0,f0,g0,a0,b0,(by simp only[Nat.reduceBEq,Be,Bp,jJ,d6,n1,m0]),h0,h1,h2,(ab m0),(ab n1),(ab j0)⟩
  | 10,_=>
   obtain⟨i0,c0,f0,g0,a0,b0,rfl,h0,h1,h2,h3,h4,h5⟩:=n0;obtain⟨d7,d9,n1,m0,j0,-⟩:=S;have hb:=h0 j0;refine jB rfl (fun _=>rfl) fun K hK=>?_
   simp only[d7,d9,jJ];refine jGw 20 22 rfl gW m cW a8 rfl rfl (by omega) y1 ?_;intro g0 z1;exact hK _ _ ⟨i0,c0,f0,g0,a0,b0,(by simp[Act.put,jJ,d7,d9]),h0,h1,h2,(ab m0),(fun k0=>z1),(ab j0)⟩
  | 11,_=>
   obtain⟨i0,c0,f0,g0,a0,b0,rfl,h0,h1,h2,h3,h4,h5⟩:=n0;obtain⟨d0,d5,r0,m0,j0,-⟩:=S;have hb:=h0 j0;have q2:=h2 d5 m0;have oW:=jF t1 hb;have q4:=h4 r0;refine jB rfl (fun _=>rfl) fun K hK=>?_
   simp only[d5,r0,jJ];refine QE 18 23 rfl w1 c0 a7 f0 (cL 10 cy a7) rfl q2 (M ⟨gW,g0,I⟩) (m-a8) (cW-a8) (cL 10 (fun i q=>cy (i+a8) q) (m-a8)) rfl (fun e=>by cases e) (jY _ _ _) (fun b e j u hu=>?_) (fun u hu=>?_) (by have:=H8.out;omega) hb.size ?_
   .cases e;rcases q4 with q4|q4
    .have:=(Bz.1 hu).1
     rw[jY] at this;omega
    .rw[q4];exact r1 W oW a8 (m-a8) (by omega) j u hu
   .obtain⟨i,q,hi,hq,rfl⟩:=jAt (by omega) hu;exact z0 _ q (by have:=H8.out;omega) hq
   intro a0 b0 w9 ho hg _;rw[H9.out];exact hK _ _ ⟨i0,c0,f0,g0,a0,b0,(by simp[Act.put,jJ,d5,r0]),(fun k0=>hb.grown hg hb.size (fun k e=>by cases e;exact(A0 q2 c0 rfl).1)),(fun _=>ba d5),(fun _=>nf),(fun k0=>cutE ha H8 q0 ho),h4,(ab j0)⟩
  | 13,_=>
   obtain⟨i0,c0,f0,g0,a0,b0,rfl,h0,h1,h2,h3,h4,h5⟩:=n0;obtain⟨d0,d5,r0,w0,v1,j0,-⟩:=S;have hb:=h0 j0;have q3:=h3 w0;have qA:=RA.below hb RA.lt;have fr:=qA.free 3;have x3:=qA.cell 3;simp at x3;refine jB rfl (fun _=>rfl) fun K hK=>?_
   simp only[v1,w0,jJ];go_simp
   exact hK _ _ ⟨i0,c0,f0,g0,a0,b0,(by simp only[Nat.reduceBEq,Be,d0,d5,r0,w0,v1,jJ]),nf,(fun _=>ba d5),(fun _=>ba w0),(fun k0=>jL q3 (jN W A 3 _) (fun x e=>by cases e;have:=(A0 q3 a0 rfl).1;show a0≠A;omega)),h4,(fun k0=>⟨(Trn.ofBelow _ hb).trans (Trn.set W 3 _ rfl),qA.set 3 _⟩)⟩
  | n9+14,h=>exact Bo h (by omega)
theorem jHv (B:Nat) (f:Int) (n:Nat) (N:Nat->Nd) (zs:List Int) (m:Nat) (Y:Nat->Sy) (gN cN:Nat) (a2:Option Al) (c2 gW cW a7:Nat) (y:Sy) (X9:Nat->Prop) (t:Nat) (d:Nd) (w:Ad) (h:NtE w B n N zs m Y gN cN (V a2 zs.length c2) gW cW X9) (hB:B<=w.1.size) (hm:m<=3000) (hn:n<=1048576) (hz:zs.length<=1048576) (ha:a7<m) (Hy:H (Y a7=y)) (HT:H (ToP n zs y.t)) (j1:t<n) (Hd:H (N t=d)) (Ht:H (y.t=(t:Int))) (a4:H (NhB d.n d.S y)) (hM:hdM d y<=10) (KX:H (∀ b,X9 b->b<w.1.size)):Ak Ac 138 #[ntV f (V (M ⟨gN,0,I⟩) n cN) (V a2 zs.length c2) (V (M ⟨gW,0,I⟩) m cW),Ao Ar (a7:Int)] w fun r w'=>∃ g c,r=Ae (ntV f (V (M ⟨gN,0,I⟩) n cN) (V a2 zs.length c2) (V (M ⟨g,0,I⟩) (m-1+hdM d y) c))/\NtE w' B n (fun i=>if i=t then hdN d y else N i) zs (m-1+hdM d y) (wyS (m-1) (QH a7 Y) (hdY d y)) gN cN (V a2 zs.length c2) g c X9/\Trn w w' (fun x=>x=gN)/\w.1.size<=g:=by
 obtain⟨N1,r3⟩:=nnH (nhN d.i d.f d.n d.S y);obtain⟨S1,s3⟩:=nnH (nhS d.i d.f d.n d.S y);obtain⟨M1,p2⟩:=nnH (nhM d.i d.f d.n d.S y);obtain⟨Y1,t3⟩:=nnH (nhY d.i d.f d.n d.S y);have f5:M1<=10:=by rw[<-p2.out];exact hM
 unfold hdN hdM hdY;rw[r3.out,s3.out,p2.out,t3.out];clear hM;obtain⟨cy,l3,n3⟩:=h.y;have l4:m<=cW:=by
  rcases l3.2 with ⟨e,_⟩|⟨g,cap,i5,e,_,_,hc,_⟩
  .cases e
  .cases e;exact hc
 have z4:B<=w.1.size:=hB;obtain⟨bb,fb,a9,c9,ea,g2,t9⟩:=zY h.rdY ha;obtain⟨rfl,rfl⟩:gW=bb/\0=fb:=by simp at ea;exact⟨ea.1,ea.2⟩
 rw[Hy.out] at g2 t9;rw[Bq] at g2;obtain⟨zl,s2⟩:=nnH zs.length;obtain⟨m1,n1⟩:=nnH (m-1);have l5:m1<=3000:=by have:=n1.out;omega
 obtain⟨A,HA⟩:=nmH w.1.size;obtain⟨D,HD⟩:=nmH (w.1.size+1);obtain⟨X,HX⟩:=nmH (w.1.size+1+1);obtain⟨w1,w0⟩:=nmH (((w.alloc (J #[Ao Ar f,V (M ⟨gN,0,I⟩) n cN,V a2 zs.length c2,V (M ⟨gW,0,I⟩) m cW] 48)).alloc (J #[Ao Ar 0,V I 0 0,V I 0 0,V I 0 0] 48)).alloc (J (syC y (V a9 y.p.m c9)) 31));have RA:=zD w0 HA;have RD:=xL w0 HD;have RX:=xR w0 HX;have b1:=bl3 w0;have t2:H (Ab w.1.size w w1):=b1;have lA:w.1.size<=A/\A<D/\D<X/\X<w1.1.size:=⟨by have:=HA.out;omega,by have h1:=HA.out;have h2:=HD.out;omega,by have h1:=HD.out;have h2:=HX.out;omega,RX.out.lt⟩;have z3:H (w1.ownsRow B 31 10 (V (M ⟨gW,0,I⟩) m cW) m (cL 10 cy m)):=jF l3 b1;have u3:H (∀ W:Ad,W.ownsRow B 31 10 (V (M ⟨gW,0,I⟩) m cW) m (cL 10 cy m)->∀ p k,p+k<=m->∀ j u,(cL 10 (fun i q=>cy (i+p) q) k)[j]?=M u->W.cell? ((⟨gW,p*10,I⟩:Al).add j)=M u):=fun W hW p k y4 j u hu=>jIr hW y4 hu
 have n2:H (∀ i q,i<m->q<10->(cy i q).oneCell'=Aw):=fun i q hi hq=>jB8 (n3 i q hi hq).rd
 have w3:H (∀ u∈cL 10 cy a7,u.oneCell'=Aw):=fun u hu=>by obtain⟨i,q,hi,hq,rfl⟩:=jAt (by omega) hu;exact n2.out i q (by omega) hq
 have KE:H (NtE w B n N zs m Y gN cN (V a2 zs.length c2) gW cW X9):=h;have KY:H (∀ i q,i<m->q<10->Rf w (EX gN gW X9) (syD (Y i) q) (cy i q)):=n3;have KZ:H (Rf w (EX gN gW X9) (inD zs) (V a2 zs.length c2)):=h.z;have y3:H (jK w a9 y.p.m y.p.S):=t9;have w2:H (((w.alloc (J #[Ao Ar f,V (M ⟨gN,0,I⟩) n cN,V a2 zs.length c2,V (M ⟨gW,0,I⟩) m cW] 48)).alloc (J #[Ao Ar 0,V I 0 0,V I 0 0,V I 0 0] 48)).rangeAt gW (a7*10) (syC y (V a9 y.p.m c9)).toList):=(World.rangeAt_alloc (World.rangeAt_alloc g2 _) _);obtain⟨a8,H8⟩:=nnH (a7+1);have j5:a8<=m:=by have:=H8.out;omega
 have H9:H (a7+(m-a8)=m1):=by have:=H8.out;have:=n1.out;show _=_;omega
 have p5:IntKind.i64.wrap ((a7:Int)+1)=(a8:Int):=by have:=H8.out;rw[A8];omega
 have k5:(a7:Int)<(m:Int):=by omega
 have g5:(m:Int)<=(cW:Int):=by omega
 rw[s2.out] at RA w0 KE KZ w2 |-;rw[n1.out];have n5:(t:Int)<(n:Int):=by omega
 clear h b1 l3 n3 g2 t9 ea hB;go_enter Tryz.func138,Tryz.ntmps138
 have x3:=RA.out.cell 3;simp at x3;have a5:((w.alloc (J #[Ao Ar f,V (M ⟨gN,0,I⟩) n cN,V a2 zl c2,V (M ⟨gW,0,I⟩) m cW] 48)).alloc (J #[Ao Ar 0,V I 0 0,V I 0 0,V I 0 0] 48)).cell? ⟨w.1.size,3,I⟩=M (V (M ⟨gW,0,I⟩) m cW):=by simp
 go_wp2_with (refine Bv (by rfl) 31 _ (by rfl) gW (a7*10) (by rfl) (syC y (V a9 y.p.m c9)).toList _ ?_ Cd (by rfl) Tryz.infoSy ?_;exact w2.out)
 rw[<-w0.out,<-HX.out,<-HD.out,<-HA.out];clear a5 w2 w0 HX HD HA;go_upto_region 2 with fail
 refine JE Tryz.mixed 14 [([],[0,5,11,13]),([],[5,11,13]),([1],[2,5,11,13]),([],[5,11,13]),([2,3],[4,5,11,13]),([0,4],[5,11,13]),([],[10,11,13]),([6],[7,10,11,13]),([],[10,11,13]),([8],[10,11,13]),([7,9],[10,11,13]),([0,5,10],[11,13]),([],[13]),([0,5,10,11,12],[13])] (by kernel_rfl) (fun L A9 W=>∃ (m0:Nat) (c0:Nat) (f0:Nat) (i0:Nat) (a0:Nat) (b0:Nat),A9=⟨(List.toArray (α:=Aj) ((ntV f (V (M ⟨gN,0,I⟩) n cN) (V a2 zl c2) (V (M ⟨gW,0,I⟩) m cW))::(Ao Ar (a7:Int))::(Af (M ⟨A,0,I⟩))::O::(Af (M ⟨D,0,I⟩))::(Af (M ⟨X,0,I⟩))::O::O::(Af (M ⟨A,3,I⟩))::(V (M ⟨gW,0,I⟩) m cW)::(Ao Ar (a7:Int))::(Af (M ⟨gW,a7*10,I⟩))::(Ai #[Ao Ar y.k,Ao Ar y.f,Ao Ar y.t,Ag y.r,Ag y.p.r,Ao Ar y.p.k,Ao Ar y.p.n,Ao Ar y.p.i,Ag y.p.b,V a9 y.p.m c9])::(cX (L 0) (V (M ⟨m0,0,I⟩) 0 0) O)::(cX (L 1) (Af (M ⟨A,3,I⟩)) O)::(cX (L 2) (V (M ⟨gW,0,I⟩) m cW) O)::(cX (L 3) (Ao Ar (a7:Int)) O)::(cX (L 4) (V (M ⟨gW,0,I⟩) a7 cW) O)::(cX (L 5) (V (M ⟨c0,0,I⟩) a7 f0) O)::(cX (L 6) (Af (M ⟨A,3,I⟩)) O)::(cX (L 7) (V (M ⟨gW,0,I⟩) m cW) O)::(cX (L 8) (Ao Ar (a7:Int)) O)::(cX (L 9) (Ao Ar (a8:Int)) O)::(cX (L 10) (V (M ⟨gW,i0,I⟩) (m-a8) (cW-a8)) O)::(cX (L 11) (V (M ⟨a0,0,I⟩) m1 b0) O)::(cX (L 12) (Af (M ⟨A,3,I⟩)) O)::O::O::O::O::O::O::O::O::O::O::O::O::O::O::O::O::O::O::O::O::O::O::O::O::O::O::O::O::O::O::O::O::O::O::O::O::O::O::[])),[]⟩/\(L 13=Av->Ab w1.1.size w1 W)/\(L 0=Aw->L 5=Av->W.ownsRow w1.1.size 31 10 (V (M ⟨m0,0,I⟩) 0 0) 0 ([]))/\(L 5=Aw->L 11=Av->W.ownsRow w1.1.size 31 10 (V (M ⟨c0,0,I⟩) a7 f0) a7 (cL 10 cy a7))/\(L 11=Aw->W.ownsRow w1.1.size 31 10 (V (M ⟨a0,0,I⟩) m1 b0) m1 (cL 10 (fun i q=>if i<a7 then cy i q else cy (i+1) q) m1))/\(L 10=Aw->m=a8\/i0=a8*10)/\(L 13=Aw->Trn w1 W (fun x=>x=A)/\Row W A 48 #[Ao Ar f,V (M ⟨gN,0,I⟩) n cN,V a2 zl c2,V (M ⟨a0,0,I⟩) m1 b0])) ?_ ?_ ?_
 .exact⟨0,0,0,0,0,0,rfl,(fun _=>jD _),(fun h=>by cases h),(fun h=>by cases h),(fun h=>by cases h),(fun h=>by cases h),(fun h=>by cases h)⟩
 .rintro a9 wx ⟨m0,c0,f0,i0,a0,b0,u1,-,-,-,j2,-,i1⟩;simp only[Nat.reduceLT,Dn,jJ] at u1;subst u1;replace j2:=(j2 rfl)
  replace i1:=(i1 rfl)
  have a3:H (wx.ownsRow w1.1.size 31 10 (V (M ⟨a0,0,I⟩) m1 b0) m1 (cL 10 (fun i q=>if i<a7 then cy i q else cy (i+1) q) m1)):=j2;have c1:H (Row wx A 48 #[Ao Ar f,V (M ⟨gN,0,I⟩) n cN,V a2 zl c2,V (M ⟨a0,0,I⟩) m1 b0]):=i1.2;have b2:H (Trn w1 wx (fun x=>x=A)):=i1.1;have z0:H (Ab w.1.size w wx):=t2.out.trans (i1.1.below (fun x e=>by have e9:x=A:=e;omega) t2.out.size);have t0:H (Row wx X 31 (syC y (V a9 y.p.m c9))):=(b2.out.block X RX.out.lt (fun e=>by have e9:X=A:=e;omega)).trans RX.out;have g3:H (Row wx D 48 #[Ao Ar 0,V I 0 0,V I 0 0,V I 0 0]):=(b2.out.block D RD.out.lt (fun e=>by have e9:D=A:=e;omega)).trans RD.out;have m5:=b2.out.size;clear j2 i1;have z2:=t0.out.cell 2;have za:=c1.out.cell 1;have zb:=c1.out.cell 2;simp at z2 za zb;have t4:H (Ak Ac 43 #[Ao Ar y.t,Ao Ar 0,Ao Ar ((n:Int)-1)] wx fun e w'=>e=Ae (.bool Aw)/\w'=wx):=by
   have:=jM y.t 0 ((n:Int)-1) wx
   rw[show inB y.t 0 ((n:Int)-1)=Aw from Bf (by have:=HT.out.1;omega)] at this;exact this
  have s4:H (Ak Ac 139 #[V a2 zl c2,Ao Ar y.t] wx fun e w'=>e=Ae (.bool Av)/\w'=wx):=by
   have:=QT a2 c2 zs y.t wx ((qK.1 (by rw[s2.out];exact KZ.out.rd)).below z0.out) hz
   rw[Bh HT.out.2,s2.out] at this;exact this
  go_wp2_with fail
  refine Ax t4.out ?_;rintro e w9 ⟨rfl,v1⟩;obtain rfl:=v1.symm;clear v1;go_wp2_with fail
  refine Ax s4.out ?_;rintro e w9 ⟨rfl,v1⟩;obtain rfl:=v1.symm;clear v1;obtain⟨f1,m2,hrN⟩:=KE.out.o;have z1:H (w.ownsRow B 26 3 (V (M ⟨gN,0,I⟩) n cN) n (cL 3 f1 n)/\∀ i q,i<n->q<3->Rf w (EX gN gW X9) (ndD (N i) q) (f1 i q)):=⟨m2,hrN⟩;have r2:Rd w (qG d.n d.S) (f1 t 2):=by have:=(hrN t 2 j1 (by omega)).rd;rw[Hd.out] at this;exact this
  obtain⟨an,cn,e2⟩:=r2.shape;rw[e2] at r2;have g0:f1 t 0=Ao Ar d.i:=by have:=(hrN t 0 j1 (by omega)).rd;rw[Hd.out] at this;exact this
  have g1:f1 t 1=Ao Ar d.f:=by have:=(hrN t 1 j1 (by omega)).rd;rw[Hd.out] at this;exact this
  have o3:=A0 m2 gN rfl;have RG:H (∀ W,Ab wx.1.size wx W->W.rangeAt gN (t*3) [Ao Ar d.i,Ao Ar d.f,V an d.n cn]):=fun W hW j v hv=>by
   have hj:j<3:=by
    rcases F0 j 3 with k|k
    .exact k
    .rw[Bb (by simpa using k)] at hv;cases hv
   have e1:w.cell? ⟨gN,t*3+j,I⟩=M v:=by
    rw[Bt m2 _ (qM j1 hj),jT _ _ _ _ _ j1 hj];match j,hj with
    | 0,_=>rw[g0];simpa using hv
    | 1,_=>rw[g1];simpa using hv
    | 2,_=>rw[e2];simpa using hv
   exact((z0.out.trans (hW.mono (by have:=z0.out.size;omega))).cell (A7 e1)).trans e1
  have KH:H (∀ W,Ab wx.1.size wx W->Ak Ac 10 #[Ai #[Ao Ar d.i,Ao Ar d.f,V an d.n cn],Ai (syC y (V a9 y.p.m c9))] W fun e w'=>∃ va vc sa sc,e=Ae (Ah #[Ai #[Ao Ar d.i,Ao Ar d.f,V va N1 vc],V sa M1 sc])/\Rf w' (fun b=>b<W.1.size) (qG N1 S1) (V va N1 vc)/\Rf w' (fun b=>b<W.1.size) (qJ M1 Y1) (V sa M1 sc)/\Ab W.1.size W w'/\∃ F,Ow w' W.1.size (qG N1 S1) (V va N1 vc) F):=fun W hW=>by
   have:=jB3 d.i d.f an d.n cn d.S y a9 c9 W ((r2.below z0.out).below hW) ((y3.out.below z0.out).below hW) a4.out
   rw[r3.out,s3.out,p2.out,t3.out] at this;exact this
  clear r2 e2 g0 g1 m2 hrN y3 a4 b2;go_upto_region 4 with fail
  refine JE Tryz.mixed 14 [([],[7,12]),([0],[1,7,12]),([],[7,12]),([2],[3,7,12]),([1,3],[7,12]),([4],[5,7,12]),([],[6,7,12]),([5,6],[7,8,9,10,12,13]),([7],[12]),([7,8],[12]),([7,8],[]),([],[11,12]),([7,9,11],[12]),([7,10],[])] (by kernel_rfl) (fun L A9 W=>∃ (x6:Nat) (va:Option Al) (vc:Nat) (sa:Option Al) (sc:Nat),A9=⟨(List.toArray (α:=Aj) ((ntV f (V (M ⟨gN,0,I⟩) n cN) (V a2 zl c2) (V (M ⟨gW,0,I⟩) m cW))::(Ao Ar (a7:Int))::(Af (M ⟨A,0,I⟩))::O::(Af (M ⟨D,0,I⟩))::(Af (M ⟨X,0,I⟩))::(cX (L 11) (Af (M ⟨x6,0,I⟩)) O)::(cX (L 13) (V sa M1 sc) O)::(Af (M ⟨A,3,I⟩))::(V (M ⟨gW,0,I⟩) m cW)::(Ao Ar (a7:Int))::(Af (M ⟨gW,a7*10,I⟩))::(Ai #[Ao Ar y.k,Ao Ar y.f,Ao Ar y.t,Ag y.r,Ag y.p.r,Ao Ar y.p.k,Ao Ar y.p.n,Ao Ar y.p.i,Ag y.p.b,V a9 y.p.m c9])::(V (M ⟨m0,0,I⟩) 0 0)::(Af (M ⟨A,3,I⟩))::(V (M ⟨gW,0,I⟩) m cW)::(Ao Ar (a7:Int))::(V (M ⟨gW,0,I⟩) a7 cW)::(V (M ⟨c0,0,I⟩) a7 f0)::(Af (M ⟨A,3,I⟩))::(V (M ⟨gW,0,I⟩) m cW)::(Ao Ar (a7:Int))::(Ao Ar (a8:Int))::(V (M ⟨gW,i0,I⟩) (m-a8) (cW-a8))::(V (M ⟨a0,0,I⟩) m1 b0)::(Af (M ⟨A,3,I⟩))::(Af (M ⟨X,2,I⟩))::(Ao Ar y.t)::(Af (M ⟨A,1,I⟩))::(V (M ⟨gN,0,I⟩) n cN)::(Ao Ar (n:Int))::(Ao Ar ((n:Int)-1))::(.bool Aw)::(.bool Aw)::(Af (M ⟨A,2,I⟩))::(V a2 zl c2)::(Af (M ⟨X,2,I⟩))::(Ao Ar y.t)::(.bool Av)::(.bool Aw)::(.bool Aw)::(cX (L 8) (Ah #[Ai #[Ao Ar d.i,Ao Ar d.f,V va N1 vc],V sa M1 sc]) O)::(cX (L 0) (Af (M ⟨A,1,I⟩)) O)::(cX (L 1) (V (M ⟨gN,0,I⟩) n cN) O)::(cX (L 2) (Af (M ⟨X,2,I⟩)) O)::(cX (L 3) (Ao Ar (t:Int)) O)::(cX (L 4) (Af (M ⟨gN,t*3,I⟩)) O)::(cX (L 5) (Ai #[Ao Ar d.i,Ao Ar d.f,V an d.n cn]) O)::(cX (L 6) (Ai (syC y (V a9 y.p.m c9))) O)::(cX (L 7) (Ah #[Ai #[Ao Ar d.i,Ao Ar d.f,V va N1 vc],V sa M1 sc]) O)::(cX (L 9) (Ai #[Ao Ar d.i,Ao Ar d.f,V va N1 vc]) O)::(cX (L 10) (V sa M1 sc) O)::O::O::O::O::O::O::O::O::O::O::O::O::[])),[]⟩/\(Ab wx.1.size wx W)/\(L 11=Aw->L 12=Av->Row W x6 26 #[Ao Ar 0,Ao Ar 0,V I 0 0]/\wx.1.size<=x6)/\(L 12=Aw->Row W x6 26 #[Ao Ar d.i,Ao Ar d.f,V va N1 vc]/\wx.1.size<=x6)/\(L 7=Aw->L 11=Av->Rf W (fun b=>b<wx.1.size) (qG N1 S1) (V va N1 vc)/\Rf W (fun b=>b<wx.1.size) (qJ M1 Y1) (V sa M1 sc))/\(L 7=Aw->L 11=Aw->Rf W (fun b=>b<wx.1.size\/b=x6) (qG N1 S1) (V va N1 vc)/\Rf W (fun b=>b<wx.1.size\/b=x6) (qJ M1 Y1) (V sa M1 sc))) ?_ ?_ ?_
  .exact⟨0,I,0,I,0,rfl,jD _,(fun h=>by cases h),(fun h=>by cases h),(fun h=>by cases h),(fun h=>by cases h)⟩
  .rintro a9 wy ⟨x6,va,vc,sa,sc,u1,n4,-,i2,-,k2⟩;simp only[Nat.reduceLT,Dn,jJ] at u1;subst u1;replace i2:=(i2 rfl)
   replace k2:=(k2 rfl rfl)
   have a1:H (Ab wx.1.size wx wy):=n4;have K6:H (Row wy x6 26 #[Ao Ar d.i,Ao Ar d.f,V va N1 vc]/\wx.1.size<=x6):=i2;have v2:H (Rf wy (fun b=>b<wx.1.size\/b=x6) (qG N1 S1) (V va N1 vc)/\Rf wy (fun b=>b<wx.1.size\/b=x6) (qJ M1 Y1) (V sa M1 sc)):=k2;clear n4 i2 k2 KH;have sx:=z0.out.size;have sy:=a1.out.size;have f3:Row wy A 48 #[Ao Ar f,V (M ⟨gN,0,I⟩) n cN,V a2 zl c2,V (M ⟨a0,0,I⟩) m1 b0]:=c1.out.below a1.out c1.out.lt;have i4:Row wy X 31 (syC y (V a9 y.p.m c9)):=t0.out.below a1.out t0.out.lt;have g4:Row wy D 48 #[Ao Ar 0,V I 0 0,V I 0 0,V I 0 0]:=g3.out.below a1.out g3.out.lt;have R6:H (Row wy x6 26 #[Ao Ar d.i,Ao Ar d.f,V va N1 vc]):=K6.out.1;have y1:=f3.cell 1;have y2:=i4.cell 2;simp at y1 y2;rw[Ht.out] at y2;have i3:Ab w.1.size w wy:=z0.out.trans (a1.out.mono sx);have TH:H (wy.there gN (t*3) 3):=fun j hj=>by
    refine⟨?_,?_⟩
    .rw[RG.out wy a1.out j ([Ao Ar d.i,Ao Ar d.f,V an d.n cn].getD j O) (by match j,hj with|0,_|1,_|2,_=>rfl)];rfl
    .rw[i3.frozen (p:=⟨gN,t*3+j,I⟩) o3.2];exact B0 z1.out.1 _
   obtain⟨w5,x0⟩:=nmH (wy.setCells gN (t*3) #[Ao Ar d.i,Ao Ar d.f,V va N1 vc].toList);have s5:w5.1.size=wy.1.size:=by rw[x0.out];exact jO _ _ _ _
   have o5:∀ x,x≠gN->w5.1[x]?=wy.1[x]?:=fun x hx=>by rw[x0.out];exact jE gN _ _ wy x hx
   have b3:Row w5 A 48 #[Ao Ar f,V (M ⟨gN,0,I⟩) n cN,V a2 zl c2,V (M ⟨a0,0,I⟩) m1 b0]:=(o5 A (by omega)).trans f3;have b4:Row w5 D 48 #[Ao Ar 0,V I 0 0,V I 0 0,V I 0 0]:=(o5 D (by omega)).trans g4;have v0:=A0 a3.out a0 rfl;have O5:H (w5.ownsRow w1.1.size 31 10 (V (M ⟨a0,0,I⟩) m1 b0) m1 (cL 10 (fun i q=>if i<a7 then cy i q else cy (i+1) q) m1)):=vN (vN a3.out sy (a1.out.block a0 v0.2)) (by omega) (o5 a0 (by omega));have u2:H (Rf w5 (fun b=>b<wx.1.size\/b=x6) (qG N1 S1) (V va N1 vc)/\Rf w5 (fun b=>b<wx.1.size\/b=x6) (qJ M1 Y1) (V sa M1 sc)):=⟨v2.out.1.turn (by omega) (fun b hb _=>o5 b (fun e=>hb (.inl (by omega)))),v2.out.2.turn (by omega) (fun b hb _=>o5 b (fun e=>hb (.inl (by omega))))⟩;obtain⟨cs,k4,m4,x4,j3⟩:=jJy u2.out.2;have KC:H ((sa=I->M1=0)/\(∀ b,sa=M b->∀ j u,(cL 10 cs M1)[j]?=M u->w5.cell? (b.add j)=M u)/\∀ i q,i<M1->q<10->Rf w5 (fun b=>b<wx.1.size\/b=x6) (syD (Y1 i) q) (cs i q)):=⟨k4,m4,j3⟩;have r4:H (w1.1.size<=w5.1.size):=by have:=v0;show _<=_;omega
   have v3:H (∀ u∈cL 10 cs M1,u.oneCell'=Aw):=fun u hu=>by obtain⟨i,q,hi,hq,rfl⟩:=jAt (by omega) hu;exact jB8 (j3 i q hi hq).rd
   have x3:=b3.cell 3;simp at x3;have o1:H (Row w5 A 48 #[Ao Ar f,V (M ⟨gN,0,I⟩) n cN,V a2 zl c2,V (M ⟨a0,0,I⟩) m1 b0]):=b3;have p1:H (Row w5 D 48 #[Ao Ar 0,V I 0 0,V I 0 0,V I 0 0]):=b4;have KL:H (w.1.size<=w1.1.size/\w1.1.size<=wx.1.size/\wx.1.size<=wy.1.size/\w5.1.size=wy.1.size/\w1.1.size<=a0/\a0<wx.1.size/\gN<w.1.size/\B<=gN):=⟨by have:=t2.out.size;omega,by omega,sy,s5,v0.1,v0.2,o3.2,o3.1⟩;have s0:H ((∀ x,x≠gN->w5.1[x]?=wy.1[x]?)/\Ab w.1.size w wy):=⟨o5,i3⟩;clear k4 m4 x4 j3 f3 i4 g4 b3 b4 o5 s5 v0 sx sy v2 K6 a3 c1 t0 g3 i3;go_wp2_with (first|(refine Dd (by rfl) 26 _ _ (by rfl) gN (t*3) #[Ao Ar d.i,Ao Ar d.f,V va N1 vc] (by rfl) (by rfl) ?_ Tryz.infoNd (by simp[Aq]) ?_;exact TH.out;rw[<-x0.out])|(refine Bg (by rfl) 26 _ (by rfl) x6 (by rfl) 26 #[Ao Ar d.i,Ao Ar d.f,V va N1 vc] (0,0) _ ?_ Cg (by rfl) Tryz.infoNd ?_;exact R6.out)|(guard_hyp O5;at_builtin;refine(show True->_ from ?_) trivial))
   intro _;refine jAp (by rfl) 59 60 (by rfl) w1.1.size a0 m1 b0 (cL 10 (fun i q=>if i<a7 then cy i q else cy (i+1) q) m1) (by rfl) O5.out sa M1 sc (cL 10 cs M1) (by rfl) KC.out.1 (jY _ _ _) KC.out.2.1 v3.out (by omega) r4.out ?_;intro g7 c7 w6 k3 u0 o2;have f2:Row w6 A 48 #[Ao Ar f,V (M ⟨gN,0,I⟩) n cN,V a2 zl c2,V (M ⟨a0,0,I⟩) m1 b0]:=(u0.block A o1.out.lt (fun e=>by cases e;have h1:=KL.out;omega)).trans o1.out;have c4:Row w6 D 48 #[Ao Ar 0,V I 0 0,V I 0 0,V I 0 0]:=(u0.block D p1.out.lt (fun e=>by cases e;have h1:=KL.out;omega)).trans p1.out;have b5:=f2.cell 3;have q5:=f2.free 3;simp at b5;have s6:=u0.size;have l6:=A0 k3 g7 rfl;obtain⟨w7,r0⟩:=nmH (w6.setCell ⟨A,3,I⟩ (V (M ⟨g7,0,I⟩) (m1+M1) c7));have u4:H (Row w7 A 48 #[Ao Ar f,V (M ⟨gN,0,I⟩) n cN,V a2 zl c2,V (M ⟨g7,0,I⟩) (m1+M1) c7]):=by show Row _ _ _ _;rw[r0.out];exact f2.set 3 _
   have f4:H (Row w7 D 48 #[Ao Ar 0,V I 0 0,V I 0 0,V I 0 0]):=by show Row _ _ _ _;rw[r0.out];exact c4.other _ _ (by omega)
   obtain⟨w8,y0⟩:=nmH (w7.setRow D #[Ao Ar f,V (M ⟨gN,0,I⟩) n cN,V a2 zl c2,V (M ⟨g7,0,I⟩) (m1+M1) c7]);have v4:=rr y0 f4;have KF:H (NtE w8 B n (fun i=>if i=t then ⟨d.i,d.f,N1,S1⟩ else N i) zs (m1+M1) (wyS m1 (QH a7 Y) Y1) gN cN (V a2 zl c2) g7 c7 X9/\Trn w w8 (fun x=>x=gN)/\w.1.size<=g7):=by
    have hL:=KL.out;have p4:∀ x,x≠A->x≠D->w8.1[x]?=w6.1[x]?:=fun x h1 h2=>by
     rw[y0.out,r0.out];exact(Cj _ _ _ _ (fun e=>h2 e)).trans (Ck w6 ⟨A,3,I⟩ x _ (fun e=>h1 e))
    have s8:w8.1.size=w6.1.size:=by rw[y0.out,r0.out];simp
    have p3:∀ x,x<w5.1.size->x≠A->x≠D->x≠a0->w8.1[x]?=w5.1[x]?:=fun x hx h1 h2 h3=>(p4 x h1 h2).trans (u0.block x hx (fun e=>h3 (by injection e)))
    have tw:∀ x,x<w.1.size->x≠gN->w8.1[x]?=w.1[x]?:=fun x hx h1=>(p3 x (by omega) (by omega) (by omega) (by omega)).trans ((s0.out.1 x h1).trans (s0.out.2.block x hx))
    have w4:w1.1.size<=g7/\(g7<wx.1.size\/wy.1.size<=g7):=by rcases o2 with e|e <;> omega
    have old:∀ {dd:Dt} {v:Aj},Rf w (EX gN gW X9) dd v->Rf w8 (EX gN g7 X9) dd v:=fun r=>(r.since (by omega) (fun b hb hl=>tw b hl (fun e=>hb (.inl e)))).mono (fun b k=>by rcases k with k|k|k;exact .inl (.inl k);exact .inr (by omega);exact .inl (.inr (.inr k)))
    have new:∀ {dd:Dt} {v:Aj},Rf w5 (fun b=>b<wx.1.size\/b=x6) dd v->Rf w8 (EX gN g7 X9) dd v:=fun r=>(r.since (by omega) (fun b hb hl=>p3 b hl (by omega) (by omega) (by omega))).mono (fun b k=>by rcases k with k|k|k;exact .inl (.inl (by omega));rcases w4.2 with q|q;exact .inl (.inl (by omega));exact .inr (by omega);exact .inl (.inl (by have:=KX.out b k;omega)))
    have oN:w8.ownsRow B 26 3 (V (M ⟨gN,0,I⟩) n cN) n (cL 3 (fun i q=>if i=t/\0<=q then ([Ao Ar d.i,Ao Ar d.f,V va N1 vc]:List Aj).getD (q-0) O else f1 i q) n):=by
     have h1:=vN z1.out.1 s0.out.2.size (s0.out.2.block gN hL.2.2.2.2.2.2.1);have h2:=qH (sz:=3) j1 [Ao Ar d.i,Ao Ar d.f,V va N1 vc] 0 wy f1 rfl h1;have e5:w5=wy.setCells gN (t*3) [Ao Ar d.i,Ao Ar d.f,V va N1 vc]:=x0.out;rw[Cp,<-e5] at h2;exact vN h2 (by omega) (p3 gN (by omega) (by omega) (by omega) (by omega))
    refine⟨⟨⟨_,oN,fun i q hi hq=>?_⟩,old KZ.out,⟨_,by have:=vN k3 (Gv s8.symm) (p4 g7 (by omega) (by omega));rw[jIq 10 _ _ _ _ (by omega)] at this;exact jX this (by have:=z4;omega),fun i q hi hq=>?_⟩,by omega⟩,?_,by omega⟩
    .by_cases e:i=t
     .subst e;rw[A6 rfl,A6 ⟨rfl,Bi q⟩];match q,hq with
      | 0,_=>exact Rf.val _
      | 1,_=>exact Rf.val _
      | 2,_=>exact new u2.out.1
     .rw[A5 e,A5 (fun k=>e k.1)];exact old (z1.out.2 i q hi hq)
    .by_cases e:i<m1
     .rw[A6 e,jG0 e];exact old (jQ1 ha n1.out e hq KY.out)
     .rw[A5 e,jGz e];exact new (KC.out.2.2 (i-m1) q (by omega) hq)
    .exact⟨(jSf y0.out r0.out u0 x0.out s0.out.2).1,(jSf y0.out r0.out u0 x0.out s0.out.2).2.1,(jSf y0.out r0.out u0 x0.out s0.out.2).2.2,by omega,fun x hx hn=>tw x hx hn⟩
   clear k3 u0 o2 f2 c4 s6 l6 KC u2 s0 KL O5 z1 v3 RG TH o1 p1;go_wp2_with (first|(rw[<-r0.out];refine Bg (by rfl) 48 _ (by rfl) A (by rfl) 48 #[Ao Ar f,V (M ⟨gN,0,I⟩) n cN,V a2 zl c2,V (M ⟨g7,0,I⟩) (m1+M1) c7] (0,0) _ ?_ Bu (by rfl) Tryz.infoNt ?_;exact u4.out)|(refine Ca (by rfl) 48 _ _ (by rfl) D #[Ao Ar f,V (M ⟨gN,0,I⟩) n cN,V a2 zl c2,V (M ⟨g7,0,I⟩) (m1+M1) c7] (by rfl) (by rfl) 48 #[Ao Ar 0,V I 0 0,V I 0 0,V I 0 0] ?_ Tryz.infoNt rfl (by simp[Aq]) ?_;exact f4.out;rw[<-y0.out]))
   exact B7 (v:=Ai #[Ao Ar f,V (M ⟨gN,0,I⟩) n cN,V a2 zl c2,V (M ⟨g7,0,I⟩) (m1+M1) c7]) (Cs Tryz.results138 _ _ D 48 _ (0,0) _ (by rfl) v4.out Bu (by rfl) Tryz.infoNt) rfl ⟨_,_,rfl,KF.out⟩
  .intro q9 m3 L a9 W S o0;match q9,m3 with
   | 0,_|2,_|4,_|8,_|9,_|10,_|13,_=>
    obtain⟨x6,va,vc,sa,sc,rfl,hf⟩:=o0;simp only[knT,kn,knN] at S;refine jB rfl (fun _=>rfl) fun K hK=>?_
    try simp only[S,jJ]
    go_simp
    exact hK _ _ ⟨x6,va,vc,sa,sc,(by simp only[Nat.reduceBEq,Be,Bp,jJ,S]),hf⟩
   | 1,_=>
    obtain⟨x6,va,vc,sa,sc,rfl,h0,h1,h2,h3,h4⟩:=o0;obtain⟨d0,e1,e7,p0,-⟩:=S;have x1:=(c1.out.below h0 c1.out.lt).cell 1;simp at x1;refine jB rfl (fun _=>rfl) fun K hK=>?_
    simp only[d0,jJ];go_simp
    exact hK _ _ ⟨x6,va,vc,sa,sc,(by simp only[Nat.reduceBEq,Be,Bp,jJ,d0,e7]),h0,h1,(ab p0),(ab e7),(ab e7)⟩
   | 3,_=>
    obtain⟨x6,va,vc,sa,sc,rfl,h0,h1,h2,h3,h4⟩:=o0;obtain⟨d2,e3,e7,p0,-⟩:=S;have x2:=(t0.out.below h0 t0.out.lt).cell 2;simp at x2;rw[Ht.out] at x2;refine jB rfl (fun _=>rfl) fun K hK=>?_
    simp only[d2,jJ];go_simp
    exact hK _ _ ⟨x6,va,vc,sa,sc,(by simp only[Nat.reduceBEq,Be,Bp,jJ,d2,e7]),h0,h1,(ab p0),(ab e7),(ab e7)⟩
   | 5,_=>
    obtain⟨x6,va,vc,sa,sc,rfl,h0,h1,h2,h3,h4⟩:=o0;obtain⟨d4,e5,e7,p0,-⟩:=S;refine jB rfl (fun _=>rfl) fun K hK=>?_
    simp only[d4,jJ];refine G7 26 _ rfl gN (t*3) (by rfl) [Ao Ar d.i,Ao Ar d.f,V an d.n cn] _ (RG.out W h0) Cg (by rfl) Tryz.infoNd ?_;exact hK _ _ ⟨x6,va,vc,sa,sc,(by simp[Act.put,jJ,d4]),h0,h1,(ab p0),(ab e7),(ab e7)⟩
   | 6,_=>
    obtain⟨x6,va,vc,sa,sc,rfl,h0,h1,h2,h3,h4⟩:=o0;obtain⟨e6,e7,p0,-⟩:=S;refine jB rfl (fun _=>rfl) fun K hK=>?_
    refine Ev 31 _ rfl X (by rfl) 31 (syC y (V a9 y.p.m c9)) (0,0) _ (t0.out.below h0 t0.out.lt) Cd (by rfl) Tryz.infoSy ?_;exact hK _ _ ⟨x6,va,vc,sa,sc,(by simp[Act.put,jJ]),h0,h1,(ab p0),(ab e7),(ab e7)⟩
   | 7,_=>
    obtain⟨x6,va,vc,sa,sc,rfl,h0,h1,h2,h3,h4⟩:=o0;obtain⟨d5,d6,e7,e8,e9,t1,p0,j0,-⟩:=S;refine jB rfl (fun _=>rfl) fun K hK=>?_
    simp only[d5,d6,jJ];go_simp
    refine Ax (KH.out W h0) ?_;rintro e w9 ⟨va,vc,sa,sc,rfl,r1,r2,b9,_⟩;exact hK _ _ ⟨x6,va,vc,sa,sc,(by simp only[Nat.reduceBEq,Be,Bp,jJ,jCr,d5,d6,e8,e9,t1,j0]),(jA h0 b9),(fun k0 k1=>by have q:=h1 (show L 11=Aw from k0) (show L 12=Av from k1);exact⟨q.1.below b9 q.1.lt,q.2⟩),(ab p0),(fun k0 k1=>⟨r1.mono (fun b k=>Br k h0.size),r2.mono (fun b k=>Br k h0.size)⟩),(fun k0 k1=>by have q:=(h1 (show L 11=Aw from k1) p0).1.lt;have hs:=h0.size;exact⟨r1.mono (fun b k=>by rcases k with k|k <;> omega),r2.mono (fun b k=>by rcases k with k|k <;> omega)⟩)⟩
   | 11,_=>
    obtain⟨x6,va,vc,sa,sc,rfl,h0,h1,h2,h3,h4⟩:=o0;obtain⟨n0,p0,-⟩:=S;refine jB rfl (fun _=>rfl) fun K hK=>?_
    go_simp
    exact hK _ _ ⟨W.1.size,va,vc,sa,sc,(by simp only[Nat.reduceBEq,Be,Bp,jJ]),(h0.alloc h0.size _),(fun k0 k1=>⟨Row.new W _ _,h0.size⟩),(ab p0),(fun _=>nf),(fun k0 k1=>by have q:=h3 (show L 7=Aw from k0) n0;exact⟨(q.1.since (by simp) (fun b _ hl=>((Az W.1.size W).alloc (Ay _) _).block b hl)).mono (fun b k=>k.elim .inl (fun k=>.inr (by omega))),(q.2.since (by simp) (fun b _ hl=>((Az W.1.size W).alloc (Ay _) _).block b hl)).mono (fun b k=>k.elim .inl (fun k=>.inr (by omega)))⟩)⟩
   | 12,_=>
    obtain⟨x6,va,vc,sa,sc,rfl,h0,h1,h2,h3,h4⟩:=o0;obtain⟨d7,d9,q0,p0,-⟩:=S;obtain⟨r6,l6⟩:=h1 q0 p0;have q4:=h4 d7 q0;refine jB rfl (fun _=>rfl) fun K hK=>?_
    simp only[q0,d9,jJ];refine Gx 26 _ _ rfl x6 #[Ao Ar d.i,Ao Ar d.f,V va N1 vc] (by rfl) (by rfl) 26 #[Ao Ar 0,Ao Ar 0,V I 0 0] r6 Tryz.infoNd rfl (by simp[Aq]) ?_;exact hK _ _ ⟨x6,va,vc,sa,sc,(by simp[Act.put,jJ,q0,d9]),(jG h0 l6 _),(fun _=>nf),(fun k0=>⟨r6.row,l6⟩),(fun _=>ba q0),(fun k0 k1=>⟨q4.1.setRow (.inr rfl) _,q4.2.setRow (.inr rfl) _⟩)⟩
   | n9+14,h=>exact Bo h (by omega)
 .intro q9 m3 L a9 W S o0;match q9,m3 with
  | 1,_|3,_|6,_|8,_|9,_|12,_=>
   obtain⟨m0,c0,f0,i0,a0,b0,rfl,hf⟩:=o0;simp only[knT,kn,knN] at S;refine jB rfl (fun _=>rfl) fun K hK=>?_
   try simp only[S,jJ]
   go_simp
   exact hK _ _ ⟨m0,c0,f0,i0,a0,b0,(by simp only[Nat.reduceBEq,Be,Bp,jJ,S]),hf⟩
  | 0,_=>
   obtain⟨m0,c0,f0,i0,a0,b0,rfl,h0,h1,h2,h3,h4,h5⟩:=o0;obtain⟨e0,e5,n0,j0,-⟩:=S;have hb:=h0 j0;refine jB rfl (fun _=>rfl) fun K hK=>?_
   go_simp
   exact hK _ _ ⟨W.1.size,c0,f0,i0,a0,b0,(by simp only[Nat.reduceBEq,Be,Bp,jJ,jCr,e5,n0]),(fun k0=>hb.alloc hb.size _),(fun k0 k1=>Cc W #[] 0 hb.size (by decide) rfl),(ab e5),(ab n0),h4,(ab j0)⟩
  | 2,_=>
   obtain⟨m0,c0,f0,i0,a0,b0,rfl,h0,h1,h2,h3,h4,h5⟩:=o0;obtain⟨d1,e2,e5,n0,j0,-⟩:=S;have hb:=h0 j0;have x3:=(RA.out.below hb RA.out.lt).cell 3;simp at x3;refine jB rfl (fun _=>rfl) fun K hK=>?_
   simp only[d1,jJ];go_simp
   exact hK _ _ ⟨m0,c0,f0,i0,a0,b0,(by simp only[Nat.reduceBEq,Be,Bp,jJ,d1,e5,n0]),h0,h1,(ab e5),(ab n0),h4,(ab j0)⟩
  | 4,_=>
   obtain⟨m0,c0,f0,i0,a0,b0,rfl,h0,h1,h2,h3,h4,h5⟩:=o0;obtain⟨d2,d3,e4,e5,n0,j0,-⟩:=S;refine jB rfl (fun _=>rfl) fun K hK=>?_
   simp only[d2,d3,jJ];refine jOu 15 16 rfl gW m cW a7 (by rfl) (by rfl) (by omega) ?_;exact hK _ _ ⟨m0,c0,f0,i0,a0,b0,(by simp[Act.put,jJ,d2,d3]),h0,h1,(ab e5),(ab n0),h4,(ab j0)⟩
  | 5,_=>
   obtain⟨m0,c0,f0,i0,a0,b0,rfl,h0,h1,h2,h3,h4,h5⟩:=o0;obtain⟨d0,d4,e5,n0,j0,-⟩:=S;have hb:=h0 j0;have q1:=h1 d0 e5;have oW:=jF z3.out hb;refine jB rfl (fun _=>rfl) fun K hK=>?_
   simp only[d0,d4,jJ];refine QE 13 17 rfl w1.1.size m0 0 0 [] (by rfl) q1 (M ⟨gW,0,I⟩) a7 cW (cL 10 cy a7) (by rfl) (fun e=>by cases e) (jY _ _ _) (fun b e j u hu=>by cases e;exact u3.out W oW 0 a7 (by omega) j u (by rw[jCq];exact hu)) w3.out (by omega) hb.size ?_;intro c0 f0 w9 ho hg _;exact hK _ _ ⟨m0,c0,f0,i0,a0,b0,(by simp[Act.put,jJ,d0,d4]),(fun k0=>hb.grown hg hb.size (fun k e=>by cases e;exact(A0 q1 m0 rfl).1)),(fun _=>nf),(fun k0 k1=>by simpa using ho),(ab n0),h4,(ab j0)⟩
  | 7,_=>
   obtain⟨m0,c0,f0,i0,a0,b0,rfl,h0,h1,h2,h3,h4,h5⟩:=o0;obtain⟨d6,e7,t1,n0,j0,-⟩:=S;have hb:=h0 j0;have x3:=(RA.out.below hb RA.out.lt).cell 3;simp at x3;refine jB rfl (fun _=>rfl) fun K hK=>?_
   simp only[d6,jJ];go_simp
   exact hK _ _ ⟨m0,c0,f0,i0,a0,b0,(by simp only[Nat.reduceBEq,Be,Bp,jJ,d6,t1,n0]),h0,h1,h2,(ab n0),(ab t1),(ab j0)⟩
  | 10,_=>
   obtain⟨m0,c0,f0,i0,a0,b0,rfl,h0,h1,h2,h3,h4,h5⟩:=o0;obtain⟨d7,d9,t1,n0,j0,-⟩:=S;have hb:=h0 j0;refine jB rfl (fun _=>rfl) fun K hK=>?_
   simp only[d7,d9,jJ];refine jGw 20 22 rfl gW m cW a8 (by rfl) (by rfl) (by omega) l4 ?_;intro i0 o4;exact hK _ _ ⟨m0,c0,f0,i0,a0,b0,(by simp[Act.put,jJ,d7,d9]),h0,h1,h2,(ab n0),(fun k0=>o4),(ab j0)⟩
  | 11,_=>
   obtain⟨m0,c0,f0,i0,a0,b0,rfl,h0,h1,h2,h3,h4,h5⟩:=o0;obtain⟨d0,d5,s1,n0,j0,-⟩:=S;have hb:=h0 j0;have q2:=h2 d5 n0;have oW:=jF z3.out hb;have q4:=h4 s1;refine jB rfl (fun _=>rfl) fun K hK=>?_
   simp only[d5,s1,jJ];refine QE 18 23 rfl w1.1.size c0 a7 f0 (cL 10 cy a7) (by rfl) q2 (M ⟨gW,i0,I⟩) (m-a8) (cW-a8) (cL 10 (fun i q=>cy (i+a8) q) (m-a8)) (by rfl) (fun e=>by cases e) (jY _ _ _) (fun b e j u hu=>?_) (fun u hu=>?_) (by have:=H8.out;omega) hb.size ?_
   .cases e;rcases q4 with q4|q4
    .have:=(Bz.1 hu).1
     rw[jY] at this;omega
    .rw[q4];exact u3.out W oW a8 (m-a8) (by omega) j u hu
   .obtain⟨i,q,hi,hq,rfl⟩:=jAt (by omega) hu;exact n2.out _ q (by have:=H8.out;omega) hq
   intro a0 b0 w9 ho hg _;rw[H9.out];exact hK _ _ ⟨m0,c0,f0,i0,a0,b0,(by simp[Act.put,jJ,d5,s1]),(fun k0=>hb.grown hg hb.size (fun k e=>by cases e;exact(A0 q2 c0 rfl).1)),(fun _=>ba d5),(fun _=>nf),(fun k0=>cutE ha H8.out n1.out ho),h4,(ab j0)⟩
  | 13,_=>
   obtain⟨m0,c0,f0,i0,a0,b0,rfl,h0,h1,h2,h3,h4,h5⟩:=o0;obtain⟨d0,d5,s1,q0,j4,j0,-⟩:=S;have hb:=h0 j0;have q3:=h3 q0;have qA:=RA.out.below hb RA.out.lt;have fr:=qA.free 3;have x3:=qA.cell 3;simp at x3;refine jB rfl (fun _=>rfl) fun K hK=>?_
   simp only[j4,q0,jJ];go_simp
   exact hK _ _ ⟨m0,c0,f0,i0,a0,b0,(by simp only[Nat.reduceBEq,Be,d0,d5,s1,q0,j4,jJ]),nf,(fun _=>ba d5),(fun _=>ba q0),(fun k0=>jL q3 (jN W A 3 _) (fun x e=>by cases e;have:=(A0 q3 a0 rfl).1;show a0≠A;omega)),h4,(fun k0=>⟨(Trn.ofBelow _ hb).trans (Trn.set W 3 _ rfl),qA.set 3 _⟩)⟩
  | n9+14,h=>exact Bo h (by omega)
end Go.Proofs.YtcaejlalnjnifaaGreat
