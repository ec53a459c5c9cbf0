import Derived.Test.YtcaejlalnjnifaaGreatR32
set_option maxHeartbeats 8000000
set_option maxRecDepth 2000
open Go.Value renaming slice->V,string->Ag,agg->Ai,int->Ao,oneCell'->Aq
open Option renaming none->I,some->M
open Go.RowKit renaming Hid->H,Below->Ab
open Go.Addr renaming mk->Q
open Go renaming undef->O,World->Ad,Value->Aj,Calls->Ak,maxLen->Au
open Go.Obj renaming cells->J
open Go.Ending renaming returned->Ae
open ByteArray renaming empty->Ap
open Go.IntKind renaming i64->Ar
open Bool renaming false->Av,true->Aw
open Go.Proofs.Tryz
open Go.ChangeShapes Go.WideShapes Go.ChangeAt Go.RowKit
namespace Go.Proofs.YtcaejlalnjnifaaGreat
section
def wtO (o:Op9):Nat:=wtY o.y+o.s.size
structure jPg (o:Op9):Prop where
 y:SyB o.y
 s:o.s.size<=Au
theorem Tryz.infoOpL:(Tryz.prog.info? 68).map (·.size)=M 13:=by kernel_rfl
theorem jGi {W:Ad} {X:Nat} {t:TypeId} {o:Op9} {v:Aj} (h:Row W X t (opC o v)):W.rangeAt X 2 (syC o.y v).toList:=fun j u hv=>by
 have hj:j<10:=by
  rcases Fz j 10 with k|k
  .exact k
  .rw[Be (by simpa using k)] at hv;cases hv
 rw[h.cell (2+j)];match j,hj with
 | 0,_|1,_|2,_|3,_|4,_|5,_|6,_|7,_|8,_|9,_=>simpa using hv
theorem jNr (o:Op9) (an:OA) (cn l:Nat) (w:Ad) (h:jL w an o.y.p.m o.y.p.S) (hB:jPg o) (hl:l<=1048576):CB 27 #[opV o (V an o.y.p.m cn),(l:Int)] w (szN l (wtO o)):=by
 obtain⟨A,HA⟩:=nmH w.1.size;obtain⟨w0,a0⟩:=nmH (w.alloc (J (opC o (V an o.y.p.m cn)) 68));have R0:=(jZ a0 HA).out;have b0:=bl1 a0;have KB:=hd b0;have KM:=hd (jGi R0);have KS:H _:=jG0 o.y an cn l w0 (h.below b0) hB.y hl;have KR:=hd R0;obtain⟨sz,c0⟩:=nnH o.s.size;obtain⟨ny,d0⟩:=nnH (wtY o.y);have hs:(sz:Int)<=9223372036854775807:=by have:=hB.s;rw[c0.out] at this;unfold Au at this;omega
 have hW:H (wtO o=ny+sz):=by show _=_;unfold wtO;rw[c0.out,d0.out]
 have f0:(o.s.size:Int)=(sz:Int):=by rw[c0.out]
 rw[hW.out];rw[d0.out] at KS;by_cases c1:ny<=l
 .obtain⟨r,Hr⟩:=nnH (l-ny);rw[qE c1,Hr.out] at KS;have hr:r<=1048576:=by have:=Hr.out;omega
  have n0:¬ ((r:Int)<0):=by omega
  by_cases c2:sz<=r
  have e2:H (szN l (ny+sz)=((r-sz:Nat):Int)):=by show _=_;have:=Hr.out;rw[qE (by omega),show l-(ny+sz)=r-sz by omega]
  have e3:IntKind.i64.wrap ((r:Int)-(sz:Int))=((r-sz:Nat):Int):=by rw[A8];omega
  have n1:¬ (((r-sz:Nat):Int)<0):=by omega
  rw[e2.out];obtain⟨q,Hq⟩:=nnH (r-sz);rw[Hq.out] at e3 n1 |-;rotate_left;have e2:H (szN l (ny+sz) = -1):=by show _=_;have:=Hr.out;rw[qD (by omega)]
  have e3:IntKind.i64.wrap ((r:Int)-(sz:Int))=(r:Int)-(sz:Int):=by rw[A8];omega
  have n1:(r:Int)-(sz:Int)<0:=by omega
  rw[e2.out];rotate_left;all_goals
   go_enter func27,ntmps27
   go_upto_region 1 with fail
   rw[<-a0.out,<-HA.out];go_wp2_with (refine Bv rfl 66 _ rfl A 2 rfl (syC o.y (V an o.y.p.m cn)).toList _ ?_ Ej rfl Tryz.infoSyL ?_;exact KM)
   refine CM KS.out fun w1 b1=>?_
   have e0:=(KR.below b1 KR.lt).cell 12;simp at e0;have KF:=hd (jA KB b1);go_wp2
   go_ret
   exact⟨rfl,KF⟩
 .rw[qD c1] at KS;have e2:H (szN l (ny+sz) = -1):=by show _=_;rw[qD (by omega)]
  rw[e2.out];go_enter func27,ntmps27
  go_upto_region 1 with fail
  rw[<-a0.out,<-HA.out];go_wp2_with (refine Bv rfl 66 _ rfl A 2 rfl (syC o.y (V an o.y.p.m cn)).toList _ ?_ Ej rfl Tryz.infoSyL ?_;exact KM)
  refine CM KS.out fun w1 b1=>?_
  have KF:=hd (jA KB b1);go_wp2
  go_ret
  exact⟨rfl,KF⟩
theorem jNy (o:Op9) (an:OA) (cn:Nat) (w:Ad) (h:jL w an o.y.p.m o.y.p.S) (hm:o.y.p.m<=1048576):Ak prog 29 #[opV o (V an o.y.p.m cn)] w fun e w'=>∃ g,e=Ae (opV o (V (Q g 0 I) o.y.p.m o.y.p.m))/\Ow w' w (txD o.y.p.m o.y.p.S) (V (Q g 0 I) o.y.p.m o.y.p.m) (fun x=>x=g)/\w.1.size<=g/\g<w'.1.size/\Ab w w w':=by
 obtain⟨A,HA⟩:=nmH w.1.size;obtain⟨D,HD⟩:=nmH (w.1.size+1);obtain⟨E,HE⟩:=nmH (w.1.size+1+1);obtain⟨w0,i0⟩:=nmH (((w.alloc (J (opC o (V an o.y.p.m cn)) 68)).alloc (J #[(),(),(),(),(),Zs,Zs,(),(),(),Zs,V I 0 0,Zs] 50)).alloc (J #[(),(),(),(),(),Zs,Zs,(),(),(),Zs,V I 0 0,Zs] 50));have RA:=(zS i0 HA).out;have RD:=(xV i0 HD).out;have RE:=(zE i0 HE).out;have b0:=bl3 i0;have lA:w.1.size<=A/\A<D/\D<E/\E<w0:=⟨by have:=HA.out;omega,by have h1:=HA.out;have h2:=HD.out;omega,by have h1:=HD.out;have h2:=HE.out;omega,RE.lt⟩;obtain⟨x0,x1⟩:=RA.c2 0 1;obtain⟨z0,z1⟩:=RE.c2 0 1;have f0:=RE.free 0;have f1:=RE.free 1;simp at x0 x1 z0 z1;obtain⟨w1,d0⟩:=nmH ((w0.setCell E o.k).setCell (Q E 1 I) o.a);have a0:Row w1 A 68 (opC o (V an o.y.p.m cn)):=by rw[d0.out];exact(RA.other _ _ (by omega)).other _ _ (by omega)
 have g0:Row w1 D 50 #[(),(),(),(),(),Zs,Zs,(),(),(),Zs,V I 0 0,Zs]:=by rw[d0.out];exact(RD.other _ _ (by omega)).other _ _ (by omega)
 have h0:Row w1 E 50 #[o.k,o.a,(),(),(),Zs,Zs,(),(),(),Zs,V I 0 0,Zs]:=by rw[d0.out];exact(RE.set 0 _).set 1 _
 have s1:w1.1.size=w0.1.size:=by rw[d0.out];simp
 have c0:Ab w w w1:=by rw[d0.out];exact(b0.setCell (by show w.1.size<=E;omega) _).setCell (by show w.1.size<=E;omega) _
 have KM:=hd (jGi a0);have KT:H _:=jG2 o.y an cn w1 (h.below c0) hm;have KL:H (Ab w w w1/\w1.1.size=w0.1.size/\Row w1 A 68 (opC o (V an o.y.p.m cn))/\Row w1 D 50 #[(),(),(),(),(),Zs,Zs,(),(),(),Zs,V I 0 0,Zs]/\Row w1 E 50 #[o.k,o.a,(),(),(),Zs,Zs,(),(),(),Zs,V I 0 0,Zs]):=⟨c0,s1,a0,g0,h0⟩;clear RA RD RE b0 a0 g0 h0 s1 c0 h;go_enter func29,ntmps29
 go_upto_region 2 with fail
 rw[<-i0.out,<-HE.out,<-HD.out,<-HA.out];go_upto_region 4 with fail
 rw[<-d0.out];clear x0 x1 z0 z1 f0 f1;go_wp2_with (refine Bv rfl 66 _ rfl A 2 rfl (syC o.y (V an o.y.p.m cn)).toList _ ?_ Ej rfl Tryz.infoSyL ?_;exact KM)
 refine Ax KT.out ?_;rintro e w2 ⟨g,rfl,o2,lg,j1,b2⟩;obtain⟨c0,s1,a0,g0,h0⟩:=KL.out;have q0:=a0.below b2 a0.lt;have t0:=g0.below b2 g0.lt;have m0:=h0.below b2 h0.lt;have TH:H (w2.there E 2 10):=fun j hj=>by
  refine⟨?_,m0.free (2+j)⟩;rw[m0.cell (2+j)];match j,hj with
  | 0,_|1,_|2,_|3,_|4,_|5,_|6,_|7,_|8,_|9,_=>rfl
 obtain⟨w3,j0⟩:=nmH (w2.setCells E 2 (syC o.y (V (Q g 0 I) o.y.p.m o.y.p.m)).toList);have o3:∀ x,x≠E->w3.1[x]?=w2.1[x]?:=fun x hx=>by rw[j0.out];exact jG E _ _ w2 x hx
 have r0:Row w3 A 68 (opC o (V an o.y.p.m cn)):=(o3 A (by omega)).trans q0;have u0:Row w3 D 50 #[(),(),(),(),(),Zs,Zs,(),(),(),Zs,V I 0 0,Zs]:=(o3 D (by omega)).trans t0;obtain⟨u2,U2⟩:=nmH (w2.setCell (Q E 2 I) o.y.k);have S2:Row u2 E 50 #[o.k,o.a,o.y.k,(),(),Zs,Zs,(),(),(),Zs,V I 0 0,Zs]:=by rw[U2.out];exact m0.set 2 _
 obtain⟨u3,U3⟩:=nmH (u2.setCell (Q E 3 I) o.y.f);have S3:Row u3 E 50 #[o.k,o.a,o.y.k,o.y.f,(),Zs,Zs,(),(),(),Zs,V I 0 0,Zs]:=by rw[U3.out];exact S2.set 3 _
 obtain⟨u4,U4⟩:=nmH (u3.setCell (Q E 4 I) o.y.t);have S4:Row u4 E 50 #[o.k,o.a,o.y.k,o.y.f,o.y.t,Zs,Zs,(),(),(),Zs,V I 0 0,Zs]:=by rw[U4.out];exact S3.set 4 _
 obtain⟨u5,U5⟩:=nmH (u4.setCell (Q E 5 I) o.y.r);have S5:Row u5 E 50 #[o.k,o.a,o.y.k,o.y.f,o.y.t,o.y.r,Zs,(),(),(),Zs,V I 0 0,Zs]:=by rw[U5.out];exact S4.set 5 _
 obtain⟨u6,U6⟩:=nmH (u5.setCell (Q E 6 I) o.y.p.r);have S6:Row u6 E 50 #[o.k,o.a,o.y.k,o.y.f,o.y.t,o.y.r,o.y.p.r,(),(),(),Zs,V I 0 0,Zs]:=by rw[U6.out];exact S5.set 6 _
 obtain⟨u7,U7⟩:=nmH (u6.setCell (Q E 7 I) o.y.p.k);have S7:Row u7 E 50 #[o.k,o.a,o.y.k,o.y.f,o.y.t,o.y.r,o.y.p.r,o.y.p.k,(),(),Zs,V I 0 0,Zs]:=by rw[U7.out];exact S6.set 7 _
 obtain⟨u8,U8⟩:=nmH (u7.setCell (Q E 8 I) o.y.p.n);have S8:Row u8 E 50 #[o.k,o.a,o.y.k,o.y.f,o.y.t,o.y.r,o.y.p.r,o.y.p.k,o.y.p.n,(),Zs,V I 0 0,Zs]:=by rw[U8.out];exact S7.set 8 _
 obtain⟨u9,U9⟩:=nmH (u8.setCell (Q E 9 I) o.y.p.i);have S9:Row u9 E 50 #[o.k,o.a,o.y.k,o.y.f,o.y.t,o.y.r,o.y.p.r,o.y.p.k,o.y.p.n,o.y.p.i,Zs,V I 0 0,Zs]:=by rw[U9.out];exact S8.set 9 _
 obtain⟨b1,o0⟩:=nmH (u9.setCell (Q E 10 I) o.y.p.b);have y0:Row b1 E 50 #[o.k,o.a,o.y.k,o.y.f,o.y.t,o.y.r,o.y.p.r,o.y.p.k,o.y.p.n,o.y.p.i,o.y.p.b,V I 0 0,Zs]:=by rw[o0.out];exact S9.set 10 _
 obtain⟨c1,p0⟩:=nmH (b1.setCell (Q E 11 I) (V (Q g 0 I) o.y.p.m o.y.p.m));have a1:Row c1 E 50 #[o.k,o.a,o.y.k,o.y.f,o.y.t,o.y.r,o.y.p.r,o.y.p.k,o.y.p.n,o.y.p.i,o.y.p.b,V (Q g 0 I) o.y.p.m o.y.p.m,Zs]:=by rw[p0.out];exact y0.set 11 _
 have e3:w3=c1:=by rw[j0.out,p0.out,o0.out,U9.out,U8.out,U7.out,U6.out,U5.out,U4.out,U3.out,U2.out];rfl
 have n0:Row w3 E 50 #[o.k,o.a,o.y.k,o.y.f,o.y.t,o.y.r,o.y.p.r,o.y.p.k,o.y.p.n,o.y.p.i,o.y.p.b,V (Q g 0 I) o.y.p.m o.y.p.m,Zs]:=by rw[e3];exact a1
 clear e3 S2 U2 S3 U3 S4 U4 S5 U5 S6 U6 S7 U7 S8 U8 S9 U9 y0 o0 a1 p0;have k1:=r0.cell 12;have m1:=n0.cell 12;have n1:=n0.free 12;simp at k1 m1;obtain⟨w4,e0⟩:=nmH (w3.setCell (Q E 12 I) o.s);have g1:H (Row w4 E 50 (opC o (V (Q g 0 I) o.y.p.m o.y.p.m))):=by show Row _ _ _ _;rw[e0.out];exact n0.set 12 _
 have v0:H (Row w4 D 50 #[(),(),(),(),(),Zs,Zs,(),(),(),Zs,V I 0 0,Zs]):=by show Row _ _ _ _;rw[e0.out];exact u0.other _ _ (by omega)
 obtain⟨w5,k0⟩:=nmH (w4.setRow D (opC o (V (Q g 0 I) o.y.p.m o.y.p.m)));have e1:=rr k0 v0;have KF:H (Ow w5 w (txD o.y.p.m o.y.p.S) (V (Q g 0 I) o.y.p.m o.y.p.m) (fun x=>x=g)/\w.1.size<=g/\g<w5.1.size/\Ab w w w5):=by
  have s0:=c0.size;have s2:=b2.size;have z3:w3.1.size=w2.1.size:=by rw[j0.out];exact jQ _ _ _ _
  have z5:w5.1.size=w3.1.size:=by rw[k0.out,e0.out];simp
  have t5:∀ x,x≠E->x≠D->w5.1[x]?=w2.1[x]?:=fun x h1 h2=>by
   rw[k0.out,e0.out];exact((Cd _ _ _ _ (fun e=>h2 e)).trans (Cn w3 (Q E 12 I) x _ (fun e=>h1 e))).trans (o3 x h1)
  refine⟨(o2.base (by omega)).frame (fun x hx _=>t5 x (by have i1:x=g:=hx;omega) (by have i1:x=g:=hx;omega)),by omega,by omega,?_⟩;rw[k0.out,e0.out,j0.out];exact jF ((jR (c0.trans (b2.mono s0)) (by omega) _ _).setCell (by show w.1.size<=E;omega) _) (by omega) _
 clear o2 lg j1 b2 q0 t0 m0 r0 u0 n0 o3 c0 s1 a0 g0 h0 KL;go_wp2_with (first|(refine C7 rfl 31 _ _ rfl E 2 (syC o.y (V (M ⟨g,0,I⟩) o.y.p.m o.y.p.m)) rfl rfl ?_ Tryz.infoSy (by simp[Aq]) ?_;exact TH;rw[<-j0.out])|(rw[<-e0.out];refine Bb rfl 50 _ rfl E rfl 50 (opC o (V (M ⟨g,0,I⟩) o.y.p.m o.y.p.m)) (0,0) _ ?_ Fk rfl Tryz.infoOp ?_;exact g1)|(refine Bw rfl 50 _ _ rfl D (opC o (V (M ⟨g,0,I⟩) o.y.p.m o.y.p.m)) rfl rfl 50 #[(),(),(),(),(),Zs,Zs,(),(),(),Zs,V I 0 0,Zs] ?_ Tryz.infoOp rfl (by simp[Aq]) ?_;exact v0;rw[<-k0.out]))
 exact B7 (v:=opV o (V (Q g 0 I) o.y.p.m o.y.p.m)) (Ck results29 _ _ D 50 _ (0,0) _ rfl e1 Fk rfl Tryz.infoOp) rfl ⟨g,rfl,KF⟩
theorem jJb (o:Op9) (a9 b9:OA) (c9 d9:Nat) (w:Ad) (h9:jL w a9 o.y.p.m o.y.p.S) (k9:jL w b9 o.y.p.m o.y.p.S) (hs:o.y.p.m<=1048576):CB 31 #[opV o (V a9 o.y.p.m c9),opV o (V b9 o.y.p.m d9)] w Aw:=by
 obtain⟨A,HA⟩:=nmH w.1.size;obtain⟨D,HD⟩:=nmH (w.1.size+1);obtain⟨w0,a0⟩:=nmH ((w.alloc (J (opC o (V a9 o.y.p.m c9)) 50)).alloc (J (opC o (V b9 o.y.p.m d9)) 50));have RA:=(xS a0 HA).out;have RD:=(zR a0 HD).out;have b0:=bl2 a0;have KB:=hd b0;have KA:=hd (jGi RA);have KD:=hd (jGi RD);have KE:H _:=jC1 o.y a9 b9 c9 d9 w0 (h9.below b0) (k9.below b0) hs;have KR:H (Row w0 A 50 (opC o (V a9 o.y.p.m c9))/\Row w0 D 50 (opC o (V b9 o.y.p.m d9))):=⟨RA,RD⟩;obtain⟨x0,x1⟩:=RA.c2 0 1;obtain⟨y0,y1⟩:=RD.c2 0 1;simp at x0 x1 y0 y1;have nk:(o.k !=o.k)=Av:=by simp
 have na:(o.a !=o.a)=Av:=by simp
 have n3:(o.s.toList !=o.s.toList)=Av:=by simp
 have e0:=vD o.s;go_enter func31,ntmps31
 go_upto_region 1 with fail
 rw[<-a0.out,<-HD.out,<-HA.out];go_upto_region 5 with fail
 go_wp2_with (first|(refine Bv rfl 31 _ rfl A 2 rfl (syC o.y (V a9 o.y.p.m c9)).toList _ ?_ Ci rfl Tryz.infoSy ?_;exact KA)|(refine Bv rfl 31 _ rfl D 2 rfl (syC o.y (V b9 o.y.p.m d9)).toList _ ?_ Ci rfl Tryz.infoSy ?_;exact KD))
 refine CM KE.out fun w1 b1=>?_
 have c0:=(KR.1.below b1 KR.1.lt).cell 12;have d0:=(KR.2.below b1 KR.2.lt).cell 12;simp at c0 d0;have KF:=hd (jA KB b1);go_wp2
 go_ret
 exact⟨rfl,KF⟩
variable {H:Type} {enc:TypeId×Value->H} {w:World} {base:Nat} {spare:Nat->Bool} {held:Bool}
theorem jP0 {α:Type} (l:List α) (h:l.length=13):∃ c0 c1 c2 c3 c4 c5 c6 c7 c8 c9 c10 c11 c12,l=[c0,c1,c2,c3,c4,c5,c6,c7,c8,c9,c10,c11,c12]:=by
 match l,h with
 | [c0,c1,c2,c3,c4,c5,c6,c7,c8,c9,c10,c11,c12],_=>exact⟨c0,c1,c2,c3,c4,c5,c6,c7,c8,c9,c10,c11,c12,rfl⟩
theorem jH0 {a0:Nat} {cs:List Aj} {x:DataW H×List MemPlace} (h:DataW.trod enc prog w base spare held a0 68 cs=M x):∃ (o:Op9) (a:OA) (c:Nat),cs=(opC o (V a o.y.p.m c)).toList/\jL w a o.y.p.m o.y.p.S/\jPg o:=by
 have f0:Tryz.prog.cellsOf 68=13:=by kernel_rfl
 have d0:Tryz.prog.cellsOf 66=10:=by kernel_rfl
 have i0:Tryz.prog.cellsOf 9=1:=by kernel_rfl
 have h0:Tryz.prog.cellsOf 3=1:=by kernel_rfl
 obtain⟨xs,f,_,_,hl,b0,hf⟩:=Ex underlying68 h;rw[f0] at hl;obtain⟨c0,c1,c2,c3,c4,c5,c6,c7,c8,c9,j0,k0,m0,rfl⟩:=jP0 cs hl;obtain⟨y0,y1,y2,y3,rfl⟩:=jJv xs b0;have g0:=hf 0 _ rfl;have g1:=hf 1 _ rfl;have g2:=hf 2 _ rfl;have g3:=hf 3 _ rfl;simp[i0,d0,h0] at g0 g1 g2 g3;obtain⟨k,e0,_,_⟩:=Dr Dd g0;obtain⟨aa,e1,_,_⟩:=Dr Dd g1;obtain⟨y,an,cn,e2,ht,hB⟩:=jKh g2;obtain⟨s,e3,_,hs⟩:=Fi C6 g3;simp at e0 e1 e2 e3;subst e0 e1 e3;obtain⟨rfl,rfl,rfl,rfl,rfl,rfl,rfl,rfl,rfl,rfl⟩:=e2;exact⟨⟨k,aa,y,s⟩,an,cn,rfl,ht,⟨hB,hs⟩⟩
end
abbrev yM (Y:Nat->Sy) (i:Nat):Nat:=9+(Y i).p.m
theorem jQa (k:Nat) (Y:Nat->Sy) (m:Nat):ofy k Y m=k+tot (yM Y) m:=by
 induction m with
 | zero=>rfl
 | succ m ih=>show ofy k Y m+9+(Y m).p.m=k+(tot (yM Y) m+(9+(Y m).p.m));omega
theorem jCg (m:Nat) (Y Z:Nat->Sy) (j:Nat):tot (yM (wyS m Y Z)) (m+j)=tot (yM Y) m+tot (yM Z) j:=by
 induction j with
 | zero=>exact jCf (fun i hi=>by show 9+(wyS m Y Z i).p.m=_;unfold wyS;rw[A6 (show i<m from hi)])
 | succ j ih=>
  show tot (yM (wyS m Y Z)) (m+j)+(9+(wyS m Y Z (m+j)).p.m)=tot (yM Y) m+(tot (yM Z) j+(9+(Z j).p.m));have:wyS m Y Z (m+j)=Z j:=by unfold wyS;rw[A5 (by omega),Ft]
  rw[this];omega
theorem jG3 (a:Nat) (Y:Nat->Sy) (m:Nat):tot (yM (QK a Y)) m<=tot (yM Y) (m+1):=by
 induction m with
 | zero=>exact Bi _
 | succ m ih=>
  show tot (yM (QK a Y)) m+(9+(QK a Y m).p.m)<=tot (yM Y) (m+1)+(9+(Y (m+1)).p.m);by_cases h:m<a
  .have e:tot (yM (QK a Y)) m=tot (yM Y) m:=jCf (fun i hi=>by show 9+(QK a Y i).p.m=_;unfold QK;rw[A6 (by omega)]);have e2:QK a Y m=Y m:=by unfold QK;rw[A6 h]
   have e3:tot (yM Y) (m+1)=tot (yM Y) m+(9+(Y m).p.m):=rfl;rw[e,e2,e3];omega
  .have e2:QK a Y m=Y (m+1):=by unfold QK;rw[A5 h]
   rw[e2];omega
theorem jLy {g:Nat->Nat} {c:Nat} (n:Nat) (h:∀ i,i<n->g i<=c):tot g n<=n*c:=by
 induction n with
 | zero=>exact Bi _
 | succ n ih=>
  have h1:=ih (fun i hi=>h i (by omega));have h2:=h n (by omega);show tot g n+g n<=(n+1)*c;rw[F0];omega
abbrev mkT (n:Nat) (zs:List Int) (T:Ns):Nat:=mq3 n T.N zs T.m T.Y
theorem XV (n:Nat) (zs:List Int) (T:Ns):mkT n zs T=1+tot (fun i=>wkN (T.N i)) n+zs.length+tot (yM T.Y) T.m:=by
 unfold mkT mq3;rw[jQa];rfl
theorem jRf (s:BA) (f:Int) (i:Nat):(brS s f i).p.m<=16:=jOu _ _ _
theorem jRp {f:Int} {n:Nat} {zs:List Int} {T:Ns} (h:NsG f n zs T) {a:Nat} (ha:a<T.m):mkT n zs (hrT n zs T a)<=mkT n zs T+1048700:=by
 rw[XV,XV];obtain⟨m1,em⟩:∃ x,T.m=x+1:=⟨T.m-1,by omega⟩;unfold hrT;by_cases hp:ToP n zs (T.Y a).t
 .rw[A6 hp];have b0:=h.nd (i:=(T.Y a).t.toNat) (by have:=hp.1;omega);have hL:=jKb (id:=(T.N (T.Y a).t.toNat).i) (f:=(T.N (T.Y a).t.toNat).f) (h.nh (i:=(T.Y a).t.toNat) (by have:=hp.1;omega) (h.y a ha));have h1:=jLz (g:=fun i=>wkN (if i=(T.Y a).t.toNat then hdN (T.N (T.Y a).t.toNat) (T.Y a) else T.N i)) (h:=fun i=>wkN (T.N i)) (p:=(T.Y a).t.toNat) (c:=1048600) (fun i hi=>by simp only[A5 hi];exact Ay _) (by
   simp only[C0];have:=hL.w
   unfold wkN hdN;show 2+tot (fun i=>wkS (nhS _ _ _ _ _ i)) (nhN _ _ _ _ _)<=_;omega) n
  have a0:tot (fun i=>wkN (if i=(T.Y a).t.toNat then hdN (T.N (T.Y a).t.toNat) (T.Y a) else T.N i)) n<=tot (fun i=>wkN (T.N i)) n+1048600:=by
   refine By h1 ?_;split <;> omega
  have h2:=jCg (T.m-1) (QK a T.Y) (hdY (T.N (T.Y a).t.toNat) (T.Y a)) (hdM (T.N (T.Y a).t.toNat) (T.Y a));have h3:=jG3 a T.Y m1;have h4:tot (yM (hdY (T.N (T.Y a).t.toNat) (T.Y a))) (hdM (T.N (T.Y a).t.toNat) (T.Y a))<=hdM (T.N (T.Y a).t.toNat) (T.Y a)*9:=jLy _ (fun i _=>by show 9+(nhY _ _ _ _ _ i).p.m<=9;rw[hL.p i];omega);have h5:hdM (T.N (T.Y a).t.toNat) (T.Y a)<=10:=hL.m;show 1+tot (fun i=>wkN (if i=(T.Y a).t.toNat then hdN (T.N (T.Y a).t.toNat) (T.Y a) else T.N i)) n+zs.length+tot (yM (wyS (T.m-1) (QK a T.Y) (hdY (T.N (T.Y a).t.toNat) (T.Y a)))) (T.m-1+hdM (T.N (T.Y a).t.toNat) (T.Y a))<=_;rw[h2];have e1:T.m-1=m1:=by omega
  rw[e1,em];omega
 .rw[A5 hp];have h3:=jG3 a T.Y m1;show 1+tot (fun i=>wkN (T.N i)) n+zs.length+tot (yM (QK a T.Y)) (T.m-1)<=_;have e1:T.m-1=m1:=by omega
  rw[e1,em];omega
theorem jR6 {f:Int} {n:Nat} {zs:List Int} {T:Ns} {o:Op9} (h:NsG f n zs T) (ho:OpK o):mkT n zs (opT f n zs T o)<=mkT n zs T+1048700:=by
 unfold opT;cases e:opB f n zs T o with
 | false=>exact Nat.le_add_right _ _
 | true=>
  rw[A6 rfl];have hp:=jOn e;unfold nxT;rcases hp with ⟨e,ha,hm⟩|⟨e,ha,hm⟩|⟨e,ha,hb,hm⟩|⟨e,hb,hm⟩
  .rw[A6 e];exact jRp h (by omega)
  .rw[A5 (by omega),A6 e,XV,XV];have h2:=jCg T.m T.Y (fun _=>T.Y o.a.toNat) 1;have h3:tot (yM (fun _=>T.Y o.a.toNat)) 1=0+(9+(T.Y o.a.toNat).p.m):=rfl;have h4:=(h.y o.a.toNat (by omega)).m;show 1+tot (fun i=>wkN (T.N i)) n+zs.length+tot (yM (wyS T.m T.Y (fun _=>T.Y o.a.toNat))) (T.m+1)<=_;omega
  .rw[A5 (by omega),A5 (by omega),A6 e,XV,XV];have h2:=jCg T.m T.Y (fun _=>o.y) 1;have h3:tot (yM (fun _=>o.y)) 1=0+(9+o.y.p.m):=rfl;have h4:=ho.y.m;show 1+tot (fun i=>wkN (T.N i)) n+zs.length+tot (yM (wyS T.m T.Y (fun _=>o.y))) (T.m+1)<=_;omega
  .rw[A5 (by omega),A5 (by omega),A5 (by omega),XV,XV];have h2:=jCg T.m T.Y (brS o.s f) (brN o.s f);have h3:tot (yM (brS o.s f)) (brN o.s f)<=brN o.s f*25:=jLy _ (fun i _=>by have:=jRf o.s f i;show 9+(brS o.s f i).p.m<=25;omega);have h4:=(jCu (s:=o.s) (f:=f)).2;show 1+tot (fun i=>wkN (T.N i)) n+zs.length+tot (yM (wyS T.m T.Y (brS o.s f))) (T.m+brN o.s f)<=_;omega
theorem NsG.w {f:Int} {n:Nat} {zs:List Int} {T:Ns} (h:NsG f n zs T) (hk:mkT n zs T<=400000000):NtW n T.N zs T.m T.Y:=by
 have a0:=h.n10;refine⟨by omega,fun i hi=>⟨by have:=(h.nd hi).2.2.2;omega,fun j hj=>(h.k i hi j hj).s⟩,by omega,by omega,fun i hi=>(h.y i hi).m,hk⟩
theorem jTf {o:Op9} (h:wtO o<=1048576):OpK o:=by
 unfold wtO wtY wtP at h;refine⟨⟨by omega,by omega,by omega,by omega,fun j hj=>?_⟩,by omega⟩;have:(o.y.p.S j).size<=tot (fun j=>(o.y.p.S j).size) o.y.p.m:=JC (g:=fun j=>(o.y.p.S j).size) hj
 omega
theorem jG7 {n:Nat} {N:Nat->Nd} {zs:List Int} {m:Nat} {Y:Nat->Sy} (h:wtT n N zs m Y<=1048576) (i:Nat) (hi:i<m):SyK (Y i):=by
 unfold wtT jG8 at h;have h1:=JC (g:=fun i=>wtY (Y i)) hi;have h2:wtY (Y i)<=1048576:=by omega
 unfold wtY wtP at h2;refine⟨by omega,by omega,by omega,by omega,fun j hj=>?_⟩;have:((Y i).p.S j).size<=tot (fun j=>((Y i).p.S j).size) (Y i).p.m:=JC (g:=fun j=>((Y i).p.S j).size) hj
 omega
theorem jPb {n:Nat} {N:Nat->Nd} {zs:List Int} {m:Nat} {Y:Nat->Sy} (h:wtT n N zs m Y<=1048576):mq3 n N zs m Y<=40000000:=by
 unfold wtT jIs jG8 at h;have h1:=jFq (g:=fun i=>wkN (N i)) (h:=fun i=>wtN (N i)) (c:=2) (fun i=>jO9 (N i)) n;have h2:=jOm (mq2 n N zs) Y m;unfold mq3;unfold mq2 mq1 at h2 |-;omega
theorem jSd {f:Int} {n:Nat} {zs:List Int} {O:Nat->Op9} {T:Ns} (h:NsG f n zs T) {m:Nat} (hO:∀ i,i<m->OpK (O i)):∀ k,k<=m->mkT n zs (rnT f n zs O T k)<=mkT n zs T+k*1048700:=by
 intro k;induction k with
 | zero=>intro _;exact Nat.le_add_right _ _
 | succ j ih=>
  intro hj;have h1:=ih (by omega);have hG:=jKy h hO j (by omega);have h2:mkT n zs (doT f n zs (rnT f n zs O T j) (O j))<=mkT n zs (rnT f n zs O T j)+1048700:=by
   unfold doT;split
   .exact jR6 hG (hO j (by omega))
   .exact Nat.le_add_right _ _
  have e:(j+1)*1048700=j*1048700+1048700:=by omega
  rw[e];exact By h2 (by omega)
theorem jSf {f:Int} {n:Nat} {N:Nat->Nd} {zs:List Int} {m:Nat} {Y:Nat->Sy} {mo:Nat} {O:Nat->Op9} (h:wtT n N zs m Y<=1048576) (hO:∀ i,i<mo->OpK (O i)):NtW n (jGs f n zs mo O ⟨N,m,Y⟩).N zs (jGs f n zs mo O ⟨N,m,Y⟩).m (jGs f n zs mo O ⟨N,m,Y⟩).Y:=by
 obtain⟨hQ,hW⟩:=jBh h;unfold jGs;by_cases h300:mo<=300
 .rw[A6 h300];cases e:ntB f n N zs m with
  | false=>rw[jOx (T:=⟨N,m,Y⟩) e];exact hW
  | true=>
   have hG:NsG f n zs ⟨N,m,Y⟩:=⟨jGf e,fun i hi=>(hQ i hi).k,jG7 h⟩;refine(jKy hG hO mo (Ay _)).w ?_;have h1:=jSd hG hO mo (Ay _);have h2:mkT n zs ⟨N,m,Y⟩<=40000000:=jPb h;have h3:mo*1048700<=300*1048700:=Du _ h300;omega
 .rw[A5 h300];exact hW
section
def jG6 (n:Nat) (O:Nat->Op9):Nat:=n+tot (fun i=>wtO (O i)) n
def ofo (k:Nat) (S:Nat->Op9):Nat->Nat
 | 0=>k
 | i+1=>ofo k S i+12+(S i).y.p.m
theorem jR4 (k:Nat) (S:Nat->Op9) {i j:Nat} (h:i<=j):ofo k S i<=ofo k S j:=by
 induction j with
 | zero=>rw[show i=0 by omega];exact Ay _
 | succ j ih=>
  by_cases e:i=j+1
  .rw[e];exact Ay _
  .have:=ih (by omega)
   show _<=ofo k S j+12+(S j).y.p.m;omega
def opN:Op9:=⟨0,0,syN,Ap⟩
def zcO:List Aj:=[Ao Ar 0,Ao Ar 0,Ao Ar 0,Ao Ar 0,Ao Ar 0,Ag Ap,Ag Ap,Ao Ar 0,Ao Ar 0,Ao Ar 0,Ag Ap,V I 0 0,Ag Ap]
theorem Tryz.infoOpZ:(Tryz.prog.info? 50).map (fun i=>(i.zero,i.size,i.bytes))=M (M (Ai zcO.toArray),13,152):=by kernel_rfl
theorem jR7 (w:Ad) (B q:Nat) (j:q<13):Ow w B (opD opN q) (zcO.getD q O) (fun _=>False):=by
 match q,j with
 | 0,_|1,_|2,_|3,_|4,_|5,_|6,_|7,_|8,_|9,_|10,_|12,_=>rfl
 | 11,_=>exact Ow.nil _ _ _ _ _ _
theorem jS7 {w:Ad} {B:Nat} {d:Op9} {v:Aj} {F:Nat->Prop} (h:Ow w B (txD d.y.p.m d.y.p.S) v F) (q:Nat) (j:q<13):Ow w B (opD d q) ((opC d v).toList.getD q O) (fun x=>q=11/\F x):=by
 match q,j with
 | 0,_|1,_|2,_|3,_|4,_|5,_|6,_|7,_|8,_|9,_|10,_|12,_=>rfl
 | 11,_=>exact Ow.mono h fun g u=>⟨rfl,u⟩
theorem jLo (a:OA) (n cap:Nat) (N:Nat->Op9) (l:Nat) (w:Ad) (h:Rd w (JK n N) (V a n cap)) (hl:l<=1048576) (hn:n<=Au) (hL:∀ i,i<n->jPg (N i)):CB 35 #[V a n cap,(l:Int)] w (szN l (jG6 n N)):=by
 unfold Au at hn;by_cases h1:n<=l
 .obtain⟨d,hd⟩:∃ d,l-n=d:=⟨_,rfl⟩;have hw:IntKind.i64.wrap ((l:Int)-(n:Int))=(d:Int):=by rw[A8];omega
  have h0:¬ ((d:Int)<0):=by omega
  have KL:Hid (∀ i,i<n->jPg (N i)):=hL;have KH:Hid (Rd w (JK n N) (V a n cap)):=h;clear hL h;go_enter func35,ntmps35
  go_wp2
  go_loopw [1,5] (fun p i wr=>∃ c q:Nat,c<=n/\q<=1048576/\Hid (tot (fun i=>wtO (N i)) c+q=d)/\p=Ao Ar (q:Int)/\i=Ao Ar (c:Int)/\Ab w w wr) (fun _ i _=>n-(intOf i).toNat)
  case atStart=>exact⟨0,d,Bi _,by omega,by show 0+d=d;omega,rfl,rfl,Az _ _⟩
  case round=>
   obtain⟨c,q,hc,hq,X,rfl,rfl,j⟩:=hrel;clear hw h0;by_cases hlt:c<n
   .obtain⟨Z,f1,M,O,rfl,R,G⟩:=jMw (KH.below j) hlt;have J:=jEc (fun i=>wtO (N i)) hlt;have a1:(c:Int)<(n:Int):=by omega
    have D:=X.out;obtain⟨K,A⟩:=nnH (wtO (N c));have B:Hid (tot (fun i=>wtO (N i)) (c+1)=tot (fun i=>wtO (N i)) c+K):=by rw[<-A.out];rfl
    have u:tot (fun i=>wtO (N i)) c+K<=tot (fun i=>wtO (N i)) n:=by rw[<-A.out];exact J
    have C:Hid (CB 27 #[Ai (opC (N c) (V M (N c).y.p.m O)),(q:Int)] wr (szN q K)):=by
     rw[<-A.out];exact jNr (N c) M O q wr G (KL c hlt) hq
    have W:Hid (wr.rangeAt Z (f1+c*13) (opC (N c) (V M (N c).y.p.m O)).toList):=R;have KB:Hid (Ab w w wr):=j;clear J R G j;by_cases h2:K<=q
    .obtain⟨q',a0⟩:∃ q',q-K=q':=⟨_,rfl⟩;have h3:¬ ((q':Int)<0):=by omega
     have HT2:Hid (tot (fun i=>wtO (N i)) (c+1)+q'=d):=by show _=_;rw[B.out];omega
     have hq2:q'<=1048576:=by omega
     rw[qE h2,a0] at C;clear X D u B;go_wp2_with (refine Bv rfl 68 _ rfl Z (f1+c*13) rfl (opC (N c) (V M (N c).y.p.m O)).toList _ ?_ underlying68 rfl Tryz.infoOpL ?_;exact W)
     refine CM C.out fun w1 L=>?_
     have KB1:Hid (Ab w w w1):=jA KB L;clear L C W;go_wp2
     go_roundw
     case rel=>exact⟨c+1,q',by omega,hq2,HT2,rfl,by go_num,KB1.out⟩
     case measure=>simp[intOf] <;> omega
    .have H:Hid (szN l (jG6 n N) = -1):=qD (by unfold jG6;omega);rw[qD h2] at C;clear X D u B;go_wp2_with (refine Bv rfl 68 _ rfl Z (f1+c*13) rfl (opC (N c) (V M (N c).y.p.m O)).toList _ ?_ underlying68 rfl Tryz.infoOpL ?_;exact W)
     refine CM C.out fun w1 L=>?_
     have KB1:Hid (Ab w w w1):=jA KB L;clear L C W;go_wp2
     go_ret
     exact⟨jS H.symm,KB1⟩
   .obtain rfl:c=n:=by omega
    have H:Hid (szN l (jG6 c N)=(q:Int)):=by
     have:=X.out
     have e:l-(c+tot (fun i=>wtO (N i)) c)=q:=by omega
     exact(qE (by unfold jG6;omega)).trans (by unfold jG6;rw[e])
    clear KH;go_wp2
    go_ret
    exact⟨jS H.symm,j⟩
 .have h0:(l:Int)-(n:Int)<0:=by omega
  have hw:IntKind.i64.wrap ((l:Int)-(n:Int))=(l:Int)-(n:Int):=by rw[A8];omega
  have H:Hid (szN l (jG6 n N) = -1):=qD (by unfold jG6;omega);clear h hL;go_enter func35,ntmps35
  go_wp2
  go_ret
  exact⟨jS H.symm,Az _ _⟩
theorem jLv (a:OA) (n cap:Nat) (N:Nat->Op9) (w:Ad) (h:Rd w (JK n N) (V a n cap)) (hn:n<=1048576) (hs:∀ i,i<n->(N i).y.p.m<=1048576):Ak prog 37 #[V a n cap] w fun e w'=>e=Ae (V (Q w 0 I) n n)/\Ow w' w (JK n N) (V (Q w 0 I) n n) (rng w w'.1.size)/\Ab w w w':=by
 obtain⟨i0,hi,X,a1,a3⟩:=Cg Tryz.infoOpZ;have KH:Hid (Rd w (JK n N) (V a n cap)):=h;have HS:Hid (∀ i,i<n->(N i).y.p.m<=1048576):=hs;clear h hs;go_enter func37,ntmps37
 go_wp2_with (at_make;refine Cv _ rfl _ _ 80 rfl w 50 i0 (Ai zcO.toArray) 13 underlying80 hi X a1 Ar Ar _ _ n rfl rfl rfl rfl (by rw[a3];omega) (by unfold Au;omega) (Ay _) ?_;intro H u B)
 have hb1:Ab w w H:=(Az _ _).grown B (Ay _) (by simp);obtain⟨g,G⟩:=nmH w.1.size;have ho1:Ow H w (.lst 50 13 n (fun i=>if i<0 then opD (N i) else opD opN)) (V g n n) (rng w H.1.size):=by
  have e:(madeCells (Ai zcO.toArray).cells (n*13)).toList=cL 13 (fun _ q=>zcO.getD q undef) n:=xH (zs:=zcO) (by simp[zcO]);rw[e] at u;rw[G.out];have:=JZ (F:=rng w H.1.size) u (fun q Z=>jR7 H w q Z) ⟨Ay _,(A0 u _ rfl).2⟩
  exact this.congr (fun i q _ _=>by simp)
 have gB:g=w.1.size:=G.out;rw[<-G.out];have HB:Hid (w.1.size<=g):=by show _<=_;omega
 clear u B gB;go_loopw [4] (fun i wr=>∃ k:Nat,k<=n/\i=Ao Ar k/\Ow wr w (.lst 50 13 n (fun i=>if i<k then opD (N i) else opD opN)) (V g n n) (rng w wr.1.size)/\Ab w w wr) (fun i _=>n-(intOf i).toNat)
 case atStart=>exact⟨0,Bi _,rfl,ho1,hb1⟩
 case round=>
  obtain⟨c,hc,rfl,u,A⟩:=hrel;clear ho1 hb1;by_cases hlt:c<n
  .have a4:(c:Int)<(n:Int):=by omega
   obtain⟨b1,f1,an,cn,rfl,K,J⟩:=jMw (KH.below A) hlt;have KT:Hid _:=jNy (N c) an cn wr J (HS c hlt);have R1:Hid (wr.rangeAt b1 (f1+c*13) (opC (N c) (V an (N c).y.p.m cn)).toList):=K;have L:Hid (Ow wr w (.lst 50 13 n (fun i=>if i<c then opD (N i) else opD opN)) (V g n n) (rng w wr.1.size)/\Ab w w wr):=⟨u,A⟩;have lg:g<wr.1.size:=by
    obtain⟨a',b0,c',G',W,C,_⟩:=u;cases W;exact(A0 C g rfl).2
   clear K J A u;go_wp2_with (refine Bv rfl 68 _ rfl b1 (f1+c*13) rfl (opC (N c) (V an (N c).y.p.m cn)).toList _ ?_ underlying68 rfl Tryz.infoOpL ?_;exact R1)
   refine Ax KT.out ?_;rintro e R ⟨O,rfl,o2,a5,a6,M⟩;have O2:=L.1.below M;have TH:Hid (R.there g (c*13) 13):=by
    obtain⟨a',b0,c',G',W,C,_⟩:=O2;cases W;intro j hj;refine⟨?_,B0 C _⟩;rw[Br C _ (qM hlt hj),jU _ _ _ _ _ hlt hj];rfl
   have a0:=L.2.size;have HO:Hid (Ow (R.setCells g (c*13) (opC (N c) (V O (N c).y.p.m (N c).y.p.m)).toList) w (.lst 50 13 n (fun i=>if i<c+1 then opD (N i) else opD opN)) (V g n n) (rng w (R.setCells g (c*13) (opC (N c) (V O (N c).y.p.m (N c).y.p.m)).toList).1.size)):=by
    rw[jQ];refine Ow.congr (Ow.store (d:=opD (N c)) O2 hlt rfl (fun q Z=>jS7 (o2.base a0) q Z) ?_ ?_ ?_ ?_) ?_
    .intro q x _ D hf;have h2:=hf.2;have h3:=D.2;omega
    .intro q q' x _ _ D a2;exact D.1.trans a2.1.symm
    .intro x D;have:=M.size
     exact⟨D.1,by have:=D.2;omega⟩
    .intro q x _ D;have h3:=D.2;exact⟨by omega,by omega⟩
    .intro i q _ _;by_cases e:i=c
     .subst e;simp
     .by_cases e2:i<c
      .simp[e,e2,show i<c+1 by omega]
      .simp[e,e2,show ¬ i<c+1 by omega]
   have HBe:Hid (Ab w w (R.setCells g (c*13) (opC (N c) (V O (N c).y.p.m (N c).y.p.m)).toList)):=jR (jA L.2 M) HB _ _;clear O2 M o2 KT R1 L;go_wp2_with (refine C7 rfl 50 _ _ rfl g (c*13) (opC (N c) (V O (N c).y.p.m (N c).y.p.m)) rfl rfl ?_ Tryz.infoOp (by simp[Aq]) ?_;exact TH)
   go_roundw
   case rel=>exact⟨c+1,by omega,by go_num,HO.out,HBe.out⟩
   case measure=>simp[intOf];omega
  .obtain rfl:c=n:=by omega
   have HO:Hid (Ow wr w (JK c N) (V g c c) (rng w wr.1.size)):=u.congr (fun i q hi _=>by simp[hi]);clear u;go_wp2
   go_ret
   exact⟨by rw[<-G.out];rfl,by rw[<-G.out];rw[G.out];have:=HO.out;rw[G.out] at this;exact this,A⟩
theorem jHh (a b:OA) (n Z X:Nat) (S:Nat->Op9) (w:Ad) (ha:Rd w (JK n S) (V a n Z)) (hb:Rd w (JK n S) (V b n X)) (hn:n<=1048576) (hs:∀ i,i<n->(S i).y.p.m<=1048576):CB 39 #[V a n Z,V b n X] w Aw:=by
 have KH:Hid (Rd w (JK n S) (V a n Z)/\Rd w (JK n S) (V b n X)):=⟨ha,hb⟩;have HS:Hid (∀ i,i<n->(S i).y.p.m<=1048576):=hs;have a1:((n:Int) !=(n:Int))=Av:=by simp
 clear ha hb hs;go_enter func39,ntmps39
 go_wp2
 go_loopw [5] (fun vi wr=>∃ c:Nat,c<=n/\vi=Ao Ar (c:Int)/\Ab w w wr) (fun vi _=>n-(intOf vi).toNat)
 case atStart=>exact⟨0,Bi _,rfl,Az _ _⟩
 case round=>
  obtain⟨c,a2,rfl,j⟩:=hrel;by_cases hlt:c<n
  .have a0:(c:Int)<(n:Int):=by omega
   obtain⟨L,R,D,p9,q9,rfl,A,e1,C⟩:=jKf (KH.1.below j) hlt;obtain⟨O,M,u,s9,t9,rfl,B,e2,J⟩:=jKf (KH.2.below j) hlt;have G:=HS c hlt;have KT:Hid (∀ W,Ab wr.1.size wr W->CB 31 #[jFy D,jFy u] W Aw):=fun W K=>by
    rw[e1,e2];exact jJb (S c) p9 s9 q9 t9 W (C.below K) (J.below K) G
   have KS:Hid (∀ W,Ab wr.1.size wr W->W.cell? (Q L (R+c*13) I)=some (D 0)/\(∀ q,q<13->W.cell? (Q L (R+c*13+q) I)=some (D q))/\W.cell? (Q O (M+c*13) I)=some (u 0)/\(∀ q,q<13->W.cell? (Q O (M+c*13+q) I)=some (u q))):=fun W K=>jCh W K A B
   have KB:=hd j;have hdr:=jD wr;clear A B C J j e1 e2 G;go_wp2_with fail
   go_region_held3 (fun w'=>w'.cell? (Q L (R+c*13) I)=some (D 0)/\(∀ q,q<13->w'.cell? (Q L (R+c*13+q) I)=some (D q))/\w'.cell? (Q O (M+c*13) I)=some (u 0)/\(∀ q,q<13->w'.cell? (Q O (M+c*13+q) I)=some (u q))) (exact KS _ (by assumption)) ((go_at_call 31;refine Ax (KT _ hdr) ?_;rintro e w7 ⟨rfl,H⟩;have b7:=jC H;clear H))
   all_goals
    have HB7:=hd (jA KB b7);clear b7;go_wp2
    go_roundw
    case rel=>exact⟨c+1,by omega,by go_num,HB7.out⟩
    case measure=>simp[intOf];omega
  .go_wp2
   go_ret
   exact⟨rfl,j⟩
theorem jEz (B g n cap:Nat) (F:Nat->Prop) (S:Nat->Op9) (k:Nat) (w:Ad) (h:Ow w B (JK n S) (V g n cap) F) (_hn:n<=1048576) (hm:∀ i,i<n->(S i).y.p.m<=1048576) (hk:ofo k S n<=400000000):Ak prog 40 #[V g n cap,(k:Int)] w fun e w'=>e=Ae (Ao Ar ((ofo k S n:Nat):Int))/\Trn w w' F:=by
 obtain⟨G,a6,k7⟩:=Ow.mk h;have H:=hd a6;have L:=hd (a6.head _ rfl);have K0:=hd k7;have HM:Hid (∀ i,i<n->(S i).y.p.m<=1048576):=hm;go_enter func40,ntmps40
 go_wp2
 go_loopw [1,5] (fun vk vi wr=>∃ c:Nat,c<=n/\vk=Ao Ar ((ofo k S c:Nat):Int)/\vi=Ao Ar (c:Int)/\(∃ ff,MkS wr B 50 13 g n cap G ff/\∀ i,c<=i->∀ q,ff i q=opD (S i) q)/\Trn w wr F) (fun _ vi _=>n-(intOf vi).toNat)
 case atStart=>exact⟨0,Bi _,rfl,rfl,⟨_,K0,fun _ _ _=>rfl⟩,Trn.refl _ _⟩
 case round=>
  obtain⟨c,n1,rfl,rfl,⟨ff,k4,j2⟩,j7⟩:=hrel;have KO:=hd k4;have KT:=hd j7;have KF:Hid (∀ i,c<=i->∀ q,ff i q=opD (S i) q):=j2;by_cases hlt:c<n
  .have l7:(c:Int)<(n:Int):=by omega
   obtain⟨j,e0⟩:=nnH (ofo k S c);have ho:j+12+(S c).y.p.m<=400000000:=by rw[<-e0.out];exact By (jR4 k S (show c+1<=n by omega)) hk
   have i1:Hid (ofo k S (c+1)=j+12+(S c).y.p.m):=by show ofo k S c+12+(S c).y.p.m=_;rw[e0.out]
   have j1:=HM c hlt;rw[e0.out];obtain⟨o1,g2⟩:=nmH (j+1);obtain⟨o2,c4⟩:=nmH (j+2);obtain⟨o3,HO3⟩:=nmH (j+3);obtain⟨o4,g1⟩:=nmH (j+4);obtain⟨o5,b7⟩:=nmH (j+5);obtain⟨o6,g0⟩:=nmH (j+6);obtain⟨o7,c0⟩:=nmH (j+7);obtain⟨o8,b9⟩:=nmH (j+8);obtain⟨o9,b8⟩:=nmH (j+9);obtain⟨K,X⟩:=nmH (j+10);obtain⟨a0,A⟩:=nmH (j+11);have e1:(j:Int)+1=(o1:Int):=by have:=g2.out;omega
   have e2:(o1:Int)+1=(o2:Int):=by have:=c4.out;have:=g2.out;omega
   have e3:(o2:Int)+1=(o3:Int):=by have:=HO3.out;have:=c4.out;omega
   have e4:(o3:Int)+1=(o4:Int):=by have:=g1.out;have:=HO3.out;omega
   have e5:(o4:Int)+1=(o5:Int):=by have:=b7.out;have:=g1.out;omega
   have e6:(o5:Int)+1=(o6:Int):=by have:=g0.out;have:=b7.out;omega
   have e7:(o6:Int)+1=(o7:Int):=by have:=c0.out;have:=g0.out;omega
   have e8:(o7:Int)+1=(o8:Int):=by have:=b9.out;have:=c0.out;omega
   have e9:(o8:Int)+1=(o9:Int):=by have:=b8.out;have:=b9.out;omega
   have n4:(o9:Int)+1=(K:Int):=by have:=X.out;have:=b8.out;omega
   have n6:(K:Int)+1=(a0:Int):=by have:=A.out;have:=X.out;omega
   obtain⟨m,h4⟩:=nnH ((S c).y.p.m);rw[h4.out] at ho j1 i1;obtain⟨C,HQ⟩:=nnH (a0+m);obtain⟨a7,b0⟩:=nmH (C+1);have l4:(C:Int)+1=(a7:Int):=by have:=b0.out;omega
   have u0:j<=400000000:=by omega
   have u1:o1<=400000000:=by have:=g2.out;omega
   have u2:o2<=400000000:=by have:=c4.out;omega
   have u3:o3<=400000000:=by have:=HO3.out;omega
   have u4:o4<=400000000:=by have:=g1.out;omega
   have u5:o5<=400000000:=by have:=b7.out;omega
   have u6:o6<=400000000:=by have:=g0.out;omega
   have u7:o7<=400000000:=by have:=c0.out;omega
   have u8:o8<=400000000:=by have:=b9.out;omega
   have u9:o9<=400000000:=by have:=b8.out;omega
   have l6:K<=400000000:=by have:=X.out;omega
   have n2:a0<=400000000:=by have:=A.out;omega
   have m8:C<=400000000:=by have:=HQ.out;have:=A.out;omega
   have m6:a7<=400000000:=by have:=b0.out;have:=HQ.out;have:=A.out;omega
   obtain⟨s5,j9⟩:=nnH (vT o5);have j8:Hid (∀ W,CB 98 #[(o5:Int)] W s5):=fun W=>by rw[<-j9.out];exact jM o5 W (by omega)
   obtain⟨s6,j5⟩:=nnH (vT o6);have k0:Hid (∀ W,CB 98 #[(o6:Int)] W s6):=fun W=>by rw[<-j5.out];exact jM o6 W (by omega)
   obtain⟨c1,h0⟩:=nnH (vT K);have i0:Hid (∀ W,CB 98 #[(K:Int)] W c1):=fun W=>by rw[<-h0.out];exact jM K W (by omega)
   obtain⟨g4,i9⟩:=nnH (vT C);have i7:Hid (∀ W,CB 98 #[(C:Int)] W g4):=fun W=>by rw[<-i9.out];exact jM C W (by omega)
   obtain⟨l8,x0,f0,_⟩:=MkS.cell KO hlt (show 0<13 by omega);obtain⟨m4,x1,f1,_⟩:=MkS.cell KO hlt (show 1<13 by omega);obtain⟨l5,x2,f2,_⟩:=MkS.cell KO hlt (show 2<13 by omega);obtain⟨l9,x3,f3,_⟩:=MkS.cell KO hlt (show 3<13 by omega);obtain⟨m5,x4,f4,_⟩:=MkS.cell KO hlt (show 4<13 by omega);simp only[Cp] at x0 f0;obtain⟨W1,d0⟩:=nmH ((((((wr.setCell (Q g (c*13) I) (j:Int)).setCell (Q g (c*13+1) I) (o1:Int)).setCell (Q g (c*13+2) I) (o2:Int)).setCell (Q g (c*13+3) I) (o3:Int)).setCell (Q g (c*13+4) I) (o4:Int)));have J:=KO.out;have J:=MkS.set J H hlt (show 0<13 by omega) (j:Int);rw[Cp] at J;have J:=MkS.set J H hlt (show 1<13 by omega) (o1:Int);have J:=MkS.set J H hlt (show 2<13 by omega) (o2:Int);have J:=MkS.set J H hlt (show 3<13 by omega) (o3:Int);have J:=MkS.set J H hlt (show 4<13 by omega) (o4:Int);rw[<-d0.out] at J;have i4:=hd J;have i2:Hid (Trn w W1 F):=by show Trn _ _ _;rw[d0.out];exact(((((KT.trans (Trn.set _ (c*13) _ L)).trans (Trn.set _ (c*13+1) _ L)).trans (Trn.set _ (c*13+2) _ L)).trans (Trn.set _ (c*13+3) _ L)).trans (Trn.set _ (c*13+4) _ L))
   go_wp2_with fail
   rw[<-d0.out];refine CM (j8 _) fun w1 b1=>?_
   have a4:=hd (MkS.below i4 b1);have i8:=hd (i2.trans (Trn.ofBelow F b1));obtain⟨m2,x5,f5,_⟩:=MkS.cell a4 hlt (show 5<13 by omega);obtain⟨W2,b4⟩:=nmH ((w1.setCell (Q g (c*13+5) I) s5));have M2:=a4.out;have M2:=MkS.set M2 H hlt (show 5<13 by omega) s5;rw[<-b4.out] at M2;have h8:=hd M2;have h5:Hid (Trn w W2 F):=by show Trn _ _ _;rw[b4.out];exact(i8.trans (Trn.set _ (c*13+5) _ L))
   go_wp2_with fail
   rw[<-b4.out];refine CM (k0 _) fun w2 b2=>?_
   have u:=hd (MkS.below h8 b2);have i5:=hd (h5.trans (Trn.ofBelow F b2));obtain⟨m0,x6,f6,_⟩:=MkS.cell u hlt (show 6<13 by omega);obtain⟨n0,x7,f7,_⟩:=MkS.cell u hlt (show 7<13 by omega);obtain⟨m1,x8,f8,_⟩:=MkS.cell u hlt (show 8<13 by omega);obtain⟨m7,x9,f9,_⟩:=MkS.cell u hlt (show 9<13 by omega);obtain⟨W3,c7⟩:=nmH (((((w2.setCell (Q g (c*13+6) I) s6).setCell (Q g (c*13+7) I) (o7:Int)).setCell (Q g (c*13+8) I) (o8:Int)).setCell (Q g (c*13+9) I) (o9:Int)));have Z:=u.out;have Z:=MkS.set Z H hlt (show 6<13 by omega) s6;have Z:=MkS.set Z H hlt (show 7<13 by omega) (o7:Int);have Z:=MkS.set Z H hlt (show 8<13 by omega) (o8:Int);have Z:=MkS.set Z H hlt (show 9<13 by omega) (o9:Int);rw[<-c7.out] at Z;have g6:=hd Z;have h7:Hid (Trn w W3 F):=by show Trn _ _ _;rw[c7.out];exact((((i5.trans (Trn.set _ (c*13+6) _ L)).trans (Trn.set _ (c*13+7) _ L)).trans (Trn.set _ (c*13+8) _ L)).trans (Trn.set _ (c*13+9) _ L))
   go_wp2_with fail
   rw[<-c7.out];refine CM (i0 _) fun w3 b3=>?_
   have O:=hd (MkS.below g6 b3);have i3:=hd (h7.trans (Trn.ofBelow F b3));obtain⟨j4,k3,_,l3⟩:=MkS.cell O hlt (show 11<13 by omega);obtain⟨k8,n5,n3,_⟩:=MkS.cell O hlt (show 10<13 by omega);obtain⟨W4,a1⟩:=nmH ((w3.setCell (Q g (c*13+10) I) c1));have M4:=O.out;have M4:=MkS.set M4 H hlt (show 10<13 by omega) c1;rw[<-a1.out] at M4;have a3:=hd M4;have h9:Hid (Trn w W4 F):=by show Trn _ _ _;rw[a1.out];exact(i3.trans (Trn.set _ (c*13+10) _ L))
   obtain⟨D,a5,_,b5⟩:=MkS.cell a3 hlt (show 11<13 by omega);have ev:D=j4:=by
    have h1:=a5;rw[a1.out,C9 _ _ _ _ (by simp)] at h1;exact Ee (h1.symm.trans k3)
   subst ev;have j0:Hid (Ow W4 B (txD m (S c).y.p.S) D (G c 11)):=by
    have:=b5
    have hf:=KF c (Ay _) 11;show Ow _ _ _ _ _;rw[<-h4.out];simpa [hf,opD,syD] using this
   have k6:Hid _:=QP B D m (S c).y.p.S a0 C (G c 11) W4 j0 (by omega) (by omega) HQ.out;have X9:=hd a5;obtain⟨a9,c9,k2⟩:∃ a9 c9,D=V a9 m c9:=by
    obtain⟨a,cp,e,_⟩:=jEf j0;exact⟨a,cp,e⟩
   subst k2;go_wp2_with fail
   rw[<-a1.out];refine Ax k6.out ?_;rintro e w9 ⟨rfl,k5,i6⟩;have h6:=hd (MkS.turn a3 H hlt (show 11<13 by omega) X9.out k5 i6);have j3:=hd (h9.trans (i6.mono (fun x hx=>H.sub c 11 x hlt (by omega) hx)));go_wp2_with fail
   refine CM (i7 _) fun j6 g5=>?_
   have R:=hd (MkS.below h6 g5);have b6:=hd (j3.trans (Trn.ofBelow F g5));obtain⟨k9,m3,m9,_⟩:=MkS.cell R hlt (show 12<13 by omega);obtain⟨g8,M⟩:=nmH ((j6.setCell (Q g (c*13+12) I) g4));have a2:=R.out;have a2:=MkS.set a2 H hlt (show 12<13 by omega) g4;rw[<-M.out] at a2;have a8:=hd a2;have g3:Hid (Trn w g8 F):=by show Trn _ _ _;rw[M.out];exact(b6.trans (Trn.set _ (c*13+12) _ L))
   have HN:Hid (∃ ff,MkS g8 B 50 13 g n cap G ff/\∀ i,c+1<=i->∀ q,ff i q=opD (S i) q):=⟨_,a8,fun i hi q=>by
    have hf:=KF i (by omega) q;simp[show ¬ i=c by omega,hf]⟩
   have HQQ:Hid ((a7:Int)=((ofo k S (c+1):Nat):Int)):=by show _=_;rw[i1.out];have h1:=b0.out;have h2:=HQ.out;have h3:=A.out;omega
   have KT12:=hd g3.out;go_wp2
   rw[<-M.out];go_roundw
   case rel=>exact⟨c+1,by omega,by rw[<-HQQ.out],by go_num,HN.out,KT12⟩
   case measure=>simp[intOf];omega
  .obtain rfl:c=n:=by omega
   go_wp2
   go_ret
   exact⟨rfl,KT⟩
theorem jJz (B:Nat) (v:Aj) (n:Nat) (S:Nat->Op9) (k:Nat) (F:Nat->Prop) (w:Ad) (h:Ow w B (JK n S) v F) (hn:n<=1048576) (hm:∀ i,i<n->(S i).y.p.m<=1048576) (j:ofo k S n<=400000000):Ak prog 40 #[v,(k:Int)] w fun e w'=>e=Ae (Ao Ar ((ofo k S n:Nat):Int))/\Trn w w' F:=by
 rcases ZI h with ⟨rfl,rfl⟩|⟨g,cap,rfl⟩
 .go_enter func40,ntmps40
  go_wp2
  go_loopw [1,5] (fun vk vi wr=>vk=Ao Ar (k:Int)/\vi=Ao Ar 0/\wr=w) (fun _ _ _=>0)
  case atStart=>exact⟨rfl,rfl,rfl⟩
  case round=>
   obtain⟨rfl,rfl,rfl⟩:=hrel;go_wp2
   go_ret
   exact⟨rfl,Trn.refl _ _⟩
 .exact jEz B g n cap F S k w h hn hm j
structure jSt (w:Ad) (a:OA) (n c:Nat) (O:Nat->Op9):Prop where
 r:Rd w (JK n O) (V a n c)
 h:n<=Au
 b:∀ i,i<n->jPg (O i)
section
variable {H:Type} {enc:TypeId×Value->H} {w:World} {base:Nat} {spare:Nat->Bool} {held:Bool}
theorem jE2 {a0:Nat} {cs:List Aj} {x:DataW H×List MemPlace} (h:DataW.trod enc prog w base spare held a0 68 cs=M x):∃ o:Op9,cs.length=13/\(∀ q,q<13->Rd w (opD o q) (cs.getD q O))/\jPg o:=by
 obtain⟨o,a,c,rfl,h1,h2⟩:=jH0 h;refine⟨o,rfl,fun q j=>?_,h2⟩;match q,j with
 | 0,_|1,_|2,_|3,_|4,_|5,_|6,_|7,_|8,_|9,_|10,_|12,_=>rfl
 | 11,_=>exact XX.2 h1
theorem jE3 {a0:Nat} {a:OA} {n c:Nat} {x:DataW H×List MemPlace} (h:DataW.trod enc prog w base spare held a0 77 [V a n c]=M x):∃ O:Nat->Op9,jSt w a n c O:=by
 obtain⟨O,h1,h2,j⟩:=QU opN 50 opD jPg underlying77 (by kernel_rfl) (by omega) jE2 h;exact⟨O,⟨h1,h2,j⟩⟩
end
end
end Go.Proofs.YtcaejlalnjnifaaGreat
