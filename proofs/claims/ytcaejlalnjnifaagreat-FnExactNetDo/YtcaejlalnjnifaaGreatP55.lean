import Derived.Test.YtcaejlalnjnifaaGreatP54
set_option maxHeartbeats 8000000
set_option maxRecDepth 2000
open Go.Value renaming slice->V,pointer->Af,tuple->Ah,agg->Ai,oneCell'->Aq
open Option renaming none->I,some->M
open Go.RowKit renaming Hid->H,Below->Ab
open Go.Addr renaming mk->Q
open Go renaming undef->O,World->Ad,Value->Aj,Calls->Ak
open Go.Obj renaming cells->J
open Go.Ending renaming returned->Ae
open Bool renaming false->Av,true->Aw
open Go.Proofs.Tryz
open Go.ChangeShapes Go.WideShapes Go.ChangeAt Go.RowKit
namespace Go.Proofs.YtcaejlalnjnifaaGreat
theorem jKv (f:Int) (a:OA) (n c:Nat) (l:OA) (zs:List Int) (d:Nat) (e:OA) (m g:Nat) (N:Nat->Nd) (Y:Nat->Sy) (o:Op9) (v9:Aj) (w:Ad) (h1:Rd w (qS n N) (V a n c)) (h2:jH w l zs.length zs) (h3:Rd w (qJ m Y) (V e m g)) (hn:n<=1048576) (hz:zs.length<=1048576) (hm:m<=1048576) (hN:∀ i,i<n->(N i).n<=1048576/\∀ j,j<(N i).n->SlK ((N i).S j)) (hY:∀ i,i<m->SyK (Y i)) (hb:ntB f n N zs m=Av):Ak prog 19 #[ntV f (V a n c) (V l zs.length d) (V e m g),opV o v9] w fun r w'=>∃ g1 c1 g2 c2 g3 c3,r=Ae (Ah #[ntV f (V (Q g1 0 I) n c1) (V (Q g2 0 I) zs.length c2) (V (Q g3 0 I) ((⟨N,m,Y⟩:Ns)).m c3),Av])/\NtE w' w n ((⟨N,m,Y⟩:Ns)).N zs ((⟨N,m,Y⟩:Ns)).m ((⟨N,m,Y⟩:Ns)).Y g1 c1 (V (Q g2 0 I) zs.length c2) g3 c3 (fun b=>b<w.1.size)/\Ab w w w':=by
 obtain⟨A,HA⟩:=nmH w.1.size;obtain⟨C,HC⟩:=nmH (w.1.size+1);obtain⟨D,HD⟩:=nmH (w.1.size+1+1);obtain⟨w0,a0⟩:=nmH (((w.alloc (J #[f,V a n c,V l zs.length d,V e m g] 48)).alloc (J (opC o v9) 50)).alloc (J #[(),V I 0 0,V I 0 0,V I 0 0] 48));have RA:=zD a0 HA;have RC:=xL a0 HC;have RD:=xR a0 HD;have b0:=bl3 a0;have f0:=hd b0;have HL:H (w.1.size<=A/\A<C/\C<D/\D<w0):=⟨by have:=HA.out;omega,by have h1:=HA.out;have h2:=HC.out;omega,by have h1:=HC.out;have h2:=HD.out;omega,RD.out.lt⟩;have KN:H _:=jA6 f a n c l zs d e m g N w0 (h1.below b0) (h2.below b0) hn hz (fun i hi=>⟨(hN i hi).1,fun j hj=>((hN i hi).2 j hj).ok⟩);have KC:H (∀ W,Ab w0 w0 W->Ak prog 69 #[Ai #[f,V a n c,V l zs.length d,V e m g]] W fun r w'=>∃ g1 c1 g2 c2 g3 c3,r=Ae (ntV f (V (Q g1 0 I) n c1) (V (Q g2 0 I) zs.length c2) (V (Q g3 0 I) m c3))/\NtE w' W.1.size n N zs m Y g1 c1 (V (Q g2 0 I) zs.length c2) g3 c3 (fun b=>b<W.1.size)/\Ab W.1.size W w'):=fun W hW=>by
  refine(jA4 f a n c l zs d e m g N Y W ((h1.below b0).below hW) ((h2.below b0).below hW) ((h3.below b0).below hW) hn hz hm (fun i hi=>⟨(hN i hi).1,fun j hj=>((hN i hi).2 j hj).s⟩) (fun i hi=>(hY i hi).m)).mono ?_;rintro r w' ⟨g1,c1,g2,c2,g3,c3,F1,F2,F3,rfl,o,hl,b⟩;exact⟨g1,c1,g2,c2,g3,c3,rfl,NtE.of o (fun x hx k=>by have:=(hl x hx).1;omega),b⟩
 rw[hb] at KN;obtain⟨zl,i0⟩:=nnH zs.length;rw[i0.out] at KC KN RA a0 |-;go_enter func19,ntmps19
 go_upto_region 1 with fail
 rw[<-a0.out,<-HD.out,<-HC.out,<-HA.out];go_wp2_with (refine Bg rfl 48 _ rfl A rfl 48 #[f,V a n c,V l zl d,V e m g] (0,0) _ ?_ Bu rfl Tryz.infoNt ?_;exact RA)
 refine Ax KN.out ?_;rintro r w1 ⟨rfl,b1⟩;have j0:=hd (RA.below b1 RA.lt);have g0:=hd (RD.below b1 RD.lt);have e0:=hd b1;go_wp2_with (refine Bg rfl 48 _ rfl A rfl 48 #[f,V a n c,V l zl d,V e m g] (0,0) _ ?_ Bu rfl Tryz.infoNt ?_;exact j0)
 refine Ax (KC w1 e0) ?_;rintro r w2 ⟨g1,c1,g2,c2,g3,c3,rfl,e2,b2⟩;have h0:=hd (g0.below b2 g0.lt);obtain⟨w8,c0⟩:=nmH (w2.setRow D #[f,V (Q g1 0 I) n c1,V (Q g2 0 I) zl c2,V (Q g3 0 I) m c3]);have d0:=rr c0 h0;have KF:H (NtE w8 w n N zs m Y g1 c1 (V (Q g2 0 I) zl c2) g3 c3 (fun b=>b<w.1.size)/\Ab w w w8):=by
  have hl:=HL.out;have s0:=f0.size;have s1:=(e0).size;have k0:=e2.lt;have t8:∀ x,x≠D->w8.1[x]?=w2.1[x]?:=fun x hx=>by rw[c0.out];exact Cj _ _ _ _ hx
  refine⟨((e2.turn (by rw[c0.out];simp) (fun b hb hn=>t8 b (fun q=>?_))).base (by omega)).less (fun b k=>by show b<w1.1.size;omega),by rw[c0.out];exact jG (jA f0.out (jA (e0) b2)) (by omega) _⟩;rcases hn with hn|hn|hn
  .exact hn (by show b<w1.1.size;omega)
  .omega
  .omega
 go_wp2_with (refine Ca rfl 48 _ _ rfl D #[f,V (M ⟨g1,0,I⟩) n c1,V (M ⟨g2,0,I⟩) zl c2,V (M ⟨g3,0,I⟩) m c3] rfl rfl 48 #[(),V I 0 0,V I 0 0,V I 0 0] ?_ Tryz.infoNt rfl (by simp[Aq]) ?_;exact h0;rw[<-c0.out])
 have p0:=d0.cell 0;have p1:=d0.cell 1;have p2:=d0.cell 2;have p3:=d0.cell 3;simp at p0 p1 p2 p3;exact B7 (v:=Ah #[Ai #[f,V (Q g1 0 I) n c1,V (Q g2 0 I) zl c2,V (Q g3 0 I) m c3],Av]) (by simp[results,Tryz.results19,go_sem,p0,p1,p2,p3]) rfl ⟨_,_,_,_,_,_,rfl,KF⟩
theorem jHy (f:Int) (a:OA) (n c:Nat) (l:OA) (zs:List Int) (d:Nat) (e:OA) (m g:Nat) (N:Nat->Nd) (Y:Nat->Sy) (o:Op9) (a9:OA) (c9:Nat) (w:Ad) (h1:Rd w (qS n N) (V a n c)) (h2:jH w l zs.length zs) (h3:Rd w (qJ m Y) (V e m g)) (hn:n<=1048576) (hz:zs.length<=1048576) (hm:m<=1048576) (hN:∀ i,i<n->(N i).n<=1048576/\∀ j,j<(N i).n->SlK ((N i).S j)) (hY:∀ i,i<m->SyK (Y i)) (h9:jK w a9 o.y.p.m o.y.p.S) (hO:OpK o) (hb:ntB f n N zs m=Aw):Ak prog 19 #[ntV f (V a n c) (V l zs.length d) (V e m g),opV o (V a9 o.y.p.m c9)] w fun r w'=>∃ g1 c1 g2 c2 g3 c3,r=Ae (Ah #[ntV f (V (Q g1 0 I) n c1) (V (Q g2 0 I) zs.length c2) (V (Q g3 0 I) (opT f n zs ⟨N,m,Y⟩ o).m c3),(opB f n zs ⟨N,m,Y⟩ o)])/\NtE w' w n (opT f n zs ⟨N,m,Y⟩ o).N zs (opT f n zs ⟨N,m,Y⟩ o).m (opT f n zs ⟨N,m,Y⟩ o).Y g1 c1 (V (Q g2 0 I) zs.length c2) g3 c3 (fun b=>b<w.1.size)/\Ab w w w':=by
 obtain⟨A,HA⟩:=nmH w.1.size;obtain⟨C,HC⟩:=nmH (w.1.size+1);obtain⟨D,HD⟩:=nmH (w.1.size+1+1);obtain⟨w0,m0⟩:=nmH (((w.alloc (J #[f,V a n c,V l zs.length d,V e m g] 48)).alloc (J (opC o (V a9 o.y.p.m c9)) 50)).alloc (J #[(),V I 0 0,V I 0 0,V I 0 0] 48));have RA:=zD m0 HA;have RC:=xL m0 HC;have RD:=xR m0 HD;have i0:=bl3 m0;have n0:=hd i0;have HL:H (w.1.size<=A/\A<C/\C<D/\D<w0):=⟨by have:=HA.out;omega,by have h1:=HA.out;have h2:=HC.out;omega,by have h1:=HC.out;have h2:=HD.out;omega,RD.out.lt⟩;have KN:H _:=jA6 f a n c l zs d e m g N w0 (h1.below i0) (h2.below i0) hn hz (fun i hi=>⟨(hN i hi).1,fun j hj=>((hN i hi).2 j hj).ok⟩);have KC:H (∀ W,Ab w0 w0 W->Ak prog 69 #[Ai #[f,V a n c,V l zs.length d,V e m g]] W fun r w'=>∃ g1 c1 g2 c2 g3 c3,r=Ae (ntV f (V (Q g1 0 I) n c1) (V (Q g2 0 I) zs.length c2) (V (Q g3 0 I) m c3))/\NtE w' W.1.size n N zs m Y g1 c1 (V (Q g2 0 I) zs.length c2) g3 c3 (fun b=>b<W.1.size)/\Ab W.1.size W w'):=fun W hW=>by
  refine(jA4 f a n c l zs d e m g N Y W ((h1.below i0).below hW) ((h2.below i0).below hW) ((h3.below i0).below hW) hn hz hm (fun i hi=>⟨(hN i hi).1,fun j hj=>((hN i hi).2 j hj).s⟩) (fun i hi=>(hY i hi).m)).mono ?_;rintro r w' ⟨g1,c1,g2,c2,g3,c3,F1,F2,F3,rfl,o,hl,b⟩;exact⟨g1,c1,g2,c2,g3,c3,rfl,NtE.of o (fun x hx k=>by have:=(hl x hx).1;omega),b⟩
 rw[hb] at KN;have KG:H (NsG f n zs ⟨N,m,Y⟩):=⟨jJ1 hb,fun i hi=>(hN i hi).2,hY⟩;have v0:=hd (h9.below i0);obtain⟨zl,u0⟩:=nnH zs.length;rw[u0.out] at KC KN RA m0 |-;clear h1 h2 h3 i0 hN hY hb h9;go_enter func19,ntmps19
 go_upto_region 1 with fail
 rw[<-m0.out,<-HD.out,<-HC.out,<-HA.out];go_wp2_with (refine Bg rfl 48 _ rfl A rfl 48 #[f,V a n c,V l zl d,V e m g] (0,0) _ ?_ Bu rfl Tryz.infoNt ?_;exact RA)
 refine Ax KN.out ?_;rintro r w1 ⟨rfl,b1⟩;have r0:=hd (RA.below b1 RA.lt);have z0:=hd (RD.below b1 RD.lt);have c0:=hd b1;have y0:=hd (RC.below b1 RC.lt);have j1:H (∀ W B1 g1 c1 g2 c2 g3 c3 X9,Ab w1 w1 W->NtE W B1 n N zs m Y g1 c1 (V (Q g2 0 I) zl c2) g3 c3 X9->B1<=W.1.size->(∀ b,X9 b->b<W.1.size)->Ak prog 70 #[Ai #[f,V (Q g1 0 I) n c1,V (Q g2 0 I) zl c2,V (Q g3 0 I) m c3],Ai (opC o (V a9 o.y.p.m c9))] W fun r w'=>∃ g7 c7 mm ok,r=Ae (Ah #[Ai #[f,V (Q g1 0 I) n c1,V (Q g2 0 I) zl c2,V (Q g7 0 I) mm c7],.bool ok])/\Trn W w' (fun x=>x=g1\/x=g3)/\opB f n zs ⟨N,m,Y⟩ o=(ok&&decide (mm<=3000))/\(ok=Aw->mm=(nxT f n zs ⟨N,m,Y⟩ o).m/\NtE w' B1 n (nxT f n zs ⟨N,m,Y⟩ o).N zs (nxT f n zs ⟨N,m,Y⟩ o).m (nxT f n zs ⟨N,m,Y⟩ o).Y g1 c1 (V (Q g2 0 I) zl c2) g7 c7 X9/\(g7=g3\/W.1.size<=g7))):=fun W B1 g1 c1 g2 c2 g3 c3 X9 hW hE hB hX=>by
  rw[<-u0.out] at hE |-;exact jP3 B1 f n zs ⟨N,m,Y⟩ g1 c1 (Q g2 0 I) c2 g3 c3 X9 o a9 c9 W hE hB hX KG hO ((v0.below c0).below hW)
 clear b1 KN v0 KG hO RC RA RD;go_upto_region 3 with fail
 refine JE Tryz.mixed 10 [([],[0,1,3,8]),([0],[1,3,4,5,8]),([],[2,3,8]),([1,2],[3,4,5,6,8,9]),([1,3],[8]),([1,3,4],[8]),([1,3,4],[]),([],[7,8]),([1,3,5,7],[8]),([1,3,6],[])] (by kernel_rfl) (fun L A9 W=>∃ (x6:Nat) (B1:Nat) (g1:Nat) (c1:Nat) (g2:Nat) (c2:Nat) (g3:Nat) (c3:Nat) (g7:Nat) (c7:Nat) (mm:Nat) (ok:Bool),A9=⟨(List.toArray (α:=Aj) ((ntV f (V a n c) (V l zl d) (V e m g))::(opV o (V a9 o.y.p.m c9))::(Af A)::(Af C)::(Af D)::(Av)::(cX (L 7) (Af x6) O)::(cX (L 9) (.bool ok) O)::(Ai #[f,V a n c,V l zl d,V e m g])::(Aw)::(Av)::O::O::(cX (L 4) (Ah #[Ai #[f,V (Q g1 0 I) n c1,V (Q g2 0 I) zl c2,V (Q g7 0 I) mm c7],.bool ok]) O)::(cX (L 0) (Ai #[f,V a n c,V l zl d,V e m g]) O)::(cX (L 1) (Ai #[f,V (Q g1 0 I) n c1,V (Q g2 0 I) zl c2,V (Q g3 0 I) m c3]) O)::(cX (L 2) (Ai (opC o (V a9 o.y.p.m c9))) O)::(cX (L 3) (Ah #[Ai #[f,V (Q g1 0 I) n c1,V (Q g2 0 I) zl c2,V (Q g7 0 I) mm c7],.bool ok]) O)::(cX (L 5) (Ai #[f,V (Q g1 0 I) n c1,V (Q g2 0 I) zl c2,V (Q g7 0 I) mm c7]) O)::(cX (L 6) (.bool ok) O)::O::O::O::O::O::O::O::O::O::O::O::[])),[]⟩/\(Ab w1 w1 W)/\(L 1=Aw->L 3=Av->NtE W B1 n N zs m Y g1 c1 (V (Q g2 0 I) zl c2) g3 c3 (fun b=>b<B1\/(L 7=Aw/\b=x6))/\w1.1.size<=B1/\B1<=W.1.size/\(L 7=Aw->x6≠g1/\x6≠g3))/\(L 7=Aw->L 8=Av->Row W x6 48 #[(),V I 0 0,V I 0 0,V I 0 0]/\w1.1.size<=x6)/\(L 8=Aw->Row W x6 48 #[f,V (Q g1 0 I) n c1,V (Q g2 0 I) zl c2,V (Q g7 0 I) mm c7]/\w1.1.size<=x6)/\(L 3=Aw->opB f n zs ⟨N,m,Y⟩ o=(ok&&decide (mm<=3000))/\(ok=Aw->mm=(nxT f n zs ⟨N,m,Y⟩ o).m/\NtE W B1 n (nxT f n zs ⟨N,m,Y⟩ o).N zs (nxT f n zs ⟨N,m,Y⟩ o).m (nxT f n zs ⟨N,m,Y⟩ o).Y g1 c1 (V (Q g2 0 I) zl c2) g7 c7 (fun b=>b<B1\/(L 7=Aw/\b=x6)))/\w1.1.size<=B1/\(L 7=Aw->ok=Aw->x6≠g1/\x6≠g7))) ?_ ?_ ?_
 .exact⟨0,0,0,0,0,0,0,0,0,0,0,Av,rfl,jD _,(fun h=>by cases h),(fun h=>by cases h),(fun h=>by cases h),(fun h=>by cases h)⟩
 .rintro a9 wx ⟨x6,B1,g1,c1,g2,c2,g3,c3,g7,c7,mm,ok,a1,f1,-,-,t0,g0⟩;simp only[Nat.reduceLT,Dn,jJ] at a1;subst a1;replace t0:=(t0 rfl)
  replace g0:opB f n zs ⟨N,m,Y⟩ o=(ok&&decide (mm<=3000))/\(ok=Aw->mm=(nxT f n zs ⟨N,m,Y⟩ o).m/\NtE wx B1 n (nxT f n zs ⟨N,m,Y⟩ o).N zs (nxT f n zs ⟨N,m,Y⟩ o).m (nxT f n zs ⟨N,m,Y⟩ o).Y g1 c1 (V (Q g2 0 I) zl c2) g7 c7 (fun b=>b<B1))/\w1.1.size<=B1:=⟨(g0 rfl).1,fun k=>⟨((g0 rfl).2.1 k).1,((g0 rfl).2.1 k).2.less (fun b q=>.inl q)⟩,(g0 rfl).2.2.1⟩
  have K6:=hd t0;have f0:=hd f1;have KO:=hd g0.1;have KQ:=hd g0.2.1;have r1:=g0.2.2;clear f1 t0 g0;have R6:=hd K6.1;have x0:=hd (r0.below f0 r0.lt);have o0:=hd (z0.below f0 z0.lt);have z3:=R6.cell 3;simp at z3;cases ok with
  | false=>
   have KP:=hd KO.out;clear KO KQ K6 z3 R6;go_upto_region 5 with fail
   go_wp2_with (refine Bg rfl 48 _ rfl A rfl 48 #[f,V a n c,V l zl d,V e m g] (0,0) _ ?_ Bu rfl Tryz.infoNt ?_;exact x0)
   refine Ax (KC wx (jA c0 f0)) ?_;rintro r w2 ⟨g1,c1,g2,c2,g3,c3,rfl,e2,b2⟩;have q0:=hd (o0.below b2 o0.lt);obtain⟨w8,a0⟩:=nmH (w2.setRow D #[f,V (Q g1 0 I) n c1,V (Q g2 0 I) zl c2,V (Q g3 0 I) m c3]);have b0:H (Row w8 D 48 #[f,V (Q g1 0 I) n c1,V (Q g2 0 I) zl c2,V (Q g3 0 I) m c3]):=by show Row _ _ _ _;rw[a0.out];exact q0.row
   have KF:H (NtE w8 w n N zs m Y g1 c1 (V (Q g2 0 I) zl c2) g3 c3 (fun b=>b<w.1.size)/\Ab w w w8):=by
    have hl:=HL.out;have s0:=n0.size;have s1:=((jA c0 f0)).size;have i1:=e2.lt;have t8:∀ x,x≠D->w8.1[x]?=w2.1[x]?:=fun x hx=>by rw[a0.out];exact Cj _ _ _ _ hx
    refine⟨((e2.turn (by rw[a0.out];simp) (fun b hb hn=>t8 b (fun q=>?_))).base (by omega)).less (fun b k=>by show b<wx.1.size;omega),by rw[a0.out];exact jG (jA n0.out (jA ((jA c0 f0)) b2)) (by omega) _⟩;rcases hn with hn|hn|hn
    .exact hn (by show b<wx.1.size;omega)
    .omega
    .omega
   clear e2 b2 KC;go_wp2_with (refine Ca rfl 48 _ _ rfl D #[f,V (M ⟨g1,0,I⟩) n c1,V (M ⟨g2,0,I⟩) zl c2,V (M ⟨g3,0,I⟩) m c3] rfl rfl 48 #[(),V I 0 0,V I 0 0,V I 0 0] ?_ Tryz.infoNt rfl (by simp[Aq]) ?_;exact q0;rw[<-a0.out])
   have p0:=b0.cell 0;have p1:=b0.cell 1;have p2:=b0.cell 2;have p3:=b0.cell 3;simp at p0 p1 p2 p3;exact B7 (v:=Ah #[Ai #[f,V (Q g1 0 I) n c1,V (Q g2 0 I) zl c2,V (Q g3 0 I) m c3],Av]) (by simp[results,Tryz.results19,go_sem,p0,p1,p2,p3]) rfl (by unfold opT;rw[KP.out];exact⟨_,_,_,_,_,_,rfl,KF⟩)
  | true=>
   by_cases cm:mm<=3000
   .have m1:¬ (3000:Int)<(mm:Int):=by omega
    have KP:H (opB f n zs ⟨N,m,Y⟩ o=Aw):=by rw[KO.out,Bf cm];rfl
    obtain⟨w8,a0⟩:=nmH (wx.setRow D #[f,V (Q g1 0 I) n c1,V (Q g2 0 I) zl c2,V (Q g7 0 I) mm c7]);have b0:H (Row w8 D 48 #[f,V (Q g1 0 I) n c1,V (Q g2 0 I) zl c2,V (Q g7 0 I) mm c7]):=by show Row _ _ _ _;rw[a0.out];exact o0.row
    obtain⟨em,eq⟩:=KQ rfl;have KF:H (NtE w8 w n (nxT f n zs ⟨N,m,Y⟩ o).N zs (nxT f n zs ⟨N,m,Y⟩ o).m (nxT f n zs ⟨N,m,Y⟩ o).Y g1 c1 (V (Q g2 0 I) zl c2) g7 c7 (fun b=>b<w.1.size)/\Ab w w w8):=by
     have hl:=HL.out;have s0:=n0.size;have s1:=c0.size;have s2:=f0.size;have i1:=eq.lt;have t8:∀ x,x≠D->w8.1[x]?=wx.1[x]?:=fun x hx=>by rw[a0.out];exact Cj _ _ _ _ hx
     refine⟨((eq.turn (by rw[a0.out];simp) (fun b hb hn=>t8 b (fun q=>?_))).base (by omega)).less (fun b k=>by show b<B1;omega),by rw[a0.out];exact jG (jA n0.out (jA c0 f0)) (by omega) _⟩;rcases hn with hn|hn|hn
     .exact hn (by show b<B1;omega)
     .omega
     .omega
    have KM:=hd em;clear KO KQ K6 KC em eq cm;go_upto_region 6 with fail
    go_wp2_with (first|(refine Bg rfl 48 _ rfl x6 rfl 48 #[f,V (M ⟨g1,0,I⟩) n c1,V (M ⟨g2,0,I⟩) zl c2,V (M ⟨g7,0,I⟩) mm c7] (0,0) _ ?_ Bu rfl Tryz.infoNt ?_;exact R6)|(refine Ca rfl 48 _ _ rfl D #[f,V (M ⟨g1,0,I⟩) n c1,V (M ⟨g2,0,I⟩) zl c2,V (M ⟨g7,0,I⟩) mm c7] rfl rfl 48 #[(),V I 0 0,V I 0 0,V I 0 0] ?_ Tryz.infoNt rfl (by simp[Aq]) ?_;exact o0;rw[<-a0.out]))
    have p0:=b0.cell 0;have p1:=b0.cell 1;have p2:=b0.cell 2;have p3:=b0.cell 3;simp at p0 p1 p2 p3;exact B7 (v:=Ah #[Ai #[f,V (Q g1 0 I) n c1,V (Q g2 0 I) zl c2,V (Q g7 0 I) mm c7],Aw]) (by simp[results,Tryz.results19,go_sem,p0,p1,p2,p3]) rfl (by unfold opT;rw[KP.out,A6 rfl];exact⟨_,_,_,_,_,_,(by rw[<-KM.out]),KF⟩)
   .have m1:(3000:Int)<(mm:Int):=by omega
    have KP:H (opB f n zs ⟨N,m,Y⟩ o=Av):=by rw[KO.out,Bh cm];rfl
    clear KO KQ K6 cm;go_upto_region 5 with fail
    go_wp2_with (refine Bg rfl 48 _ rfl A rfl 48 #[f,V a n c,V l zl d,V e m g] (0,0) _ ?_ Bu rfl Tryz.infoNt ?_;exact x0)
    refine Ax (KC wx (jA c0 f0)) ?_;rintro r w2 ⟨g1,c1,g2,c2,g3,c3,rfl,e2,b2⟩;have q0:=hd (o0.below b2 o0.lt);obtain⟨w8,a0⟩:=nmH (w2.setRow D #[f,V (Q g1 0 I) n c1,V (Q g2 0 I) zl c2,V (Q g3 0 I) m c3]);have b0:H (Row w8 D 48 #[f,V (Q g1 0 I) n c1,V (Q g2 0 I) zl c2,V (Q g3 0 I) m c3]):=by show Row _ _ _ _;rw[a0.out];exact q0.row
    have KF:H (NtE w8 w n N zs m Y g1 c1 (V (Q g2 0 I) zl c2) g3 c3 (fun b=>b<w.1.size)/\Ab w w w8):=by
     have hl:=HL.out;have s0:=n0.size;have s1:=((jA c0 f0)).size;have i1:=e2.lt;have t8:∀ x,x≠D->w8.1[x]?=w2.1[x]?:=fun x hx=>by rw[a0.out];exact Cj _ _ _ _ hx
     refine⟨((e2.turn (by rw[a0.out];simp) (fun b hb hn=>t8 b (fun q=>?_))).base (by omega)).less (fun b k=>by show b<wx.1.size;omega),by rw[a0.out];exact jG (jA n0.out (jA ((jA c0 f0)) b2)) (by omega) _⟩;rcases hn with hn|hn|hn
     .exact hn (by show b<wx.1.size;omega)
     .omega
     .omega
    clear e2 b2 KC;go_wp2_with (refine Ca rfl 48 _ _ rfl D #[f,V (M ⟨g1,0,I⟩) n c1,V (M ⟨g2,0,I⟩) zl c2,V (M ⟨g3,0,I⟩) m c3] rfl rfl 48 #[(),V I 0 0,V I 0 0,V I 0 0] ?_ Tryz.infoNt rfl (by simp[Aq]) ?_;exact q0;rw[<-a0.out])
    have p0:=b0.cell 0;have p1:=b0.cell 1;have p2:=b0.cell 2;have p3:=b0.cell 3;simp at p0 p1 p2 p3;exact B7 (v:=Ah #[Ai #[f,V (Q g1 0 I) n c1,V (Q g2 0 I) zl c2,V (Q g3 0 I) m c3],Av]) (by simp[results,Tryz.results19,go_sem,p0,p1,p2,p3]) rfl (by unfold opT;rw[KP.out];exact⟨_,_,_,_,_,_,rfl,KF⟩)
 .intro q9 n1 L a9 W S j0;match q9,n1 with
  | 4,_|5,_|6,_|9,_=>
   obtain⟨x6,B1,g1,c1,g2,c2,g3,c3,g7,c7,mm,ok,rfl,hf⟩:=j0;simp only[knT,kn,knN] at S;refine jB rfl (fun _=>rfl) fun K hK=>?_
   simp only[S,jJ];go_simp
   exact hK _ _ ⟨x6,B1,g1,c1,g2,c2,g3,c3,g7,c7,mm,ok,(by simp only[Nat.reduceBEq,Be,Bp,jJ,S]),hf⟩
  | 0,_=>
   obtain⟨x6,B1,g1,c1,g2,c2,g3,c3,g7,c7,mm,ok,rfl,h0,h1,h2,h3,h4⟩:=j0;obtain⟨e0,e1,e3,e8,-⟩:=S;refine jB rfl (fun _=>rfl) fun K hK=>?_
   refine Ev 48 _ rfl A rfl 48 #[f,V a n c,V l zl d,V e m g] (0,0) _ (r0.below h0 r0.lt) Bu rfl Tryz.infoNt ?_;exact hK _ _ ⟨x6,B1,g1,c1,g2,c2,g3,c3,g7,c7,mm,ok,(by simp[Act.put,jJ]),h0,(ab e1),h2,(ab e8),(ab e3)⟩
  | 1,_=>
   obtain⟨x6,B1,g1,c1,g2,c2,g3,c3,g7,c7,mm,ok,rfl,h0,h1,h2,h3,h4⟩:=j0;obtain⟨d0,e1,e3,e4,e5,e8,-⟩:=S;refine jB rfl (fun _=>rfl) fun K hK=>?_
   simp only[d0,jJ];go_simp
   refine Ax (KC W (jA c0 h0)) ?_;rintro r w9 ⟨g1,c1,g2,c2,g3,c3,rfl,e2,b9⟩;exact hK _ _ ⟨x6,W.1.size,g1,c1,g2,c2,g3,c3,g7,c7,mm,ok,(by simp only[Nat.reduceBEq,Be,Bp,jJ,jCr,d0,e3,e4,e5]),(jA h0 b9),(fun k0 k1=>⟨e2.less (fun b k=>by rcases k with k|k;exact k;rw[k.2];exact(h2 k.1 e8).1.lt),h0.size,b9.size,fun k=>by have:=(h2 k e8).1.lt;have:=e2.lt;omega⟩),(fun k0 k1=>by have q:=h2 (show L 7=Aw from k0) (show L 8=Av from k1);exact⟨q.1.below b9 q.1.lt,q.2⟩),(ab e8),(ab e3)⟩
  | 2,_=>
   obtain⟨x6,B1,g1,c1,g2,c2,g3,c3,g7,c7,mm,ok,rfl,h0,h1,h2,h3,h4⟩:=j0;obtain⟨e2,e3,e8,-⟩:=S;refine jB rfl (fun _=>rfl) fun K hK=>?_
   refine Ev 50 _ rfl C rfl 50 (opC o (V a9 o.y.p.m c9)) (0,0) _ (y0.below h0 y0.lt) Fo rfl Tryz.infoOp ?_;exact hK _ _ ⟨x6,B1,g1,c1,g2,c2,g3,c3,g7,c7,mm,ok,(by simp[Act.put,jJ]),h0,h1,h2,(ab e8),(ab e3)⟩
  | 3,_=>
   obtain⟨x6,B1,g1,c1,g2,c2,g3,c3,g7,c7,mm,ok,rfl,h0,h1,h2,h3,h4⟩:=j0;obtain⟨d1,d2,e3,e4,e5,e6,e8,e9,-⟩:=S;obtain⟨q1,q2,q3,q4⟩:=h1 d1 e3;have s0:=h0.size;refine jB rfl (fun _=>rfl) fun K hK=>?_
   simp only[d1,d2,jJ];go_simp
   refine Ax (j1 W B1 g1 c1 g2 c2 g3 c3 _ h0 q1 q3 (fun b k=>by rcases k with k|k;omega;rw[k.2];exact(h2 k.1 e8).1.lt)) ?_;rintro r w9 ⟨g7,c7,mm,ok,rfl,t9,ho,hE⟩;exact hK _ _ ⟨x6,B1,g1,c1,g2,c2,g3,c3,g7,c7,mm,ok,(by simp only[Nat.reduceBEq,Be,Bp,jJ,jCr,d1,d2,e4,e5,e6,e9]),(h0.trans (t9.below (fun x hx=>by have:=q1.lt;have o1:x=g1\/x=g3:=hx;omega) s0)),(fun _=>nf),(fun k0 k1=>by have q:=h2 (show L 7=Aw from k0) (show L 8=Av from k1);have q5:=q4 (show L 7=Aw from k0);exact⟨(t9.block x6 q.1.lt (fun hx=>by have o1:x6=g1\/x6=g3:=hx;omega)).trans q.1,q.2⟩),(ab e8),(fun k0=>⟨ho,fun k=>⟨(hE k).1,(hE k).2.1⟩,q2,fun k k9=>by have h5:=q4 k;have h6:=(hE k9).2.2;have h7:=(h2 k e8).1.lt;omega⟩)⟩
  | 7,_=>
   obtain⟨x6,B1,g1,c1,g2,c2,g3,c3,g7,c7,mm,ok,rfl,h0,h1,h2,h3,h4⟩:=j0;obtain⟨e7,e8,-⟩:=S;refine jB rfl (fun _=>rfl) fun K hK=>?_
   go_simp
   exact hK _ _ ⟨W.1.size,B1,g1,c1,g2,c2,g3,c3,g7,c7,mm,ok,(by simp only[Nat.reduceBEq,Be,Bp,jJ]),(h0.alloc h0.size _),(fun k0 k1=>by obtain⟨q1,q2,q3,q4⟩:=h1 (show L 1=Aw from k0) (show L 3=Av from k1);have hl:=q1.lt;exact⟨(q1.grow ((Az W.1.size W).alloc (Ay _) _)).less (fun b k=>by rcases k with k|k;exact .inl (.inl k);exact .inr (by have:=k.2;simp;omega)),q2,by simp;omega,fun _=>by omega⟩),(fun k0 k1=>⟨Row.new W _ _,h0.size⟩),(ab e8),(fun k0=>by obtain⟨ho,hE,q2,_⟩:=h4 (show L 3=Aw from k0);exact⟨ho,fun k=>⟨(hE k).1,((hE k).2.grow ((Az W.1.size W).alloc (Ay _) _)).less (fun b k=>by rcases k with k|k;exact .inl (.inl k);exact .inr (by have:=k.2;simp;omega))⟩,q2,fun _ k=>by have:=(hE k).2.lt;omega⟩)⟩
  | 8,_=>
   obtain⟨x6,B1,g1,c1,g2,c2,g3,c3,g7,c7,mm,ok,rfl,h0,h1,h2,h3,h4⟩:=j0;obtain⟨d1,d3,d5,d7,e8,-⟩:=S;obtain⟨r6,l6⟩:=h2 d7 e8;obtain⟨ho,hE,q2,q4⟩:=h4 d3;refine jB rfl (fun _=>rfl) fun K hK=>?_
   simp only[d7,d5,jJ];refine Gx 48 _ _ rfl x6 #[f,V (M ⟨g1,0,I⟩) n c1,V (M ⟨g2,0,I⟩) zl c2,V (M ⟨g7,0,I⟩) mm c7] rfl rfl 48 #[(),V I 0 0,V I 0 0,V I 0 0] r6 Tryz.infoNt rfl (by simp[Aq]) ?_;exact hK _ _ ⟨x6,B1,g1,c1,g2,c2,g3,c3,g7,c7,mm,ok,(by simp[Act.put,jJ,d7,d5]),(jG h0 l6 _),(fun _=>ba d3),(fun _=>nf),(fun k0=>⟨r6.row,l6⟩),(fun k0=>⟨ho,fun k=>⟨(hE k).1,(hE k).2.turn (by simp) (fun b hb hn=>Cj _ _ _ _ (fun q=>by have h5:=q4 d7 k;rcases hn with hn|hn|hn;exact hn (.inr ⟨d7,q⟩);omega;omega))⟩,q2,q4⟩)⟩
  | n9+10,h=>exact Bo h (by omega)
theorem jHx (f:Int) (a:OA) (n c:Nat) (l:OA) (zs:List Int) (d:Nat) (e:OA) (m g:Nat) (N:Nat->Nd) (Y:Nat->Sy) (o:Op9) (a9:OA) (c9:Nat) (w:Ad) (h1:Rd w (qS n N) (V a n c)) (h2:jH w l zs.length zs) (h3:Rd w (qJ m Y) (V e m g)) (hn:n<=1048576) (hz:zs.length<=1048576) (hm:m<=1048576) (hN:∀ i,i<n->(N i).n<=1048576/\∀ j,j<(N i).n->SlK ((N i).S j)) (hY:∀ i,i<m->SyK (Y i)) (h9:jK w a9 o.y.p.m o.y.p.S) (hO:OpK o):Ak prog 19 #[ntV f (V a n c) (V l zs.length d) (V e m g),opV o (V a9 o.y.p.m c9)] w fun r w'=>∃ g1 c1 g2 c2 g3 c3,r=Ae (Ah #[ntV f (V (Q g1 0 I) n c1) (V (Q g2 0 I) zs.length c2) (V (Q g3 0 I) (doT f n zs ⟨N,m,Y⟩ o).m c3),(doB f n zs ⟨N,m,Y⟩ o)])/\NtE w' w n (doT f n zs ⟨N,m,Y⟩ o).N zs (doT f n zs ⟨N,m,Y⟩ o).m (doT f n zs ⟨N,m,Y⟩ o).Y g1 c1 (V (Q g2 0 I) zs.length c2) g3 c3 (fun b=>b<w.1.size)/\Ab w w w':=by
 unfold doB doT;cases hb:ntB f n N zs m with
 | false=>exact jKv f a n c l zs d e m g N Y o _ w h1 h2 h3 hn hz hm hN hY hb
 | true=>exact jHy f a n c l zs d e m g N Y o a9 c9 w h1 h2 h3 hn hz hm hN hY h9 hO hb
theorem jKl {W:Ad} {b:OA} {L d k:Nat} (h:Rd W (inD (jV k L)) (V b L d)):jH W b L (jV k L):=by
 have e:(jV k L).length=L:=by unfold jV eI;simp
 have h':Rd W (inD (jV k L)) (V b (jV k L).length d):=by rw[e];exact h
 have:=qK.1 h'
 rw[e] at this;exact this
structure NtR (W:Ad) (E:Nat->Prop) (n:Nat) (N:Nat->Nd) (zs:List Int) (m:Nat) (Y:Nat->Sy) (v1 v2 v3:Aj):Prop where
 n:Rf W E (qS n N) v1
 z:Rf W E (inD zs) v2
 y:Rf W E (qJ m Y) v3
section
variable {W W':World} {E E':Nat->Prop} {n m:Nat} {N:Nat->Nd} {zs:List Int} {Y:Nat->Sy} {v1 v2 v3:Value}
theorem NtR.mono (h:NtR W E n N zs m Y v1 v2 v3) (k:∀ b,E' b->E b):NtR W E' n N zs m Y v1 v2 v3:=⟨h.n.mono k,h.z.mono k,h.y.mono k⟩
theorem NtR.below (h:NtR W E n N zs m Y v1 v2 v3) (hb:Ab W W W'):NtR W' E n N zs m Y v1 v2 v3:=⟨h.n.below hb,h.z.below hb,h.y.below hb⟩
theorem NtR.since (h:NtR W E n N zs m Y v1 v2 v3) (hb:Ab W W W'):NtR W' (fun b=>E b\/W.1.size<=b) n N zs m Y v1 v2 v3:=
 ⟨h.n.since hb.size (fun b _ hl=>hb.block b hl),h.z.since hb.size (fun b _ hl=>hb.block b hl),h.y.since hb.size (fun b _ hl=>hb.block b hl)⟩
theorem NtR.setRow (h:NtR W E n N zs m Y v1 v2 v3) {g:Nat} (hg:E g) (cs:Array Aj):NtR (W.setRow g cs) E n N zs m Y v1 v2 v3:=⟨h.n.setRow hg cs,h.z.setRow hg cs,h.y.setRow hg cs⟩
theorem NtE.rf {B g1 c1 g3 c3:Nat} (h:NtE W B n N zs m Y g1 c1 v2 g3 c3 (fun b=>b<B)):NtR W (fun b=>b<B) n N zs m Y (V g1 n c1) v2 (V g3 m c3):=by
 have hl:=h.lt;have ht:∀ W',W.1.size<=W'.1.size->(∀ b,¬ (b<B)->b<W.1.size->W'.1[b]?=W.1[b]?)->NtE W' B n N zs m Y g1 c1 v2 g3 c3 (fun b=>b<B):=fun W' hs hk=>h.turn hs (fun b hb hn=>hk b (by rcases hn with hn|hn|hn;exact hn;omega;omega) hb)
 exact⟨fun W' hs hk=>(ht W' hs hk).rdN,fun W' hs hk=>(ht W' hs hk).z.rd,fun W' hs hk=>(ht W' hs hk).rdY⟩
theorem NtQ.rf {B:Nat} {F1 F2 F3:Nat->Prop} (h:NtQ W B n N zs m Y v1 v2 v3 F1 F2 F3):NtR W (fun b=>b<B) n N zs m Y v1 v2 v3:=by
 have ht:∀ W',W.1.size<=W'.1.size->(∀ b,¬ (b<B)->b<W.1.size->W'.1[b]?=W.1[b]?)->NtQ W' B n N zs m Y v1 v2 v3 F1 F2 F3:=fun W' hs hk=>h.turn hs (fun b hb=>hk b (by have:=h.f b hb;omega) (h.f b hb).2)
 exact⟨fun W' hs hk=>(ht W' hs hk).n.rd,fun W' hs hk=>(ht W' hs hk).z.rd,fun W' hs hk=>(ht W' hs hk).y.rd⟩
end
end Go.Proofs.YtcaejlalnjnifaaGreat
