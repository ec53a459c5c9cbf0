import Derived.Test.YtcaejlalnjnifaaGreatR34
import Derived.Test.YtcaejlalnjnifaaGreatR33
set_option maxHeartbeats 8000000
set_option maxRecDepth 2000
open Go.Value renaming slice->V,pointer->Af,tuple->Ah,agg->Ai,int->Ao,oneCell'->Aq
open Option renaming none->I,some->M
open Go.RowKit renaming Hid->H,Below->Ab
open Go.Addr renaming mk->Q
open Go renaming undef->O,World->Ad,Value->Aj,Calls->Ak
open Go.Obj renaming cells->J
open Go.Ending renaming returned->Ae
open Go.IntKind renaming i64->Ar
open Bool renaming false->Av,true->Aw
open Go.Proofs.Tryz
open Go.ChangeShapes Go.WideShapes Go.ChangeAt Go.RowKit
namespace Go.Proofs.YtcaejlalnjnifaaGreat
theorem jK7 (f:Int) (a:OA) (n c:Nat) (l:OA) (zs:List Int) (d:Nat) (e:OA) (m g:Nat) (N:Nat->Nd) (Y:Nat->Sy) (o:Op9) (v9:Aj) (w:Ad) (h1:Rd w (qR n N) (V a n c)) (h2:jH w l zs.length zs) (h3:Rd w (qI m Y) (V e m g)) (hn:n<=1048576) (hz:zs.length<=1048576) (hm:m<=1048576) (hN:∀ i,i<n->(N i).n<=1048576/\∀ j,j<(N i).n->SlK ((N i).S j)) (hY:∀ i,i<m->SyK (Y i)) (hb:ntB f n N zs m=Av):Ak prog 19 #[ntV f (V a n c) (V l zs.length d) (V e m g),opV o v9] w fun r w'=>∃ g1 c1 g2 c2 g3 c3,r=Ae (Ah #[ntV f (V (Q g1 0 I) n c1) (V (Q g2 0 I) zs.length c2) (V (Q g3 0 I) ((⟨N,m,Y⟩:Ns)).m c3),Av])/\NtE w' w n ((⟨N,m,Y⟩:Ns)).N zs ((⟨N,m,Y⟩:Ns)).m ((⟨N,m,Y⟩:Ns)).Y g1 c1 (V (Q g2 0 I) zs.length c2) g3 c3 (fun b=>b<w.1.size)/\Ab w w w':=by
 obtain⟨A,HA⟩:=nmH w.1.size;obtain⟨C,HC⟩:=nmH (w.1.size+1);obtain⟨D,HD⟩:=nmH (w.1.size+1+1);obtain⟨w0,a0⟩:=nmH (((w.alloc (J #[f,V a n c,V l zs.length d,V e m g] 48)).alloc (J (opC o v9) 50)).alloc (J #[(),V I 0 0,V I 0 0,V I 0 0] 48));have RA:=zS a0 HA;have RC:=xV a0 HC;have RD:=zE a0 HD;have b0:=bl3 a0;have e0:=hd b0;have HL:H (w.1.size<=A/\A<C/\C<D/\D<w0):=⟨by have:=HA.out;omega,by have h1:=HA.out;have h2:=HC.out;omega,by have h1:=HC.out;have h2:=HD.out;omega,RD.out.lt⟩;have KN:H _:=jA9 f a n c l zs d e m g N w0 (h1.below b0) (h2.below b0) hn hz (fun i hi=>⟨(hN i hi).1,fun j hj=>((hN i hi).2 j hj).ok⟩);have KC:H (∀ W,Ab w0 w0 W->Ak prog 69 #[Ai #[f,V a n c,V l zs.length d,V e m g]] W fun r w'=>∃ g1 c1 g2 c2 g3 c3,r=Ae (ntV f (V (Q g1 0 I) n c1) (V (Q g2 0 I) zs.length c2) (V (Q g3 0 I) m c3))/\NtE w' W.1.size n N zs m Y g1 c1 (V (Q g2 0 I) zs.length c2) g3 c3 (fun b=>b<W.1.size)/\Ab W.1.size W w'):=fun W hW=>by
  refine(JN f a n c l zs d e m g N Y W ((h1.below b0).below hW) ((h2.below b0).below hW) ((h3.below b0).below hW) hn hz hm (fun i hi=>⟨(hN i hi).1,fun j hj=>((hN i hi).2 j hj).s⟩) (fun i hi=>(hY i hi).m)).mono ?_;rintro r w' ⟨g1,c1,g2,c2,g3,c3,F1,F2,F3,rfl,o,hl,b⟩;exact⟨g1,c1,g2,c2,g3,c3,rfl,NtE.of o (fun x hx k=>by have:=(hl x hx).1;omega),b⟩
 rw[hb] at KN;obtain⟨zl,h0⟩:=nnH zs.length;rw[h0.out] at KC KN RA a0 |-;go_enter func19,ntmps19
 go_upto_region 1 with fail
 rw[<-a0.out,<-HD.out,<-HC.out,<-HA.out];go_wp2_with (refine Bb rfl 48 _ rfl A rfl 48 #[f,V a n c,V l zl d,V e m g] (0,0) _ ?_ Bp rfl Tryz.infoNt ?_;exact RA)
 refine CM KN.out fun w1 b1=>?_
 have i0:=hd (RA.below b1 RA.lt);have f0:=hd (RD.below b1 RD.lt);have d0:=hd b1;go_wp2_with (refine Bb rfl 48 _ rfl A rfl 48 #[f,V a n c,V l zl d,V e m g] (0,0) _ ?_ Bp rfl Tryz.infoNt ?_;exact i0)
 refine Ax (KC w1 d0) ?_;rintro r w2 ⟨g1,c1,g2,c2,g3,c3,rfl,e2,b2⟩;have g0:=hd (f0.below b2 f0.lt);obtain⟨w8,c0⟩:=nmH (w2.setRow D #[f,V (Q g1 0 I) n c1,V (Q g2 0 I) zl c2,V (Q g3 0 I) m c3]);have j0:=rr c0 g0;have KF:H (NtE w8 w n N zs m Y g1 c1 (V (Q g2 0 I) zl c2) g3 c3 (fun b=>b<w.1.size)/\Ab w w w8):=by
  have hl:=HL.out;have s0:=e0.size;have s1:=(d0).size;have k0:=e2.lt;have t8:∀ x,x≠D->w8.1[x]?=w2.1[x]?:=fun x hx=>by rw[c0.out];exact Cd _ _ _ _ hx
  refine⟨((e2.turn (by rw[c0.out];simp) (fun b hb hn=>t8 b (fun q=>?_))).base (by omega)).less (fun b k=>by show b<w1.1.size;omega),by rw[c0.out];exact jF (jA e0.out (jA (d0) b2)) (by omega) _⟩;rcases hn with hn|hn|hn
  .exact hn (by show b<w1.1.size;omega)
  .omega
  .omega
 go_wp2_with (refine Bw rfl 48 _ _ rfl D #[f,V (M ⟨g1,0,I⟩) n c1,V (M ⟨g2,0,I⟩) zl c2,V (M ⟨g3,0,I⟩) m c3] rfl rfl 48 #[(),V I 0 0,V I 0 0,V I 0 0] ?_ Tryz.infoNt rfl (by simp[Aq]) ?_;exact g0;rw[<-c0.out])
 obtain⟨p0,p1,p2,p3⟩:=j0.c4 0 1 2 3;simp at p0 p1 p2 p3;exact B7 (v:=Ah #[Ai #[f,V (Q g1 0 I) n c1,V (Q g2 0 I) zl c2,V (Q g3 0 I) m c3],Av]) (by simp[results,Tryz.results19,go_sem,p0,p1,p2,p3]) rfl ⟨_,_,_,_,_,_,rfl,KF⟩
theorem jIb (f:Int) (a:OA) (n c:Nat) (l:OA) (zs:List Int) (d:Nat) (e:OA) (m g:Nat) (N:Nat->Nd) (Y:Nat->Sy) (o:Op9) (a9:OA) (c9:Nat) (w:Ad) (h1:Rd w (qR n N) (V a n c)) (h2:jH w l zs.length zs) (h3:Rd w (qI m Y) (V e m g)) (hn:n<=1048576) (hz:zs.length<=1048576) (hm:m<=1048576) (hN:∀ i,i<n->(N i).n<=1048576/\∀ j,j<(N i).n->SlK ((N i).S j)) (hY:∀ i,i<m->SyK (Y i)) (h9:jL w a9 o.y.p.m o.y.p.S) (hO:OpK o) (hb:ntB f n N zs m=Aw):Ak prog 19 #[ntV f (V a n c) (V l zs.length d) (V e m g),opV o (V a9 o.y.p.m c9)] w fun r w'=>∃ g1 c1 g2 c2 g3 c3,r=Ae (Ah #[ntV f (V (Q g1 0 I) n c1) (V (Q g2 0 I) zs.length c2) (V (Q g3 0 I) (opT f n zs ⟨N,m,Y⟩ o).m c3),(opB f n zs ⟨N,m,Y⟩ o)])/\NtE w' w n (opT f n zs ⟨N,m,Y⟩ o).N zs (opT f n zs ⟨N,m,Y⟩ o).m (opT f n zs ⟨N,m,Y⟩ o).Y g1 c1 (V (Q g2 0 I) zs.length c2) g3 c3 (fun b=>b<w.1.size)/\Ab w w w':=by
 obtain⟨A,HA⟩:=nmH w.1.size;obtain⟨C,HC⟩:=nmH (w.1.size+1);obtain⟨D,HD⟩:=nmH (w.1.size+1+1);obtain⟨w0,j0⟩:=nmH (((w.alloc (J #[f,V a n c,V l zs.length d,V e m g] 48)).alloc (J (opC o (V a9 o.y.p.m c9)) 50)).alloc (J #[(),V I 0 0,V I 0 0,V I 0 0] 48));have RA:=zS j0 HA;have RC:=xV j0 HC;have RD:=zE j0 HD;have g0:=bl3 j0;have m0:=hd g0;have HL:H (w.1.size<=A/\A<C/\C<D/\D<w0):=⟨by have:=HA.out;omega,by have h1:=HA.out;have h2:=HC.out;omega,by have h1:=HC.out;have h2:=HD.out;omega,RD.out.lt⟩;have KN:H _:=jA9 f a n c l zs d e m g N w0 (h1.below g0) (h2.below g0) hn hz (fun i hi=>⟨(hN i hi).1,fun j hj=>((hN i hi).2 j hj).ok⟩);have KC:H (∀ W,Ab w0 w0 W->Ak prog 69 #[Ai #[f,V a n c,V l zs.length d,V e m g]] W fun r w'=>∃ g1 c1 g2 c2 g3 c3,r=Ae (ntV f (V (Q g1 0 I) n c1) (V (Q g2 0 I) zs.length c2) (V (Q g3 0 I) m c3))/\NtE w' W.1.size n N zs m Y g1 c1 (V (Q g2 0 I) zs.length c2) g3 c3 (fun b=>b<W.1.size)/\Ab W.1.size W w'):=fun W hW=>by
  refine(JN f a n c l zs d e m g N Y W ((h1.below g0).below hW) ((h2.below g0).below hW) ((h3.below g0).below hW) hn hz hm (fun i hi=>⟨(hN i hi).1,fun j hj=>((hN i hi).2 j hj).s⟩) (fun i hi=>(hY i hi).m)).mono ?_;rintro r w' ⟨g1,c1,g2,c2,g3,c3,F1,F2,F3,rfl,o,hl,b⟩;exact⟨g1,c1,g2,c2,g3,c3,rfl,NtE.of o (fun x hx k=>by have:=(hl x hx).1;omega),b⟩
 rw[hb] at KN;have KG:H (NsG f n zs ⟨N,m,Y⟩):=⟨jGf hb,fun i hi=>(hN i hi).2,hY⟩;have v0:=hd (h9.below g0);obtain⟨zl,u0⟩:=nnH zs.length;rw[u0.out] at KC KN RA j0 |-;clear h1 h2 h3 g0 hN hY hb h9;go_enter func19,ntmps19
 go_upto_region 1 with fail
 rw[<-j0.out,<-HD.out,<-HC.out,<-HA.out];go_wp2_with (refine Bb rfl 48 _ rfl A rfl 48 #[f,V a n c,V l zl d,V e m g] (0,0) _ ?_ Bp rfl Tryz.infoNt ?_;exact RA)
 refine CM KN.out fun w1 b1=>?_
 have r0:=hd (RA.below b1 RA.lt);have z0:=hd (RD.below b1 RD.lt);have b0:=hd b1;have y0:=hd (RC.below b1 RC.lt);have j1:H (∀ W B1 g1 c1 g2 c2 g3 c3 X9,Ab w1.1.size w1 W->NtE W B1 n N zs m Y g1 c1 (V (Q g2 0 I) zl c2) g3 c3 X9->B1<=W.1.size->(∀ b,X9 b->b<W.1.size)->Ak prog 70 #[Ai #[f,V (Q g1 0 I) n c1,V (Q g2 0 I) zl c2,V (Q g3 0 I) m c3],Ai (opC o (V a9 o.y.p.m c9))] W fun r w'=>∃ g7 c7 mm ok,r=Ae (Ah #[Ai #[f,V (Q g1 0 I) n c1,V (Q g2 0 I) zl c2,V (Q g7 0 I) mm c7],.bool ok])/\Trn W w' (fun x=>x=g1\/x=g3)/\opB f n zs ⟨N,m,Y⟩ o=(ok&&decide (mm<=3000))/\(ok=Aw->mm=(nxT f n zs ⟨N,m,Y⟩ o).m/\NtE w' B1 n (nxT f n zs ⟨N,m,Y⟩ o).N zs (nxT f n zs ⟨N,m,Y⟩ o).m (nxT f n zs ⟨N,m,Y⟩ o).Y g1 c1 (V (Q g2 0 I) zl c2) g7 c7 X9/\(g7=g3\/W.1.size<=g7))):=fun W B1 g1 c1 g2 c2 g3 c3 X9 hW hE hB hX=>by
  rw[<-u0.out] at hE |-;exact jQl B1 f n zs ⟨N,m,Y⟩ g1 c1 (Q g2 0 I) c2 g3 c3 X9 o a9 c9 W hE hB hX KG hO ((v0.below b0).below hW)
 clear b1 KN v0 KG hO RC RA RD;go_upto_region 3 with fail
 refine JP Tryz.mixed 10 [([],[0,1,3,8]),([0],[1,3,4,5,8]),([],[2,3,8]),([1,2],[3,4,5,6,8,9]),([1,3],[8]),([1,3,4],[8]),([1,3,4],[]),([],[7,8]),([1,3,5,7],[8]),([1,3,6],[])] (by kernel_rfl) (fun L A9 W=>∃ (x6:Nat) (B1:Nat) (g1:Nat) (c1:Nat) (g2:Nat) (c2:Nat) (g3:Nat) (c3:Nat) (g7:Nat) (c7:Nat) (mm:Nat) (ok:Bool),A9=⟨(List.toArray (α:=Aj) ((ntV f (V a n c) (V l zl d) (V e m g))::(opV o (V a9 o.y.p.m c9))::(Af A)::(Af C)::(Af D)::(Av)::(cX (L 7) (Af x6) O)::(cX (L 9) (.bool ok) O)::(Ai #[f,V a n c,V l zl d,V e m g])::(Aw)::(Av)::O::O::(cX (L 4) (Ah #[Ai #[f,V (Q g1 0 I) n c1,V (Q g2 0 I) zl c2,V (Q g7 0 I) mm c7],.bool ok]) O)::(cX (L 0) (Ai #[f,V a n c,V l zl d,V e m g]) O)::(cX (L 1) (Ai #[f,V (Q g1 0 I) n c1,V (Q g2 0 I) zl c2,V (Q g3 0 I) m c3]) O)::(cX (L 2) (Ai (opC o (V a9 o.y.p.m c9))) O)::(cX (L 3) (Ah #[Ai #[f,V (Q g1 0 I) n c1,V (Q g2 0 I) zl c2,V (Q g7 0 I) mm c7],.bool ok]) O)::(cX (L 5) (Ai #[f,V (Q g1 0 I) n c1,V (Q g2 0 I) zl c2,V (Q g7 0 I) mm c7]) O)::(cX (L 6) (.bool ok) O)::O::O::O::O::O::O::O::O::O::O::O::[])),[]⟩/\(Ab w1.1.size w1 W)/\(L 1=Aw->L 3=Av->NtE W B1 n N zs m Y g1 c1 (V (Q g2 0 I) zl c2) g3 c3 (fun b=>b<B1\/(L 7=Aw/\b=x6))/\w1.1.size<=B1/\B1<=W.1.size/\(L 7=Aw->x6≠g1/\x6≠g3))/\(L 7=Aw->L 8=Av->Row W x6 48 #[(),V I 0 0,V I 0 0,V I 0 0]/\w1.1.size<=x6)/\(L 8=Aw->Row W x6 48 #[f,V (Q g1 0 I) n c1,V (Q g2 0 I) zl c2,V (Q g7 0 I) mm c7]/\w1.1.size<=x6)/\(L 3=Aw->opB f n zs ⟨N,m,Y⟩ o=(ok&&decide (mm<=3000))/\(ok=Aw->mm=(nxT f n zs ⟨N,m,Y⟩ o).m/\NtE W B1 n (nxT f n zs ⟨N,m,Y⟩ o).N zs (nxT f n zs ⟨N,m,Y⟩ o).m (nxT f n zs ⟨N,m,Y⟩ o).Y g1 c1 (V (Q g2 0 I) zl c2) g7 c7 (fun b=>b<B1\/(L 7=Aw/\b=x6)))/\w1.1.size<=B1/\(L 7=Aw->ok=Aw->x6≠g1/\x6≠g7))) ?_ ?_ ?_
 .exact⟨0,0,0,0,0,0,0,0,0,0,0,Av,rfl,jD _,(fun h=>by cases h),(fun h=>by cases h),(fun h=>by cases h),(fun h=>by cases h)⟩
 .rintro a9 wx ⟨x6,B1,g1,c1,g2,c2,g3,c3,g7,c7,mm,ok,a1,f1,-,-,t0,f0⟩;simp only[Nat.reduceLT,Dp,jJ] at a1;subst a1;replace t0:=(t0 rfl)
  replace f0:opB f n zs ⟨N,m,Y⟩ o=(ok&&decide (mm<=3000))/\(ok=Aw->mm=(nxT f n zs ⟨N,m,Y⟩ o).m/\NtE wx B1 n (nxT f n zs ⟨N,m,Y⟩ o).N zs (nxT f n zs ⟨N,m,Y⟩ o).m (nxT f n zs ⟨N,m,Y⟩ o).Y g1 c1 (V (Q g2 0 I) zl c2) g7 c7 (fun b=>b<B1))/\w1.1.size<=B1:=⟨(f0 rfl).1,fun k=>⟨((f0 rfl).2.1 k).1,((f0 rfl).2.1 k).2.less (fun b q=>.inl q)⟩,(f0 rfl).2.2.1⟩
  have K6:=hd t0;have c0:=hd f1;have KO:=hd f0.1;have KQ:=hd f0.2.1;have r1:=f0.2.2;clear f1 t0 f0;have R6:=hd K6.1;have x0:=hd (r0.below c0 r0.lt);have n0:=hd (z0.below c0 z0.lt);have z3:=R6.cell 3;simp at z3;cases ok with
  | false=>
   have KP:=hd KO.out;clear KO KQ K6 z3 R6;go_upto_region 5 with fail
   go_wp2_with (refine Bb rfl 48 _ rfl A rfl 48 #[f,V a n c,V l zl d,V e m g] (0,0) _ ?_ Bp rfl Tryz.infoNt ?_;exact x0)
   refine Ax (KC wx (jA b0 c0)) ?_;rintro r w2 ⟨g1,c1,g2,c2,g3,c3,rfl,e2,b2⟩;have o0:=hd (n0.below b2 n0.lt);obtain⟨w8,a0⟩:=nmH (w2.setRow D #[f,V (Q g1 0 I) n c1,V (Q g2 0 I) zl c2,V (Q g3 0 I) m c3]);have q0:H (Row w8 D 48 #[f,V (Q g1 0 I) n c1,V (Q g2 0 I) zl c2,V (Q g3 0 I) m c3]):=by show Row _ _ _ _;rw[a0.out];exact o0.row
   have KF:H (NtE w8 w n N zs m Y g1 c1 (V (Q g2 0 I) zl c2) g3 c3 (fun b=>b<w.1.size)/\Ab w w w8):=by
    have hl:=HL.out;have s0:=m0.size;have s1:=((jA b0 c0)).size;have i1:=e2.lt;have t8:∀ x,x≠D->w8.1[x]?=w2.1[x]?:=fun x hx=>by rw[a0.out];exact Cd _ _ _ _ hx
    refine⟨((e2.turn (by rw[a0.out];simp) (fun b hb hn=>t8 b (fun q=>?_))).base (by omega)).less (fun b k=>by show b<wx.1.size;omega),by rw[a0.out];exact jF (jA m0.out (jA ((jA b0 c0)) b2)) (by omega) _⟩;rcases hn with hn|hn|hn
    .exact hn (by show b<wx.1.size;omega)
    .omega
    .omega
   clear e2 b2 KC;go_wp2_with (refine Bw rfl 48 _ _ rfl D #[f,V (M ⟨g1,0,I⟩) n c1,V (M ⟨g2,0,I⟩) zl c2,V (M ⟨g3,0,I⟩) m c3] rfl rfl 48 #[(),V I 0 0,V I 0 0,V I 0 0] ?_ Tryz.infoNt rfl (by simp[Aq]) ?_;exact o0;rw[<-a0.out])
   obtain⟨p0,p1,p2,p3⟩:=q0.c4 0 1 2 3;simp at p0 p1 p2 p3;exact B7 (v:=Ah #[Ai #[f,V (Q g1 0 I) n c1,V (Q g2 0 I) zl c2,V (Q g3 0 I) m c3],Av]) (by simp[results,Tryz.results19,go_sem,p0,p1,p2,p3]) rfl (by unfold opT;rw[KP.out];exact⟨_,_,_,_,_,_,rfl,KF⟩)
  | true=>
   by_cases cm:mm<=3000
   .have m1:¬ (3000:Int)<(mm:Int):=by omega
    have KP:H (opB f n zs ⟨N,m,Y⟩ o=Aw):=by rw[KO.out,Bf cm];rfl
    obtain⟨w8,a0⟩:=nmH (wx.setRow D #[f,V (Q g1 0 I) n c1,V (Q g2 0 I) zl c2,V (Q g7 0 I) mm c7]);have q0:H (Row w8 D 48 #[f,V (Q g1 0 I) n c1,V (Q g2 0 I) zl c2,V (Q g7 0 I) mm c7]):=by show Row _ _ _ _;rw[a0.out];exact n0.row
    obtain⟨em,eq⟩:=KQ rfl;have KF:H (NtE w8 w n (nxT f n zs ⟨N,m,Y⟩ o).N zs (nxT f n zs ⟨N,m,Y⟩ o).m (nxT f n zs ⟨N,m,Y⟩ o).Y g1 c1 (V (Q g2 0 I) zl c2) g7 c7 (fun b=>b<w.1.size)/\Ab w w w8):=by
     have hl:=HL.out;have s0:=m0.size;have s1:=b0.size;have s2:=c0.size;have i1:=eq.lt;have t8:∀ x,x≠D->w8.1[x]?=wx.1[x]?:=fun x hx=>by rw[a0.out];exact Cd _ _ _ _ hx
     refine⟨((eq.turn (by rw[a0.out];simp) (fun b hb hn=>t8 b (fun q=>?_))).base (by omega)).less (fun b k=>by show b<B1;omega),by rw[a0.out];exact jF (jA m0.out (jA b0 c0)) (by omega) _⟩;rcases hn with hn|hn|hn
     .exact hn (by show b<B1;omega)
     .omega
     .omega
    have KM:=hd em;clear KO KQ K6 KC em eq cm;go_upto_region 6 with fail
    go_wp2_with (first|(refine Bb rfl 48 _ rfl x6 rfl 48 #[f,V (M ⟨g1,0,I⟩) n c1,V (M ⟨g2,0,I⟩) zl c2,V (M ⟨g7,0,I⟩) mm c7] (0,0) _ ?_ Bp rfl Tryz.infoNt ?_;exact R6)|(refine Bw rfl 48 _ _ rfl D #[f,V (M ⟨g1,0,I⟩) n c1,V (M ⟨g2,0,I⟩) zl c2,V (M ⟨g7,0,I⟩) mm c7] rfl rfl 48 #[(),V I 0 0,V I 0 0,V I 0 0] ?_ Tryz.infoNt rfl (by simp[Aq]) ?_;exact n0;rw[<-a0.out]))
    obtain⟨p0,p1,p2,p3⟩:=q0.c4 0 1 2 3;simp at p0 p1 p2 p3;exact B7 (v:=Ah #[Ai #[f,V (Q g1 0 I) n c1,V (Q g2 0 I) zl c2,V (Q g7 0 I) mm c7],Aw]) (by simp[results,Tryz.results19,go_sem,p0,p1,p2,p3]) rfl (by unfold opT;rw[KP.out,A6 rfl];exact⟨_,_,_,_,_,_,(by rw[<-KM.out]),KF⟩)
   .have m1:(3000:Int)<(mm:Int):=by omega
    have KP:H (opB f n zs ⟨N,m,Y⟩ o=Av):=by rw[KO.out,Bg cm];rfl
    clear KO KQ K6 cm;go_upto_region 5 with fail
    go_wp2_with (refine Bb rfl 48 _ rfl A rfl 48 #[f,V a n c,V l zl d,V e m g] (0,0) _ ?_ Bp rfl Tryz.infoNt ?_;exact x0)
    refine Ax (KC wx (jA b0 c0)) ?_;rintro r w2 ⟨g1,c1,g2,c2,g3,c3,rfl,e2,b2⟩;have o0:=hd (n0.below b2 n0.lt);obtain⟨w8,a0⟩:=nmH (w2.setRow D #[f,V (Q g1 0 I) n c1,V (Q g2 0 I) zl c2,V (Q g3 0 I) m c3]);have q0:H (Row w8 D 48 #[f,V (Q g1 0 I) n c1,V (Q g2 0 I) zl c2,V (Q g3 0 I) m c3]):=by show Row _ _ _ _;rw[a0.out];exact o0.row
    have KF:H (NtE w8 w n N zs m Y g1 c1 (V (Q g2 0 I) zl c2) g3 c3 (fun b=>b<w.1.size)/\Ab w w w8):=by
     have hl:=HL.out;have s0:=m0.size;have s1:=((jA b0 c0)).size;have i1:=e2.lt;have t8:∀ x,x≠D->w8.1[x]?=w2.1[x]?:=fun x hx=>by rw[a0.out];exact Cd _ _ _ _ hx
     refine⟨((e2.turn (by rw[a0.out];simp) (fun b hb hn=>t8 b (fun q=>?_))).base (by omega)).less (fun b k=>by show b<wx.1.size;omega),by rw[a0.out];exact jF (jA m0.out (jA ((jA b0 c0)) b2)) (by omega) _⟩;rcases hn with hn|hn|hn
     .exact hn (by show b<wx.1.size;omega)
     .omega
     .omega
    clear e2 b2 KC;go_wp2_with (refine Bw rfl 48 _ _ rfl D #[f,V (M ⟨g1,0,I⟩) n c1,V (M ⟨g2,0,I⟩) zl c2,V (M ⟨g3,0,I⟩) m c3] rfl rfl 48 #[(),V I 0 0,V I 0 0,V I 0 0] ?_ Tryz.infoNt rfl (by simp[Aq]) ?_;exact o0;rw[<-a0.out])
    obtain⟨p0,p1,p2,p3⟩:=q0.c4 0 1 2 3;simp at p0 p1 p2 p3;exact B7 (v:=Ah #[Ai #[f,V (Q g1 0 I) n c1,V (Q g2 0 I) zl c2,V (Q g3 0 I) m c3],Av]) (by simp[results,Tryz.results19,go_sem,p0,p1,p2,p3]) rfl (by unfold opT;rw[KP.out];exact⟨_,_,_,_,_,_,rfl,KF⟩)
 .intro q9 n1 L a9 W S i0;match q9,n1 with
  | 4,_|5,_|6,_|9,_=>
   obtain⟨x6,B1,g1,c1,g2,c2,g3,c3,g7,c7,mm,ok,rfl,hf⟩:=i0;simp only[knT,kn,knN] at S;refine jB rfl (fun _=>rfl) fun K hK=>?_
   simp only[S,jJ];go_simp
   exact hK _ _ ⟨x6,B1,g1,c1,g2,c2,g3,c3,g7,c7,mm,ok,(by simp only[Nat.reduceBEq,Bh,Bq,jJ,S]),hf⟩
  | 0,_=>
   obtain⟨x6,B1,g1,c1,g2,c2,g3,c3,g7,c7,mm,ok,rfl,h0,h1,h2,h3,h4⟩:=i0;obtain⟨e0,e1,e3,e8,-⟩:=S;refine jB rfl (fun _=>rfl) fun K hK=>?_
   refine Fv 48 _ rfl A rfl 48 #[f,V a n c,V l zl d,V e m g] (0,0) _ (r0.below h0 r0.lt) Bp rfl Tryz.infoNt ?_;exact hK _ _ ⟨x6,B1,g1,c1,g2,c2,g3,c3,g7,c7,mm,ok,(by simp[Act.put,jJ]),h0,(ab e1),h2,(ab e8),(ab e3)⟩
  | 1,_=>
   obtain⟨x6,B1,g1,c1,g2,c2,g3,c3,g7,c7,mm,ok,rfl,h0,h1,h2,h3,h4⟩:=i0;obtain⟨d0,e1,e3,e4,e5,e8,-⟩:=S;refine jB rfl (fun _=>rfl) fun K hK=>?_
   simp only[d0,jJ];go_simp
   refine Ax (KC W (jA b0 h0)) ?_;rintro r w9 ⟨g1,c1,g2,c2,g3,c3,rfl,e2,b9⟩;exact hK _ _ ⟨x6,W.1.size,g1,c1,g2,c2,g3,c3,g7,c7,mm,ok,(by simp only[Nat.reduceBEq,Bh,Bq,jJ,jIo,d0,e3,e4,e5]),(jA h0 b9),(fun k0 k1=>⟨e2.less (fun b k=>by rcases k with k|k;exact k;rw[k.2];exact(h2 k.1 e8).1.lt),h0.size,b9.size,fun k=>by have:=(h2 k e8).1.lt;have:=e2.lt;omega⟩),(fun k0 k1=>by have q:=h2 (show L 7=Aw from k0) (show L 8=Av from k1);exact⟨q.1.below b9 q.1.lt,q.2⟩),(ab e8),(ab e3)⟩
  | 2,_=>
   obtain⟨x6,B1,g1,c1,g2,c2,g3,c3,g7,c7,mm,ok,rfl,h0,h1,h2,h3,h4⟩:=i0;obtain⟨e2,e3,e8,-⟩:=S;refine jB rfl (fun _=>rfl) fun K hK=>?_
   refine Fv 50 _ rfl C rfl 50 (opC o (V a9 o.y.p.m c9)) (0,0) _ (y0.below h0 y0.lt) Fk rfl Tryz.infoOp ?_;exact hK _ _ ⟨x6,B1,g1,c1,g2,c2,g3,c3,g7,c7,mm,ok,(by simp[Act.put,jJ]),h0,h1,h2,(ab e8),(ab e3)⟩
  | 3,_=>
   obtain⟨x6,B1,g1,c1,g2,c2,g3,c3,g7,c7,mm,ok,rfl,h0,h1,h2,h3,h4⟩:=i0;obtain⟨d1,d2,e3,e4,e5,e6,e8,e9,-⟩:=S;obtain⟨q1,q2,q3,q4⟩:=h1 d1 e3;have s0:=h0.size;refine jB rfl (fun _=>rfl) fun K hK=>?_
   simp only[d1,d2,jJ];go_simp
   refine Ax (j1 W B1 g1 c1 g2 c2 g3 c3 _ h0 q1 q3 (fun b k=>by rcases k with k|k;omega;rw[k.2];exact(h2 k.1 e8).1.lt)) ?_;rintro r w9 ⟨g7,c7,mm,ok,rfl,t9,ho,hE⟩;exact hK _ _ ⟨x6,B1,g1,c1,g2,c2,g3,c3,g7,c7,mm,ok,(by simp only[Nat.reduceBEq,Bh,Bq,jJ,jIo,d1,d2,e4,e5,e6,e9]),(h0.trans (t9.below (fun x hx=>by have:=q1.lt;have o1:x=g1\/x=g3:=hx;omega) s0)),(fun _=>nf),(fun k0 k1=>by have q:=h2 (show L 7=Aw from k0) (show L 8=Av from k1);have q5:=q4 (show L 7=Aw from k0);exact⟨(t9.block x6 q.1.lt (fun hx=>by have o1:x6=g1\/x6=g3:=hx;omega)).trans q.1,q.2⟩),(ab e8),(fun k0=>⟨ho,fun k=>⟨(hE k).1,(hE k).2.1⟩,q2,fun k k9=>by have h5:=q4 k;have h6:=(hE k9).2.2;have h7:=(h2 k e8).1.lt;omega⟩)⟩
  | 7,_=>
   obtain⟨x6,B1,g1,c1,g2,c2,g3,c3,g7,c7,mm,ok,rfl,h0,h1,h2,h3,h4⟩:=i0;obtain⟨e7,e8,-⟩:=S;refine jB rfl (fun _=>rfl) fun K hK=>?_
   go_simp
   exact hK _ _ ⟨W.1.size,B1,g1,c1,g2,c2,g3,c3,g7,c7,mm,ok,(by simp only[Nat.reduceBEq,Bh,Bq,jJ]),(h0.alloc h0.size _),(fun k0 k1=>by obtain⟨q1,q2,q3,q4⟩:=h1 (show L 1=Aw from k0) (show L 3=Av from k1);have hl:=q1.lt;exact⟨(q1.grow ((Az W.1.size W).alloc (Ay _) _)).less (fun b k=>by rcases k with k|k;exact .inl (.inl k);exact .inr (by have:=k.2;simp;omega)),q2,by simp;omega,fun _=>by omega⟩),(fun k0 k1=>⟨Row.new W _ _,h0.size⟩),(ab e8),(fun k0=>by obtain⟨ho,hE,q2,_⟩:=h4 (show L 3=Aw from k0);exact⟨ho,fun k=>⟨(hE k).1,((hE k).2.grow ((Az W.1.size W).alloc (Ay _) _)).less (fun b k=>by rcases k with k|k;exact .inl (.inl k);exact .inr (by have:=k.2;simp;omega))⟩,q2,fun _ k=>by have:=(hE k).2.lt;omega⟩)⟩
  | 8,_=>
   obtain⟨x6,B1,g1,c1,g2,c2,g3,c3,g7,c7,mm,ok,rfl,h0,h1,h2,h3,h4⟩:=i0;obtain⟨d1,d3,d5,d7,e8,-⟩:=S;obtain⟨r6,l6⟩:=h2 d7 e8;obtain⟨ho,hE,q2,q4⟩:=h4 d3;refine jB rfl (fun _=>rfl) fun K hK=>?_
   simp only[d7,d5,jJ];refine wp_store_row 48 _ _ rfl x6 #[f,V (M ⟨g1,0,I⟩) n c1,V (M ⟨g2,0,I⟩) zl c2,V (M ⟨g7,0,I⟩) mm c7] rfl rfl 48 #[(),V I 0 0,V I 0 0,V I 0 0] r6 Tryz.infoNt rfl (by simp[Aq]) ?_;exact hK _ _ ⟨x6,B1,g1,c1,g2,c2,g3,c3,g7,c7,mm,ok,(by simp[Act.put,jJ,d7,d5]),(jF h0 l6 _),(fun _=>ba d3),(fun _=>nf),(fun k0=>⟨r6.row,l6⟩),(fun k0=>⟨ho,fun k=>⟨(hE k).1,(hE k).2.turn (by simp) (fun b hb hn=>Cd _ _ _ _ (fun q=>by have h5:=q4 d7 k;rcases hn with hn|hn|hn;exact hn (.inr ⟨d7,q⟩);omega;omega))⟩,q2,q4⟩)⟩
  | n9+10,h=>exact Bo h (by omega)
theorem jIa (f:Int) (a:OA) (n c:Nat) (l:OA) (zs:List Int) (d:Nat) (e:OA) (m g:Nat) (N:Nat->Nd) (Y:Nat->Sy) (o:Op9) (a9:OA) (c9:Nat) (w:Ad) (h1:Rd w (qR n N) (V a n c)) (h2:jH w l zs.length zs) (h3:Rd w (qI m Y) (V e m g)) (hn:n<=1048576) (hz:zs.length<=1048576) (hm:m<=1048576) (hN:∀ i,i<n->(N i).n<=1048576/\∀ j,j<(N i).n->SlK ((N i).S j)) (hY:∀ i,i<m->SyK (Y i)) (h9:jL w a9 o.y.p.m o.y.p.S) (hO:OpK o):Ak prog 19 #[ntV f (V a n c) (V l zs.length d) (V e m g),opV o (V a9 o.y.p.m c9)] w fun r w'=>∃ g1 c1 g2 c2 g3 c3,r=Ae (Ah #[ntV f (V (Q g1 0 I) n c1) (V (Q g2 0 I) zs.length c2) (V (Q g3 0 I) (doT f n zs ⟨N,m,Y⟩ o).m c3),(doB f n zs ⟨N,m,Y⟩ o)])/\NtE w' w n (doT f n zs ⟨N,m,Y⟩ o).N zs (doT f n zs ⟨N,m,Y⟩ o).m (doT f n zs ⟨N,m,Y⟩ o).Y g1 c1 (V (Q g2 0 I) zs.length c2) g3 c3 (fun b=>b<w.1.size)/\Ab w w w':=by
 unfold doB doT;cases hb:ntB f n N zs m with
 | false=>exact jK7 f a n c l zs d e m g N Y o _ w h1 h2 h3 hn hz hm hN hY hb
 | true=>exact jIb f a n c l zs d e m g N Y o a9 c9 w h1 h2 h3 hn hz hm hN hY h9 hO hb
structure NsB (n:Nat) (T:Ns):Prop where
 m:T.m<=1048576
 k:∀ i,i<n->(T.N i).n<=1048576/\∀ j,j<(T.N i).n->SlK ((T.N i).S j)
 y:∀ i,i<T.m->SyK (T.Y i)
theorem NsG.b {f:Int} {n:Nat} {zs:List Int} {T:Ns} (h:NsG f n zs T):NsB n T:=⟨by have:=h.n10;omega,fun i hi=>⟨by have:=(h.nd hi).2.2.2;omega,h.k i hi⟩,h.y⟩
theorem jSz {f:Int} {n:Nat} {zs:List Int} {T:Ns} {o:Op9} (h:NsB n T) (ho:OpK o):NsB n (doT f n zs T o):=by
 unfold doT;cases e:ntB f n T.N zs T.m with
 | false=>exact h
 | true=>exact(jOo ⟨jGf e,fun i hi=>(h.k i hi).2,h.y⟩ ho).b
theorem jTa {f:Int} {n:Nat} {zs:List Int} {O:Nat->Op9} {T:Ns} (h:NsB n T) {m:Nat} (hO:∀ i,i<m->OpK (O i)):∀ k,k<=m->NsB n (rnT f n zs O T k):=by
 intro k;induction k with
 | zero=>intro _;exact h
 | succ j ih=>intro hj;exact jSz (ih (by omega)) (hO j (by omega))
theorem jDw (f:Int) (a:OA) (n c:Nat) (l:OA) (zs:List Int) (d:Nat) (e:OA) (m g:Nat) (N:Nat->Nd) (Y:Nat->Sy) (oa:OA) (mo co:Nat) (w:Ad) (h1:Rd w (qR n N) (V a n c)) (h2:jH w l zs.length zs) (h3:Rd w (qI m Y) (V e m g)) (hn:n<=1048576) (hz:zs.length<=1048576) (hm:m<=1048576) (hN:∀ i,i<n->(N i).n<=1048576/\∀ j,j<(N i).n->SlK ((N i).S j)) (hY:∀ i,i<m->SyK (Y i)) (u0:300<mo):Ak prog 36 #[ntV f (V a n c) (V l zs.length d) (V e m g),V oa mo co] w fun r w'=>∃ g1 c1 g2 c2 g3 c3,r=Ae (ntV f (V (Q g1 0 I) n c1) (V (Q g2 0 I) zs.length c2) (V (Q g3 0 I) ((⟨N,m,Y⟩:Ns)).m c3))/\NtE w' w n ((⟨N,m,Y⟩:Ns)).N zs ((⟨N,m,Y⟩:Ns)).m ((⟨N,m,Y⟩:Ns)).Y g1 c1 (V (Q g2 0 I) zs.length c2) g3 c3 (fun b=>b<w.1.size)/\Ab w w w':=by
 obtain⟨A,HA⟩:=nmH w.1.size;obtain⟨D,HD⟩:=nmH (w.1.size+1);obtain⟨w0,b0⟩:=nmH ((w.alloc (J #[f,V a n c,V l zs.length d,V e m g] 48)).alloc (J #[(),V I 0 0,V I 0 0,V I 0 0] 48));have RA:=xS b0 HA;have RD:=zR b0 HD;have d0:=bl2 b0;have e0:=hd d0;have HL:H (w.1.size<=A/\A<D/\D<w0):=⟨by have:=HA.out;omega,by have h1:=HA.out;have h2:=HD.out;omega,RD.out.lt⟩;have KC:H (Ak prog 69 #[Ai #[f,V a n c,V l zs.length d,V e m g]] w0 fun r w'=>∃ g1 c1 g2 c2 g3 c3,r=Ae (ntV f (V (Q g1 0 I) n c1) (V (Q g2 0 I) zs.length c2) (V (Q g3 0 I) m c3))/\NtE w' w0 n N zs m Y g1 c1 (V (Q g2 0 I) zs.length c2) g3 c3 (fun b=>b<w0.1.size)/\Ab w0 w0 w'):=by
  refine(JN f a n c l zs d e m g N Y w0 (h1.below d0) (h2.below d0) (h3.below d0) hn hz hm (fun i hi=>⟨(hN i hi).1,fun j hj=>((hN i hi).2 j hj).s⟩) (fun i hi=>(hY i hi).m)).mono ?_;rintro r w' ⟨g1,c1,g2,c2,g3,c3,F1,F2,F3,rfl,o,hl,b⟩;exact⟨g1,c1,g2,c2,g3,c3,rfl,NtE.of o (fun x hx k=>by have:=(hl x hx).1;omega),b⟩
 obtain⟨zl,i0⟩:=nnH zs.length;rw[i0.out] at KC RA b0 |-;have t0:(300:Int)<(mo:Int):=by omega
 go_enter func36,ntmps36
 go_upto_region 1 with fail
 rw[<-b0.out,<-HD.out,<-HA.out];go_wp2_with (refine Bb rfl 48 _ rfl A rfl 48 #[f,V a n c,V l zl d,V e m g] (0,0) _ ?_ Bp rfl Tryz.infoNt ?_;exact RA)
 refine Ax KC.out ?_;rintro r w1 ⟨g1,c1,g2,c2,g3,c3,rfl,e1,b1⟩;have h0:=hd (RA.below b1 RA.lt);have n0:=RD.below b1 RD.lt;obtain⟨w2,a0⟩:=nmH (w1.setRow A #[f,V (Q g1 0 I) n c1,V (Q g2 0 I) zl c2,V (Q g3 0 I) m c3]);have m0:=(rr a0 h0).out;have t2:∀ x,x≠A->w2.1[x]?=w1.1[x]?:=fun x hx=>by rw[a0.out];exact Cd _ _ _ _ hx
 have o0:=(t2 D (by have:=HL.out;omega)).trans n0;have q0:=e1.lt;have E2:=e1.turn (by rw[a0.out];simp) (fun b hb hn=>t2 b (fun q=>by have hl:=HL.out;rcases hn with hn|hn|hn;exact hn (by show b<w0.1.size;omega);omega;omega));have B2:Ab w w w2:=by rw[a0.out];exact jF (jA e0 b1) HL.1 _
 have S2:w0.1.size<=w2.1.size:=by have:=b1.size;rw[a0.out];simpa using this
 have j0:=hd m0;have f0:=hd o0;have g0:=hd E2;have k0:=hd B2;obtain⟨w8,c0⟩:=nmH (w2.setRow D #[f,V (Q g1 0 I) n c1,V (Q g2 0 I) zl c2,V (Q g3 0 I) m c3]);have p0:=rr c0 f0;have KF:H (NtE w8 w n (⟨N,m,Y⟩:Ns).N zs (⟨N,m,Y⟩:Ns).m (⟨N,m,Y⟩:Ns).Y g1 c1 (V (Q g2 0 I) zl c2) g3 c3 (fun b=>b<w.1.size)/\Ab w w w8):=by
  have hl:=HL.out;have s0:=e0.size;have r0:=g0.lt;have t8:∀ x,x≠D->w8.1[x]?=w2.1[x]?:=fun x hx=>by rw[c0.out];exact Cd _ _ _ _ hx
  refine⟨((g0.turn (by rw[c0.out];simp) (fun b hb hn=>t8 b (fun q=>?_))).base (by omega)).less (fun b k=>by show b<w0.1.size;omega),by rw[c0.out];exact jF k0.out (by omega) _⟩;rcases hn with hn|hn|hn
  .exact hn (by show b<w0.1.size;omega)
  .omega
  .omega
 go_wp2_with (first|(refine Bw rfl 48 _ _ rfl A #[f,V (M ⟨g1,0,I⟩) n c1,V (M ⟨g2,0,I⟩) zl c2,V (M ⟨g3,0,I⟩) m c3] rfl rfl 48 #[f,V a n c,V l zl d,V e m g] ?_ Tryz.infoNt rfl (by simp[Aq]) ?_;exact h0;rw[<-a0.out])|(refine Bb rfl 48 _ rfl A rfl 48 #[f,V (M ⟨g1,0,I⟩) n c1,V (M ⟨g2,0,I⟩) zl c2,V (M ⟨g3,0,I⟩) m c3] (0,0) _ ?_ Bp rfl Tryz.infoNt ?_;exact j0)|(refine Bw rfl 48 _ _ rfl D #[f,V (M ⟨g1,0,I⟩) n c1,V (M ⟨g2,0,I⟩) zl c2,V (M ⟨g3,0,I⟩) m c3] rfl rfl 48 #[(),V I 0 0,V I 0 0,V I 0 0] ?_ Tryz.infoNt rfl (by simp[Aq]) ?_;exact f0;rw[<-c0.out]))
 exact B7 (v:=Ai #[f,V (Q g1 0 I) n c1,V (Q g2 0 I) zl c2,V (Q g3 0 I) m c3]) (Ck results36 _ _ D 48 _ (0,0) _ rfl p0 Bp rfl Tryz.infoNt) rfl ⟨_,_,_,_,_,_,rfl,KF⟩
theorem jB6 (f:Int) (a:OA) (n c:Nat) (l:OA) (zs:List Int) (d:Nat) (e:OA) (m g:Nat) (N:Nat->Nd) (Y:Nat->Sy) (oa:OA) (mo co:Nat) (O:Nat->Op9) (w:Ad) (h1:Rd w (qR n N) (V a n c)) (h2:jH w l zs.length zs) (h3:Rd w (qI m Y) (V e m g)) (hn:n<=1048576) (hz:zs.length<=1048576) (hm:m<=1048576) (hN:∀ i,i<n->(N i).n<=1048576/\∀ j,j<(N i).n->SlK ((N i).S j)) (hY:∀ i,i<m->SyK (Y i)) (h9:Rd w (JK mo O) (V oa mo co)) (hO:∀ i,i<mo->OpK (O i)) (p2:mo<=300):Ak prog 36 #[ntV f (V a n c) (V l zs.length d) (V e m g),V oa mo co] w fun r w'=>∃ g1 c1 g2 c2 g3 c3,r=Ae (ntV f (V (Q g1 0 I) n c1) (V (Q g2 0 I) zs.length c2) (V (Q g3 0 I) (rnT f n zs O ⟨N,m,Y⟩ mo).m c3))/\NtE w' w n (rnT f n zs O ⟨N,m,Y⟩ mo).N zs (rnT f n zs O ⟨N,m,Y⟩ mo).m (rnT f n zs O ⟨N,m,Y⟩ mo).Y g1 c1 (V (Q g2 0 I) zs.length c2) g3 c3 (fun b=>b<w.1.size)/\Ab w w w':=by
 obtain⟨A,HA⟩:=nmH w.1.size;obtain⟨D,HD⟩:=nmH (w.1.size+1);obtain⟨w0,i0⟩:=nmH ((w.alloc (J #[f,V a n c,V l zs.length d,V e m g] 48)).alloc (J #[(),V I 0 0,V I 0 0,V I 0 0] 48));have RA:=xS i0 HA;have RD:=zR i0 HD;have n0:=bl2 i0;have q0:=hd n0;have HL:H (w.1.size<=A/\A<D/\D<w0):=⟨by have:=HA.out;omega,by have h1:=HA.out;have h2:=HD.out;omega,RD.out.lt⟩;have KC:H (Ak prog 69 #[Ai #[f,V a n c,V l zs.length d,V e m g]] w0 fun r w'=>∃ g1 c1 g2 c2 g3 c3,r=Ae (ntV f (V (Q g1 0 I) n c1) (V (Q g2 0 I) zs.length c2) (V (Q g3 0 I) m c3))/\NtE w' w0 n N zs m Y g1 c1 (V (Q g2 0 I) zs.length c2) g3 c3 (fun b=>b<w0.1.size)/\Ab w0 w0 w'):=by
  refine(JN f a n c l zs d e m g N Y w0 (h1.below n0) (h2.below n0) (h3.below n0) hn hz hm (fun i hi=>⟨(hN i hi).1,fun j hj=>((hN i hi).2 j hj).s⟩) (fun i hi=>(hY i hi).m)).mono ?_;rintro r w' ⟨g1,c1,g2,c2,g3,c3,F1,F2,F3,rfl,o,hl,b⟩;exact⟨g1,c1,g2,c2,g3,c3,rfl,NtE.of o (fun x hx k=>by have:=(hl x hx).1;omega),b⟩
 obtain⟨zl,p0⟩:=nnH zs.length;obtain⟨R,HR⟩:=nnH (rnT f n zs O ⟨N,m,Y⟩);have o1:H (∀ k,k<=mo->NsB n (R k)):=by rw[<-HR.out];exact fun k hk=>jTa ⟨hm,hN,hY⟩ hO k hk
 have t1:H (R 0=⟨N,m,Y⟩):=by rw[<-HR.out];rfl
 have x1:H (∀ k,doT f n zs (R k) (O k)=R (k+1)):=by rw[<-HR.out];exact fun k=>rfl
 have K9:=hd h9;have KO:H (∀ i,i<mo->OpK (O i)):=hO;rw[p0.out] at KC RA i0 |-;rw[HR.out];obtain⟨T9,x0⟩:=nnH (R mo);rw[x0.out];have o2:¬ (300:Int)<(mo:Int):=by omega
 go_enter func36,ntmps36
 go_upto_region 1 with fail
 rw[<-i0.out,<-HD.out,<-HA.out];go_wp2_with (refine Bb rfl 48 _ rfl A rfl 48 #[f,V a n c,V l zl d,V e m g] (0,0) _ ?_ Bp rfl Tryz.infoNt ?_;exact RA)
 refine Ax KC.out ?_;rintro r w1 ⟨u1,v1,u2,v2,u3,v3,rfl,e1,b1⟩;have z0:=hd (RA.below b1 RA.lt);have b2:=RD.below b1 RD.lt;obtain⟨w2,c0⟩:=nmH (w1.setRow A #[f,V u1 n v1,V u2 zl v2,V u3 m v3]);have a2:=(rr c0 z0).out;have t2:∀ x,x≠A->w2.1[x]?=w1.1[x]?:=fun x hx=>by rw[c0.out];exact Cd _ _ _ _ hx
 have f2:=(t2 D (by have:=HL.out;omega)).trans b2;have n2:=e1.lt;have E2:=e1.turn (by rw[c0.out];simp) (fun b hb hn=>t2 b (fun q=>by have hl:=HL.out;rcases hn with hn|hn|hn;exact hn (by show b<w0.1.size;omega);omega;omega));have B2:Ab w w w2:=by rw[c0.out];exact jF (jA q0 b1) HL.1 _
 have S2:w0.1.size<=w2.1.size:=by have:=b1.size;rw[c0.out];simpa using this
 have KI:H (∃ g1 c1 g2 c2 g3 c3,Row w2 A 48 #[f,V (Q g1 0 I) n c1,V (Q g2 0 I) zl c2,V (Q g3 0 I) (R 0).m c3]/\NtE w2 w0 n (R 0).N zs (R 0).m (R 0).Y g1 c1 (V (Q g2 0 I) zl c2) g3 c3 (fun b=>b<w0.1.size)/\Row w2 D 48 #[(),V I 0 0,V I 0 0,V I 0 0]/\Ab w w w2/\w0.1.size<=w2.1.size):=by
  rw[t1.out];exact⟨u1,v1,u2,v2,u3,v3,a2,E2,f2,B2,S2⟩
 go_wp2_with (refine Bw rfl 48 _ _ rfl A #[f,V u1 n v1,V u2 zl v2,V u3 m v3] rfl rfl 48 #[f,V a n c,V l zl d,V e m g] ?_ Tryz.infoNt rfl (by simp[Aq]) ?_;exact z0;rw[<-c0.out])
 rw[show decide ((300:Int)<(mo:Int))=Av from Bg (by omega)];go_loopw [5] (fun vi wr=>∃ k:Nat,k<=mo/\vi=Ao Ar (k:Int)/\H (∃ g1 c1 g2 c2 g3 c3,Row wr A 48 #[f,V (Q g1 0 I) n c1,V (Q g2 0 I) zl c2,V (Q g3 0 I) (R k).m c3]/\NtE wr w0 n (R k).N zs (R k).m (R k).Y g1 c1 (V (Q g2 0 I) zl c2) g3 c3 (fun b=>b<w0.1.size)/\Row wr D 48 #[(),V I 0 0,V I 0 0,V I 0 0]/\Ab w w wr/\w0.1.size<=wr.1.size)) (fun vi _=>mo-(intOf vi).toNat)
 case atStart=>exact⟨0,Bi _,rfl,KI⟩
 case round=>
  obtain⟨k,hk,rfl,HI⟩:=hrel;by_cases o0:k<mo
  .have k2:(k:Int)<(mo:Int):=by omega
   obtain⟨g1,c1,g2,c2,g3,c3,rA,eK,rD,bK,sK⟩:=HI.out;obtain⟨tm,j0⟩:=nnH ((R k).m);obtain⟨T1,v0⟩:=nnH (R (k+1));obtain⟨bo,fo,a9,c9,eo,i1,t9⟩:=jMw K9 o0;subst eo;obtain⟨o,HO⟩:=nnH (O k);rw[HO.out] at i1 t9;have RO:H (∀ W,Ab wr.1.size wr W->W.rangeAt bo (fo+k*13) (opC o (V a9 o.y.p.m c9)).toList):=fun W hW j v hv=>by
    have:=i1 j v hv
    exact((jA bK hW).cell (A7 this)).trans this
   obtain⟨ok,n1⟩:=nnH (doB f n zs (R k) o);have r1:H (∀ W,Ab wr.1.size wr W->Ak prog 19 #[Ai #[f,V (Q g1 0 I) n c1,V (Q g2 0 I) zl c2,V (Q g3 0 I) tm c3],Ai (opC o (V a9 o.y.p.m c9))] W fun r w'=>∃ y1 z1 y2 z2 y3 z3,r=Ae (Ah #[Ai #[f,V (Q y1 0 I) n z1,V (Q y2 0 I) zl z2,V (Q y3 0 I) T1.m z3],ok])/\NtE w' W.1.size n T1.N zs T1.m T1.Y y1 z1 (V (Q y2 0 I) zl z2) y3 z3 (fun b=>b<W.1.size)/\Ab W.1.size W w'):=fun W hW=>by
    have bd:=o1 k hk;have eW:=eK.below hW;have:=jIa f (Q g1 0 I) n c1 (Q g2 0 I) zs c2 (Q g3 0 I) (R k).m c3 (R k).N (R k).Y o a9 c9 W eW.rdN (qL.1 (by rw[p0.out];exact eW.z.rd)) eW.rdY hn hz bd.m bd.k bd.y ((t9.below bK).below hW) (by rw[<-HO.out];exact KO k o0)
    have e1:doT f n zs (R k) o=T1:=by rw[<-HO.out,x1.out,v0.out]
    rw[show (⟨(R k).N,(R k).m,(R k).Y⟩:Ns)=R k from rfl,e1,n1.out,p0.out,j0.out] at this;exact this
   rw[j0.out] at rA;have f0:=hd rA;have m0:H (Row wr D 48 #[(),V I 0 0,V I 0 0,V I 0 0]/\Ab w w wr/\w0.1.size<=wr.1.size):=⟨rD,bK,sK⟩;go_upto_region 7 with fail
   refine JP Tryz.mixed 12 [([],[0,5,10]),([],[5,10]),([],[5,10]),([1,2],[5,10]),([3],[4,5,10]),([0,4],[5,6,7,8,10,11]),([5],[10]),([5,6],[10]),([5,6],[]),([],[9,10]),([5,7,9],[10]),([5,8],[])] (by kernel_rfl) (fun L A9 W=>∃ (x6:Nat) (y1:Nat) (z1:Nat) (y2:Nat) (z2:Nat) (y3:Nat) (z3:Nat),A9=⟨(List.toArray (α:=Aj) ((ntV f (V a n c) (V l zl d) (V e m g))::(V (Q bo fo I) mo co)::(Af A)::undef::(Af D)::((k:Int))::(cX (L 9) (Af x6) u6)::(cX (L 11) ok u7)::(Ai #[f,V a n c,V l zl d,V e m g])::(ntV f (V u1 n v1) (V u2 zl v2) (V u3 m v3))::(V (Q bo fo I) mo co)::((mo:Int))::(Av)::undef::((k:Int))::(V (Q bo fo I) mo co)::((mo:Int))::(Aw)::u18::u19::(cX (L 6) (Ah #[Ai #[f,V (Q y1 0 I) n z1,V (Q y2 0 I) zl z2,V (Q y3 0 I) T1.m z3],ok]) u20)::(cX (L 0) (Ai #[f,V (Q g1 0 I) n c1,V (Q g2 0 I) zl c2,V (Q g3 0 I) tm c3]) u21)::(cX (L 1) (V (Q bo fo I) mo co) u22)::(cX (L 2) (k:Int) u23)::(cX (L 3) (Af (Q bo (fo+k*13) I)) u24)::(cX (L 4) (Ai (opC o (V a9 o.y.p.m c9))) u25)::(cX (L 5) (Ah #[Ai #[f,V (Q y1 0 I) n z1,V (Q y2 0 I) zl z2,V (Q y3 0 I) T1.m z3],ok]) u26)::(cX (L 7) (Ai #[f,V (Q y1 0 I) n z1,V (Q y2 0 I) zl z2,V (Q y3 0 I) T1.m z3]) u27)::(cX (L 8) ok u28)::u29::undef::[])),[]⟩/\(Ab wr.1.size wr W)/\(L 9=Aw->L 10=Av->Row W x6 48 #[(),V I 0 0,V I 0 0,V I 0 0]/\wr.1.size<=x6)/\(L 10=Aw->Row W x6 48 #[f,V (Q y1 0 I) n z1,V (Q y2 0 I) zl z2,V (Q y3 0 I) T1.m z3]/\wr.1.size<=x6)/\(L 5=Aw->NtE W wr.1.size n T1.N zs T1.m T1.Y y1 z1 (V (Q y2 0 I) zl z2) y3 z3 (fun b=>b<wr.1.size\/(L 9=Aw/\b=x6))/\(L 9=Aw->x6≠y1/\x6≠y3))) ?_ ?_ ?_
   .exact⟨0,0,0,0,0,0,0,rfl,jD _,(fun h=>by cases h),(fun h=>by cases h),(fun h=>by cases h)⟩
   .rintro a9 wx ⟨x6,y1,z1,y2,z2,y3,z3,j1,m1,-,t0,u0⟩;simp only[Nat.reduceLT,Dp,jJ] at j1;subst j1;replace t0:=(t0 rfl)
    replace u0:NtE wx wr.1.size n T1.N zs T1.m T1.Y y1 z1 (V (Q y2 0 I) zl z2) y3 z3 (fun b=>b<wr.1.size):=(u0 rfl).1.less (fun b q=>.inl q)
    have K6:=hd t0.1;have r0:=hd m1;have KQ:=hd u0;have a1:=hd (f0.below m1 f0.lt);obtain⟨w8,a0⟩:=nmH (wx.setRow A #[f,V (Q y1 0 I) n z1,V (Q y2 0 I) zl z2,V (Q y3 0 I) T1.m z3]);have HI8:H (∃ g1 c1 g2 c2 g3 c3,Row w8 A 48 #[f,V (Q g1 0 I) n c1,V (Q g2 0 I) zl c2,V (Q g3 0 I) (R (k+1)).m c3]/\NtE w8 w0 n (R (k+1)).N zs (R (k+1)).m (R (k+1)).Y g1 c1 (V (Q g2 0 I) zl c2) g3 c3 (fun b=>b<w0.1.size)/\Row w8 D 48 #[(),V I 0 0,V I 0 0,V I 0 0]/\Ab w w w8/\w0.1.size<=w8.1.size):=by
     have hl:=HL.out;have s0:=q0.size;have s1:=m0.2.2;have s2:=r0.size;have o0:=KQ.lt;have t8:∀ x,x≠A->w8.1[x]?=wx.1[x]?:=fun x hx=>by rw[a0.out];exact Cd _ _ _ _ hx
     rw[v0.out];refine⟨y1,z1,y2,z2,y3,z3,by rw[a0.out];exact a1.row,((KQ.turn (by rw[a0.out];simp) (fun b hb hn=>t8 b (fun q=>?_))).base s1).less (fun b q=>by have q2:b<w0.1.size:=q;show b<wr.1.size;omega),(t8 D (by omega)).trans (m0.out.1.below r0.out m0.out.1.lt),by rw[a0.out];exact jF (jA m0.2.1 r0) (by omega) _,by rw[a0.out];simp;omega⟩;rcases hn with hn|hn|hn
     .exact hn (by show b<wr.1.size;omega)
     .omega
     .omega
    go_wp2_with (first|(refine Bb rfl 48 _ rfl x6 rfl 48 #[f,V (M ⟨y1,0,I⟩) n z1,V (M ⟨y2,0,I⟩) zl z2,V (M ⟨y3,0,I⟩) T1.m z3] (0,0) _ ?_ Bp rfl Tryz.infoNt ?_;exact K6)|(refine Bw rfl 48 _ _ rfl A #[f,V (M ⟨y1,0,I⟩) n z1,V (M ⟨y2,0,I⟩) zl z2,V (M ⟨y3,0,I⟩) T1.m z3] rfl rfl 48 #[f,V (M ⟨g1,0,I⟩) n c1,V (M ⟨g2,0,I⟩) zl c2,V (M ⟨g3,0,I⟩) tm c3] ?_ Tryz.infoNt rfl (by simp[Aq]) ?_;exact a1;rw[<-a0.out]))
    go_roundw
    case rel=>exact⟨k+1,by omega,by go_num,HI8.out⟩
    case measure=>simp[intOf];omega
   .intro q9 m2 L a9 W S g0;match q9,m2 with
    | 1,_|2,_|3,_|6,_|7,_|8,_|11,_=>
     obtain⟨x6,y1,z1,y2,z2,y3,z3,rfl,hf⟩:=g0;simp only[knT,kn,knN] at S;refine jB rfl (fun _=>rfl) fun K hK=>?_
     try simp only[S,jJ]
     go_simp
     exact hK _ _ ⟨x6,y1,z1,y2,z2,y3,z3,(by simp only[Nat.reduceBEq,Bh,Bq,jJ,S]),hf⟩
    | 0,_=>
     obtain⟨x6,y1,z1,y2,z2,y3,z3,rfl,h0,h1,h2,h3⟩:=g0;obtain⟨e0,e5,b0,-⟩:=S;refine jB rfl (fun _=>rfl) fun K hK=>?_
     refine Fv 48 _ rfl A rfl 48 #[f,V (M ⟨g1,0,I⟩) n c1,V (M ⟨g2,0,I⟩) zl c2,V (M ⟨g3,0,I⟩) tm c3] (0,0) _ (f0.below h0 f0.lt) Bp rfl Tryz.infoNt ?_;exact hK _ _ ⟨x6,y1,z1,y2,z2,y3,z3,(by simp[Act.put,jJ]),h0,h1,(ab b0),(ab e5)⟩
    | 4,_=>
     obtain⟨x6,y1,z1,y2,z2,y3,z3,rfl,h0,h1,h2,h3⟩:=g0;obtain⟨d3,e4,e5,b0,-⟩:=S;refine jB rfl (fun _=>rfl) fun K hK=>?_
     simp only[d3,jJ];refine Gu 50 _ rfl bo (fo+k*13) rfl (opC o (V a9 o.y.p.m c9)).toList _ (RO W h0) Fk rfl Tryz.infoOp ?_;exact hK _ _ ⟨x6,y1,z1,y2,z2,y3,z3,(by simp[Act.put,jJ,d3]),h0,h1,(ab b0),(ab e5)⟩
    | 5,_=>
     obtain⟨x6,y1,z1,y2,z2,y3,z3,rfl,h0,h1,h2,h3⟩:=g0;obtain⟨d0,d4,e5,e6,e7,e8,b0,j2,-⟩:=S;refine jB rfl (fun _=>rfl) fun K hK=>?_
     simp only[d0,d4,jJ];go_simp
     refine Ax (r1 W h0) ?_;rintro r w9 ⟨y1,z1,y2,z2,y3,z3,rfl,e2,b9⟩;exact hK _ _ ⟨x6,y1,z1,y2,z2,y3,z3,(by simp only[Nat.reduceBEq,Bh,Bq,jJ,jIo,d0,d4,e6,e7,e8,j2]),(jA h0 b9),(fun k0 k1=>by have q:=h1 (show L 9=Aw from k0) (show L 10=Av from k1);exact⟨q.1.below b9 q.1.lt,q.2⟩),(ab b0),(fun k0=>⟨(e2.base h0.size).less (fun b q=>by have s0:=h0.size;rcases q with q|q;show b<W.1.size;omega;rw[q.2];exact(h1 q.1 b0).1.lt),fun q=>by have q5:=(h1 q b0).1.lt;have q6:=e2.lt;omega⟩)⟩
    | 9,_=>
     obtain⟨x6,y1,z1,y2,z2,y3,z3,rfl,h0,h1,h2,h3⟩:=g0;obtain⟨e9,b0,-⟩:=S;refine jB rfl (fun _=>rfl) fun K hK=>?_
     go_simp
     exact hK _ _ ⟨W.1.size,y1,z1,y2,z2,y3,z3,(by simp only[Nat.reduceBEq,Bh,Bq,jJ]),(h0.alloc h0.size _),(fun k0 k1=>⟨Row.new W _ _,h0.size⟩),(ab b0),(fun k0=>by obtain⟨q1,_⟩:=h3 (show L 5=Aw from k0);have hl:=q1.lt;exact⟨(q1.grow ((Az W.1.size W).alloc (Ay _) _)).less (fun b q=>by rcases q with q|q;exact .inl (.inl q);exact .inr (by have:=q.2;simp;omega)),fun _=>by omega⟩)⟩
    | 10,_=>
     obtain⟨x6,y1,z1,y2,z2,y3,z3,rfl,h0,h1,h2,h3⟩:=g0;obtain⟨d5,d7,d9,b0,-⟩:=S;obtain⟨r6,l6⟩:=h1 d9 b0;obtain⟨q1,q4⟩:=h3 d5;refine jB rfl (fun _=>rfl) fun K hK=>?_
     simp only[d9,d7,jJ];refine wp_store_row 48 _ _ rfl x6 #[f,V (M ⟨y1,0,I⟩) n z1,V (M ⟨y2,0,I⟩) zl z2,V (M ⟨y3,0,I⟩) T1.m z3] rfl rfl 48 #[(),V I 0 0,V I 0 0,V I 0 0] r6 Tryz.infoNt rfl (by simp[Aq]) ?_;exact hK _ _ ⟨x6,y1,z1,y2,z2,y3,z3,(by simp[Act.put,jJ,d9,d7]),(jF h0 l6 _),(fun _=>nf),(fun k0=>⟨r6.row,l6⟩),(fun k0=>⟨q1.turn (by simp) (fun b hb hn=>Cd _ _ _ _ (fun q=>by have h5:=q4 d9;rcases hn with hn|hn|hn;exact hn (.inr ⟨d9,q⟩);omega;omega)),q4⟩)⟩
    | n9+12,h=>exact Bo h (by omega)
  .obtain rfl:k=mo:=by omega
   have k2:¬ (k:Int)<(k:Int):=by omega
   rw[x0.out] at HI;obtain⟨g1,c1,g2,c2,g3,c3,rA,eK,rD,bK,sK⟩:=HI.out;obtain⟨tm,j0⟩:=nnH T9.m;rw[j0.out] at rA;have f0:=hd rA;have f1:=hd rD;have y0:=hd eK;have p1:=hd bK;go_upto_region 9 with fail
   obtain⟨w8,a0⟩:=nmH (wr.setRow D #[f,V (Q g1 0 I) n c1,V (Q g2 0 I) zl c2,V (Q g3 0 I) tm c3]);have i2:H (Row w8 D 48 #[f,V (Q g1 0 I) n c1,V (Q g2 0 I) zl c2,V (Q g3 0 I) tm c3]):=by show Row _ _ _ _;rw[a0.out];exact f1.row
   have KF:H (NtE w8 w n T9.N zs T9.m T9.Y g1 c1 (V (Q g2 0 I) zl c2) g3 c3 (fun b=>b<w.1.size)/\Ab w w w8):=by
    have hl:=HL.out;have s0:=q0.size;have o0:=y0.lt;have t8:∀ x,x≠D->w8.1[x]?=wr.1[x]?:=fun x hx=>by rw[a0.out];exact Cd _ _ _ _ hx
    refine⟨((y0.turn (by rw[a0.out];simp) (fun b hb hn=>t8 b (fun q=>?_))).base (by omega)).less (fun b k=>by show b<w0.1.size;omega),by rw[a0.out];exact jF p1.out (by omega) _⟩;rcases hn with hn|hn|hn
    .exact hn (by show b<w0.1.size;omega)
    .omega
    .omega
   go_wp2_with (first|(refine Bb rfl 48 _ rfl A rfl 48 #[f,V (M ⟨g1,0,I⟩) n c1,V (M ⟨g2,0,I⟩) zl c2,V (M ⟨g3,0,I⟩) tm c3] (0,0) _ ?_ Bp rfl Tryz.infoNt ?_;exact f0)|(refine Bw rfl 48 _ _ rfl D #[f,V (M ⟨g1,0,I⟩) n c1,V (M ⟨g2,0,I⟩) zl c2,V (M ⟨g3,0,I⟩) tm c3] rfl rfl 48 #[(),V I 0 0,V I 0 0,V I 0 0] ?_ Tryz.infoNt rfl (by simp[Aq]) ?_;exact f1;rw[<-a0.out]))
   exact B7 (v:=Ai #[f,V (Q g1 0 I) n c1,V (Q g2 0 I) zl c2,V (Q g3 0 I) tm c3]) (Ck results36 _ _ D 48 _ (0,0) _ rfl i2 Bp rfl Tryz.infoNt) rfl ⟨_,_,_,_,_,_,(by rw[j0.out]),KF⟩
theorem jFf (f:Int) (a:OA) (n c:Nat) (l:OA) (zs:List Int) (d:Nat) (e:OA) (m g:Nat) (N:Nat->Nd) (Y:Nat->Sy) (oa:OA) (mo co:Nat) (O:Nat->Op9) (w:Ad) (h1:Rd w (qR n N) (V a n c)) (h2:jH w l zs.length zs) (h3:Rd w (qI m Y) (V e m g)) (hn:n<=1048576) (hz:zs.length<=1048576) (hm:m<=1048576) (hN:∀ i,i<n->(N i).n<=1048576/\∀ j,j<(N i).n->SlK ((N i).S j)) (hY:∀ i,i<m->SyK (Y i)) (h9:Rd w (JK mo O) (V oa mo co)) (hO:∀ i,i<mo->OpK (O i)):Ak prog 36 #[ntV f (V a n c) (V l zs.length d) (V e m g),V oa mo co] w fun r w'=>∃ g1 c1 g2 c2 g3 c3,r=Ae (ntV f (V (Q g1 0 I) n c1) (V (Q g2 0 I) zs.length c2) (V (Q g3 0 I) (jGs f n zs mo O ⟨N,m,Y⟩).m c3))/\NtE w' w n (jGs f n zs mo O ⟨N,m,Y⟩).N zs (jGs f n zs mo O ⟨N,m,Y⟩).m (jGs f n zs mo O ⟨N,m,Y⟩).Y g1 c1 (V (Q g2 0 I) zs.length c2) g3 c3 (fun b=>b<w.1.size)/\Ab w w w':=by
 unfold jGs;by_cases h300:mo<=300
 .rw[A6 h300];exact jB6 f a n c l zs d e m g N Y oa mo co O w h1 h2 h3 hn hz hm hN hY h9 hO h300
 .rw[A5 h300];exact jDw f a n c l zs d e m g N Y oa mo co w h1 h2 h3 hn hz hm hN hY (by omega)
theorem jKw {W:Ad} {b:OA} {L d k:Nat} (h:Rd W (inD (jW k L)) (V b L d)):jH W b L (jW k L):=by
 have e:(jW k L).length=L:=by unfold jW eI;simp
 have h':Rd W (inD (jW k L)) (V b (jW k L).length d):=by rw[e];exact h
 have:=qL.1 h'
 rw[e] at this;exact this
structure NtR (W:Ad) (E:Nat->Prop) (n:Nat) (N:Nat->Nd) (zs:List Int) (m:Nat) (Y:Nat->Sy) (v1 v2 v3:Aj):Prop where
 n:Rf W E (qR n N) v1
 z:Rf W E (inD zs) v2
 y:Rf W E (qI m Y) v3
section
variable {W W':World} {E E':Nat->Prop} {n m:Nat} {N:Nat->Nd} {zs:List Int} {Y:Nat->Sy} {v1 v2 v3:Value}
theorem NtR.below (h:NtR W E n N zs m Y v1 v2 v3) (hb:Ab W W W'):NtR W' E n N zs m Y v1 v2 v3:=⟨h.n.below hb,h.z.below hb,h.y.below hb⟩
theorem NtE.rf {B g1 c1 g3 c3:Nat} (h:NtE W B n N zs m Y g1 c1 v2 g3 c3 (fun b=>b<B)):NtR W (fun b=>b<B) n N zs m Y (V g1 n c1) v2 (V g3 m c3):=by
 have hl:=h.lt;have ht:∀ W',W.1.size<=W'.1.size->(∀ b,¬ (b<B)->b<W.1.size->W'.1[b]?=W.1[b]?)->NtE W' B n N zs m Y g1 c1 v2 g3 c3 (fun b=>b<B):=fun W' hs hk=>h.turn hs (fun b hb hn=>hk b (by rcases hn with hn|hn|hn;exact hn;omega;omega) hb)
 exact⟨fun W' hs hk=>(ht W' hs hk).rdN,fun W' hs hk=>(ht W' hs hk).z.rd,fun W' hs hk=>(ht W' hs hk).rdY⟩
theorem NtQ.rf {B:Nat} {F1 F2 F3:Nat->Prop} (h:NtQ W B n N zs m Y v1 v2 v3 F1 F2 F3):NtR W (fun b=>b<B) n N zs m Y v1 v2 v3:=by
 have ht:∀ W',W.1.size<=W'.1.size->(∀ b,¬ (b<B)->b<W.1.size->W'.1[b]?=W.1[b]?)->NtQ W' B n N zs m Y v1 v2 v3 F1 F2 F3:=fun W' hs hk=>h.turn hs (fun b hb=>hk b (by have:=h.f b hb;omega) (h.f b hb).2)
 exact⟨fun W' hs hk=>(ht W' hs hk).n.rd,fun W' hs hk=>(ht W' hs hk).z.rd,fun W' hs hk=>(ht W' hs hk).y.rd⟩
end
end Go.Proofs.YtcaejlalnjnifaaGreat
