import Derived.Test.YtcaejlalnjnifaaGreatP53
set_option maxHeartbeats 8000000
set_option maxRecDepth 2000
open Go.Value renaming slice->V,pointer->Af,tuple->Ah,agg->Ai,oneCell'->Aq
open Option renaming none->I,some->M
open Go.RowKit renaming Hid->H,Below->Ab
open Go.Addr renaming mk->Q
open Go renaming undef->O,World->Ad,Value->Aj,Calls->Ak
open Go.Obj renaming cells->J
open Go.Ending renaming returned->Ae
open Bool renaming false->Av,true->Aw
open Go.Proofs.Tryz
open Go.ChangeShapes Go.WideShapes Go.ChangeAt Go.RowKit
namespace Go.Proofs.YtcaejlalnjnifaaGreat
theorem NtE.laterG {w w':Ad} {B n:Nat} {N:Nat->Nd} {zs:List Int} {m m':Nat} {Y Y':Nat->Sy} {g1 c1 g3 c3 g c:Nat} {v2:Aj} {cc:Nat->Nat->Aj} {X:Nat->Prop} (h:NtE w B n N zs m Y g1 c1 v2 g3 c3 X) (hs:w.1.size<=w'.1.size) (ht:∀ x,x<w.1.size->x≠g3->w'.1[x]?=w.1[x]?) (ho:w'.ownsRow B 31 10 (V g m' c) m' (cL 10 cc m')) (hg:g=g3\/w.1.size<=g) (hr:∀ i q,i<m'->q<10->Rf w (EX g1 g3 X) (syD (Y' i) q) (cc i q)\/(g1<w->Rf w' (EX g1 g X) (syD (Y' i) q) (cc i q))):NtE w' B n N zs m' Y' g1 c1 v2 g c X:=by
 have up:∀ {d:Dt} {v:Aj},Rf w (EX g1 g3 X) d v->Rf w' (EX g1 g X) d v:=fun r=>(r.since hs (fun b hb hl=>ht b hl (fun e=>hb (.inr (.inl e))))).mono (fun b k=>by
  rcases k with k|k|k
  .exact .inl (.inl k)
  .rcases hg with e|e
   .exact .inl (.inr (.inl (k.trans e)))
   .exact .inr (by omega)
  .exact .inl (.inr (.inr k)))
 obtain⟨cn,h1,h2⟩:=h.o;have l1:=A0 h1 g1 rfl;refine⟨⟨cn,vN h1 hs (ht g1 l1.2 h.d),fun i q hi hq=>up (h2 i q hi hq)⟩,up h.z,⟨cc,ho,fun i q hi hq=>(hr i q hi hq).elim up (fun k=>k l1.2)⟩,fun e=>?_⟩;rcases hg with k|k
 .exact h.d (e.trans k)
 .omega
structure ApR (B m gW:Nat) (y:Sy) (cy:Nat->Nat->Aj) (ga ca g c:Nat) (w0 W:Ad) (F:Nat->Prop):Prop where
 o:W.ownsRow B 31 10 (V g (m+1) c) (m+1) (cL 10 (fun i q=>if i=m then (syC y (V ga y.p.m ca)).toList.getD q O else cy i q) (m+1))
 x:jI W w0 ga y.p.m ca y.p.S
 t:Trn w0 W F
 g:(g=gW\/w0.1.size<=g)/\g≠ga
 l:w0.1.size<=ga/\gW<w0
theorem ApR.mk' {B m gW:Nat} {y:Sy} {cy:Nat->Nat->Aj} {ga ca g c:Nat} {w0 W w':Ad} (hb:Ab w0 w0 W) (ot:jI W w0 ga y.p.m ca y.p.S) (ho:w'.ownsRow B 31 10 (V g (m+1) c) (m+1) (cL 10 cy m++(syC y (V ga y.p.m ca)).toList)) (hg:W.grownBy w' (M gW)) (a0:g=gW\/g=W.1.size) (lW:gW<w0):ApR B m gW y cy ga ca g c w0 w' (fun x=>x=gW):=by
 have la:=A0 ot ga rfl;have hs:=hb.size;rw[jEh 10 cy m _ (by omega) rfl] at ho;refine⟨ho,jL ot hg (fun x e=>by cases e;show ga≠gW;omega),(Trn.ofBelow _ hb).trans ⟨hg.os,hg.tape,hg.output,hg.size,fun x hx hn=>hg.block x hx (fun e=>hn (by injection e))⟩,⟨?_,?_⟩,la.1,lW⟩
 .rcases a0 with e|e
  .exact .inl e
  .exact .inr (by omega)
 .rcases a0 with e|e <;> omega
theorem ApR.set {B m gW:Nat} {y:Sy} {cy:Nat->Nat->Aj} {ga ca g c A:Nat} {w0 W:Ad} (h:ApR B m gW y cy ga ca g c w0 W (fun x=>x=gW)) (hA:A≠gW/\A<w0) (v:Aj) (i:Nat):ApR B m gW y cy ga ca g c w0 (W.setCell (Q A i I) v) (fun x=>x=gW\/x=A):=by
 have hl:=h.l;have hg:=h.g;refine⟨jL h.o (jN W A i v) (fun x e=>by cases e;show g≠A;rcases hg.1 with e|e <;> omega),jL h.x (jN W A i v) (fun x e=>by cases e;show ga≠A;omega),(h.t.mono (fun _=>.inl)).trans (Trn.set W i v (.inr rfl)),hg,hl⟩
theorem ApR.cells {B m gW gN:Nat} {Y:Nat->Sy} {y:Sy} {cy:Nat->Nat->Aj} {ga ca g c:Nat} {w w0 W w8:Ad} {F X:Nat->Prop} (h:ApR B m gW y cy ga ca g c w0 W F) (hY:∀ i q,i<m->q<10->Rf w (EX gN gW X) (syD (Y i) q) (cy i q)) (ot:jI w8 w0 ga y.p.m ca y.p.S) (hw:w.1.size<=w0.1.size) (hX:∀ b,X b->b<w.1.size) {i q:Nat} (hi:i<m+1) (hq:q<10):Rf w (EX gN gW X) (syD (wyS m Y (fun _=>y) i) q) (if i=m then (syC y (V ga y.p.m ca)).toList.getD q O else cy i q)\/(gN<w->Rf w8 (EX gN g X) (syD (wyS m Y (fun _=>y) i) q) (if i=m then (syC y (V ga y.p.m ca)).toList.getD q O else cy i q)):=by
 by_cases e:i=m
 .right
  intro hN;rw[A6 e,jGz (by omega)];have hg:=h.g;have hl:=h.l;match q,hq with
  | 0,_|1,_|2,_|3,_|4,_|5,_|6,_|7,_|8,_=>exact Rf.val _
  | 9,_=>exact Rf.of_ow (xP (F:=fun x=>x=ga) ot (fun x e=>by cases e;rfl)) (fun x hx k=>by have a0:x=ga:=hx;rcases k with k|k|k;omega;omega;have:=hX x k;omega)
 .left
  rw[A5 e,jG0 (by omega)];exact hY i q (by omega) hq
theorem jKt (B:Nat) (f:Int) (n:Nat) (zs:List Int) (T:Ns) (gN cN:Nat) (a2:OA) (c2 gW cW a7:Nat) (X9:Nat->Prop) (w:Ad) (h:NtE w B n T.N zs T.m T.Y gN cN (V a2 zs.length c2) gW cW X9) (hB:B<=w) (hX:∀ b,X9 b->b<w.1.size) (hG:NsG f n zs T) (ha:a7<T.m):Ak prog 138 #[ntV f (V gN n cN) (V a2 zs.length c2) (V gW T.m cW),(a7:Int)] w fun r w'=>∃ g c,r=Ae (ntV f (V gN n cN) (V a2 zs.length c2) (V (Q g 0 I) (hrT n zs T a7).m c))/\NtE w' B n (hrT n zs T a7).N zs (hrT n zs T a7).m (hrT n zs T a7).Y gN cN (V a2 zs.length c2) g c X9/\Trn w w' (fun x=>x=gN\/x=gW)/\w.1.size<=g:=by
 have b0:=hG.n10;unfold hrT;by_cases ht:ToP n zs (T.Y a7).t
 .have a0:(T.Y a7).t.toNat<n:=by have:=ht.1;omega
  have hd:=hG.nd a0;rw[A6 ht];refine(jHv B f n T.N zs T.m T.Y gN cN a2 c2 gW cW a7 (T.Y a7) X9 (T.Y a7).t.toNat (T.N (T.Y a7).t.toNat) w h hB b0.2.2.1 (by omega) (by omega) ha rfl ht a0 rfl (show (T.Y a7).t=_ by have:=ht.1;omega) (hG.nh a0 (hG.y a7 ha)) (jN5 hd.1) hX).mono ?_;rintro r w' ⟨g,c,rfl,h1,h2,h3⟩;exact⟨g,c,rfl,h1,h2.mono (fun _=>.inl),h3⟩
 .rw[A5 ht];refine(jHw B f n T.N zs T.m T.Y gN cN a2 c2 gW cW a7 (T.Y a7) X9 w h hB b0.2.2.1 (by omega) (by omega) ha rfl ht).mono ?_;rintro r w' ⟨g,c,rfl,h1,h2,h3⟩;exact⟨g,c,rfl,h1,Trn.ofBelow _ h2,h3⟩
theorem jMz (B:Nat) (f:Int) (n:Nat) (zs:List Int) (T:Ns) (m:Nat) (gN cN:Nat) (a2:OA) (c2 gW cW:Nat) (X9:Nat->Prop) (a7:Nat) (y:Sy) (s:BA) (v9:Aj) (w:Ad) (Hm:T.m=m) (h:NtE w B n T.N zs m T.Y gN cN (V a2 zs.length c2) gW cW X9) (hB:B<=w) (hX:∀ b,X9 b->b<w.1.size) (hG:NsG f n zs T) (ha:a7<m):Ak prog 70 #[ntV f (V gN n cN) (V a2 zs.length c2) (V gW m cW),Ai (opC ⟨0,(a7:Int),y,s⟩ v9)] w fun r w'=>∃ g c,r=Ae (Ah #[ntV f (V gN n cN) (V a2 zs.length c2) (V (Q g 0 I) ((hrT n zs T a7).m) c),Aw])/\Trn w w' (fun x=>x=gN\/x=gW)/\NtE w' B n (hrT n zs T a7).N zs ((hrT n zs T a7).m) (hrT n zs T a7).Y gN cN (V a2 zs.length c2) g c X9/\(g=gW\/w.1.size<=g):=by
 have hm:m<=3000:=by rw[<-Hm];exact hG.n10.2.2.1
 obtain⟨zl,g0⟩:=nnH zs.length;obtain⟨A,HA⟩:=nmH w.1.size;obtain⟨C,HC⟩:=nmH (w.1.size+1);obtain⟨D,HD⟩:=nmH (w.1.size+1+1);obtain⟨w0,d0⟩:=nmH (((w.alloc (J #[f,V gN n cN,V a2 zs.length c2,V gW m cW] 48)).alloc (J (opC ⟨0,(a7:Int),y,s⟩ v9) 50)).alloc (J #[(),V I 0 0,V I 0 0,V I 0 0] 48));have RA:=zD d0 HA;have RC:=xL d0 HC;have RD:=xR d0 HD;have b0:=bl3 d0;have c0:=hd b0;have lA:w.1.size<=A/\A<C/\C<D/\D<w0:=⟨by have:=HA.out;omega,by have h1:=HA.out;have h2:=HC.out;omega,by have h1:=HC.out;have h2:=HD.out;omega,RD.out.lt⟩;have KE:=hd h;have KZ:=hd h.z;have m0:B<=w0:=by have:=b0.size;omega
 have x0:=RC.cell 0;have x1:=RC.cell 1;have x3:=RA.cell 3;simp at x0 x1 x3;have j0:H (CS 43 #[(a7:Int),(),((m:Int)-1:Int)] w0 Aw):=by
  have:=jM (a7:Int) 0 ((m:Int)-1) w0
  rw[show inB (a7:Int) 0 ((m:Int)-1)=Aw from Bf (by omega)] at this;exact this
 have f0:H (Ak prog 138 #[Ai #[f,V gN n cN,V a2 zs.length c2,V gW m cW],(a7:Int)] w0 fun r w'=>∃ g c,r=Ae (ntV f (V gN n cN) (V a2 zs.length c2) (V (Q g 0 I) (hrT n zs T a7).m c))/\NtE w' B n (hrT n zs T a7).N zs (hrT n zs T a7).m (hrT n zs T a7).Y gN cN (V a2 zs.length c2) g c (fun b=>X9 b\/(w.1.size<=b/\b<w0.1.size))/\Trn w0 w' (fun x=>x=gN\/x=gW)/\w0.1.size<=g):=by
  subst Hm;exact jKt B f n zs T gN cN a2 c2 gW cW a7 _ w0 (h.grow b0) m0 (fun b k=>by rcases k with k|k;have:=hX b k;have:=b0.size;omega;exact k.2) hG ha
 have n0:gN<w/\gW<w:=⟨h.lt.1.2,h.lt.2.2⟩;obtain⟨T1,i0⟩:=nnH (hrT n zs T a7);rw[i0.out] at f0 |-;rw[g0.out] at f0;rw[g0.out] at RA d0 KE KZ |-;go_enter func70,Gn
 go_upto_region 1 with fail
 rw[<-d0.out,<-HD.out,<-HC.out,<-HA.out];go_wp2_with fail
 refine Ax j0.out ?_;rintro e w9 ⟨rfl,k0⟩;obtain rfl:=k0.symm;go_wp2_with (refine Bg rfl 48 _ rfl A rfl 48 #[f,V gN n cN,V a2 zl c2,V gW m cW] (0,0) _ ?_ Bu rfl Tryz.infoNt ?_;exact RA)
 refine Ax f0.out ?_;rintro r w1 ⟨g,c,rfl,e1,t1,lg⟩;have h0:=hd ((t1.block D RD.lt (fun e=>by rcases e with e|e <;> omega)).trans RD.out);obtain⟨w8,a0⟩:=nmH (w1.setRow D #[f,V gN n cN,V a2 zl c2,V (Q g 0 I) T1.m c]);have e0:=rr a0 h0;have KF:H (Trn w w8 (fun x=>x=gN\/x=gW)/\NtE w8 B n T1.N zs T1.m T1.Y gN cN (V a2 zl c2) g c X9/\(g=gW\/w.1.size<=g)):=by
  have s8:w8.1.size=w1.1.size:=by rw[a0.out];simp
  have t8:∀ x,x≠D->w8.1[x]?=w1.1[x]?:=fun x hx=>by rw[a0.out];exact Cj _ _ _ _ hx
  refine⟨⟨by rw[a0.out];exact t1.os.trans c0.os,by rw[a0.out];exact t1.tape.trans c0.tape,by rw[a0.out];exact t1.output.trans c0.output,by have:=t1.size;have:=c0.size;omega,fun x hx hn=>(t8 x (by omega)).trans ((t1.block x (by have:=c0.out.size;omega) hn).trans (c0.out.block x hx))⟩,?_,.inr (by have:=c0.size;omega)⟩;refine(e1.turn (by omega) (fun b hb hn=>t8 b (fun e=>?_))).less (fun b k=>.inl k);rcases hn with hn|hn|hn
  .exact hn (.inr (by omega))
  .omega
  .omega
 go_wp2_with (refine Ca rfl 48 _ _ rfl D #[f,V gN n cN,V a2 zl c2,V (M ⟨g,0,I⟩) T1.m c] rfl rfl 48 #[(),V I 0 0,V I 0 0,V I 0 0] ?_ Tryz.infoNt rfl (by simp[Aq]) ?_;exact h0;rw[<-a0.out])
 have p0:=e0.cell 0;have p1:=e0.cell 1;have p2:=e0.cell 2;have p3:=e0.cell 3;simp at p0 p1 p2 p3;exact B7 (v:=Ah #[Ai #[f,V gN n cN,V a2 zl c2,V (Q g 0 I) T1.m c],Aw]) (by simp[results,Tryz.results70,go_sem,p0,p1,p2,p3]) rfl ⟨_,_,rfl,KF⟩
theorem jKs (B:Nat) (f:Int) (n:Nat) (N:Nat->Nd) (zs:List Int) (m:Nat) (Y:Nat->Sy) (gN cN:Nat) (a2:OA) (c2 gW cW:Nat) (X9:Nat->Prop) (a7:Nat) (y y9:Sy) (s:BA) (v9:Aj) (w:Ad) (h:NtE w B n N zs m Y gN cN (V a2 zs.length c2) gW cW X9) (hB:B<=w) (hX:∀ b,X9 b->b<w.1.size) (hm:m<=3000) (ha:a7<m) (H9:H (Y a7=y9)) (g1:y9.p.m<=1048576):Ak prog 70 #[ntV f (V gN n cN) (V a2 zs.length c2) (V gW m cW),Ai (opC ⟨1,(a7:Int),y,s⟩ v9)] w fun r w'=>∃ g c,r=Ae (Ah #[ntV f (V gN n cN) (V a2 zs.length c2) (V (Q g 0 I) (m+1) c),Aw])/\Trn w w' (fun x=>x=gN\/x=gW)/\NtE w' B n N zs (m+1) (wyS m Y (fun _=>y9)) gN cN (V a2 zs.length c2) g c X9/\(g=gW\/w.1.size<=g):=by
 obtain⟨zl,z0⟩:=nnH zs.length;obtain⟨A,HA⟩:=nmH w.1.size;obtain⟨C,HC⟩:=nmH (w.1.size+1);obtain⟨D,HD⟩:=nmH (w.1.size+1+1);obtain⟨w0,m0⟩:=nmH (((w.alloc (J #[f,V gN n cN,V a2 zs.length c2,V gW m cW] 48)).alloc (J (opC ⟨1,(a7:Int),y,s⟩ v9) 50)).alloc (J #[(),V I 0 0,V I 0 0,V I 0 0] 48));have RA:=zD m0 HA;have RC:=xL m0 HC;have RD:=xR m0 HD;have b0:=bl3 m0;have o0:=hd b0;have lA:w.1.size<=A/\A<C/\C<D/\D<w0:=⟨by have:=HA.out;omega,by have h1:=HA.out;have h2:=HC.out;omega,by have h1:=HC.out;have h2:=HD.out;omega,RD.out.lt⟩;have KE:=hd h;have KZ:=hd h.z;have r1:B<=w0:=by have:=b0.size;omega
 have x0:=RC.cell 0;have x1:=RC.cell 1;have x3:=RA.cell 3;simp at x0 x1 x3;have b1:H (CS 43 #[(a7:Int),(),((m:Int)-1:Int)] w0 Aw):=by
  have:=jM (a7:Int) 0 ((m:Int)-1) w0
  rw[show inB (a7:Int) 0 ((m:Int)-1)=Aw from Bf (by omega)] at this;exact this
 obtain⟨bb,fb,a9,c9,ea,r0,t9⟩:=zY h.rdY ha;obtain⟨rfl,rfl⟩:gW=bb/\0=fb:=by simp at ea;exact⟨ea.1,ea.2⟩
 rw[H9.out] at r0 t9;rw[Bq] at r0;obtain⟨cy,j1,n1⟩:=h.y;have KY:H (∀ i q,i<m->q<10->Rf w (EX gN gW X9) (syD (Y i) q) (cy i q)):=n1;have KX:H (∀ b,X9 b->b<w.1.size):=hX;have c1:=hd (jF j1 b0);have w1:gN<w/\gW<w:=⟨h.lt.1.2,h.lt.2.2⟩;have t1:gW<w0:=by have:=b0.size;omega
 have q1:A≠gW/\A<w0:=by omega
 have a1:H (∀ W,Ab w0 w0 W->Ak prog 137 #[Ai (syC y9 (V a9 y9.p.m c9))] W fun e w'=>∃ g c,e=Ae (Ai (syC y9 (V (Q g 0 I) y9.p.m c)))/\jI w' W.1.size (Q g 0 I) y9.p.m c y9.p.S/\Ab W.1.size W w'):=fun W hW=>XK y9 a9 c9 W ((t9.below b0).below hW) g1
 have RG:H (∀ W,Ab w0 w0 W->W.rangeAt gW (a7*10) (syC y9 (V a9 y9.p.m c9)).toList):=fun W hW j v hv=>by
  have:=r0 j v hv
  exact((jA b0 hW).cell (A7 this)).trans this
 have v1:(a7:Int)<(m:Int):=by omega
 rw[z0.out] at RA m0 KE KZ |-;go_enter func70,Gn
 go_upto_region 1 with fail
 rw[<-m0.out,<-HD.out,<-HC.out,<-HA.out];go_wp2_with fail
 refine Ax b1.out ?_;rintro e w9 ⟨rfl,o1⟩;obtain rfl:=o1.symm;go_upto_region 10 with fail
 refine JE Tryz.mixed 13 [([],[10,12]),([0],[1,10,12]),([],[8,9,10,12]),([2],[3,8,9,10,12]),([],[8,9,10,12]),([4],[5,8,9,10,12]),([3,5],[8,9,10,12]),([6],[7,8,9,10,12]),([7],[8,9,10,12]),([8],[9,10,12]),([1,8,9],[10,12]),([],[12]),([8,9,10,11],[12])] (by kernel_rfl) (fun L A9 W=>∃ (ga:Nat) (ca:Nat) (f0:Nat) (a0:Nat) (c0:Nat),A9=⟨(List.toArray (α:=Aj) ((ntV f (V gN n cN) (V a2 zl c2) (V gW m cW))::(Ai (opC {k:=1,a:=(a7:Int),y:=y,s:=s} v9))::(Af A)::(Af C)::(Af D)::(Av)::(Aw)::O::O::O::(Af (Q C 1 I))::((a7:Int))::(Af (Q A 3 I))::(V gW m cW)::((m:Int))::(((m:Int)-1:Int))::(Aw)::(Af C)::((1:Int))::(Av)::(Av)::O::O::O::O::O::O::O::(Aw)::(Aw)::(Aw)::(Av)::O::(cX (L 0) (Af (Q A 3 I)) O)::(cX (L 1) (V gW m cW) O)::(cX (L 2) (Af (Q A 3 I)) O)::(cX (L 3) (V gW m cW) O)::(cX (L 4) (Af (Q C 1 I)) O)::(cX (L 5) (a7:Int) O)::(cX (L 6) (Af (Q gW (a7*10) I)) O)::(cX (L 7) (Ai (syC y9 (V a9 y9.p.m c9))) O)::(cX (L 8) (Ai (syC y9 (V ga y9.p.m ca))) O)::(cX (L 9) (V f0 1 1) O)::(cX (L 10) (V a0 (m+1) c0) O)::(cX (L 11) (Af (Q A 3 I)) O)::O::O::O::O::O::O::O::O::O::O::O::O::O::O::O::O::O::O::O::O::O::O::O::O::O::O::O::O::O::O::O::O::O::O::O::O::O::O::O::O::O::O::O::O::O::O::O::O::O::O::[])),[]⟩/\(L 10=Av->Ab w0 w0 W)/\(L 8=Aw->L 10=Av->jI W w0 ga y9.p.m ca y9.p.S)/\(L 9=Aw->L 10=Av->Row W f0 31 (syC y9 (V ga y9.p.m ca))/\w0.1.size<=f0)/\(L 10=Aw->L 12=Av->ApR B m gW y9 cy ga ca a0 c0 w0 W (fun x=>x=gW)/\Row W A 48 #[f,V gN n cN,V a2 zl c2,V gW m cW])/\(L 12=Aw->ApR B m gW y9 cy ga ca a0 c0 w0 W (fun x=>x=gW\/x=A)/\Row W A 48 #[f,V gN n cN,V a2 zl c2,V a0 (m+1) c0])) ?_ ?_ ?_
 .exact⟨0,0,0,0,0,rfl,(fun _=>jD _),(fun h=>by cases h),(fun h=>by cases h),(fun h=>by cases h),(fun h=>by cases h)⟩
 .rintro a9 wx ⟨ga,ca,f0,a0,c0,y0,-,-,-,-,t0⟩;simp only[Nat.reduceLT,Dn,jJ] at y0;subst y0;replace t0:=(t0 rfl)
  obtain⟨q4,qA⟩:=t0;have KQ:=hd q4;have f1:=hd qA;have u0:=hd ((q4.t.block D RD.lt (fun e=>by rcases e with e|e <;> omega)).trans RD.out);obtain⟨w8,j0⟩:=nmH (wx.setRow D #[f,V gN n cN,V a2 zl c2,V a0 (m+1) c0]);have q0:=rr j0 u0;have KF:H (Trn w w8 (fun x=>x=gN\/x=gW)/\NtE w8 B n N zs (m+1) (wyS m Y (fun _=>y9)) gN cN (V a2 zl c2) a0 c0 X9/\(a0=gW\/w.1.size<=a0)):=by
   have s0:=o0.size;have s1:=KQ.t.size;have s8:w8.1.size=wx.1.size:=by rw[j0.out];simp
   have t8:∀ x,x≠D->w8.1[x]?=wx.1[x]?:=fun x hx=>by rw[j0.out];exact Cj _ _ _ _ hx
   have tw:∀ x,x<w.1.size->x≠gW->w8.1[x]?=w.1[x]?:=fun x hx h1=>(t8 x (by omega)).trans ((KQ.out.t.block x (by omega) (fun e=>by rcases e with e|e <;> omega)).trans (o0.out.block x hx))
   have lg:=A0 KQ.o a0 rfl;refine⟨⟨by rw[j0.out];exact KQ.t.os.trans o0.os,by rw[j0.out];exact KQ.t.tape.trans o0.tape,by rw[j0.out];exact KQ.t.output.trans o0.output,by omega,fun x hx hn=>tw x hx (fun e=>hn (.inr e))⟩,?_,by rcases KQ.out.g.1 with e|e;exact .inl e;exact .inr (by omega)⟩;have u1:=JJ KQ.x (fun x e hb hl=>t8 _ (by omega));exact KE.laterG (by omega) tw (vN KQ.out.o (by omega) (t8 a0 (by have:=KQ.out.g;omega))) (by have:=KQ.out.g;omega) (fun i q hi hq=>KQ.out.cells KY.out u1 (by omega) KX.out hi hq)
  go_wp2_with (first|(refine Bg rfl 48 _ rfl A rfl 48 #[f,V gN n cN,V a2 zl c2,V a0 (m+1) c0] (0,0) _ ?_ Bu rfl Tryz.infoNt ?_;exact f1)|(refine Ca rfl 48 _ _ rfl D #[f,V gN n cN,V a2 zl c2,V a0 (m+1) c0] rfl rfl 48 #[(),V I 0 0,V I 0 0,V I 0 0] ?_ Tryz.infoNt rfl (by simp[Aq]) ?_;exact u0;rw[<-j0.out]))
  have p0:=q0.cell 0;have p1:=q0.cell 1;have p2:=q0.cell 2;have p3:=q0.cell 3;simp at p0 p1 p2 p3;exact B7 (v:=Ah #[Ai #[f,V gN n cN,V a2 zl c2,V a0 (m+1) c0],Aw]) (by simp[results,Tryz.results70,go_sem,p0,p1,p2,p3]) rfl ⟨_,_,rfl,KF⟩
 .intro q9 m1 L a9 W S i0;match q9,m1 with
  | 0,_|2,_|4,_|6,_|11,_=>
   obtain⟨ga,ca,f0,a0,c0,rfl,hf⟩:=i0;simp only[knT,kn,knN] at S;refine jB rfl (fun _=>rfl) fun K hK=>?_
   try simp only[S,jJ]
   go_simp
   exact hK _ _ ⟨ga,ca,f0,a0,c0,(by simp only[Nat.reduceBEq,Be,Bp,jJ,S]),hf⟩
  | 1,_=>
   obtain⟨ga,ca,f0,a0,c0,rfl,h0,h1,h2,h3,h4⟩:=i0;obtain⟨d0,e1,e0,g0,-⟩:=S;have hb:=h0 e0;have x1:=(RA.below hb RA.lt).cell 3;simp at x1;refine jB rfl (fun _=>rfl) fun K hK=>?_
   simp only[d0,jJ];go_simp
   exact hK _ _ ⟨ga,ca,f0,a0,c0,(by simp only[Nat.reduceBEq,Be,Bp,jJ,d0,e0]),h0,h1,h2,(ab e0),(ab g0)⟩
  | 3,_=>
   obtain⟨ga,ca,f0,a0,c0,rfl,h0,h1,h2,h3,h4⟩:=i0;obtain⟨d2,e3,e8,e9,e0,g0,-⟩:=S;have hb:=h0 e0;have x1:=(RA.below hb RA.lt).cell 3;simp at x1;refine jB rfl (fun _=>rfl) fun K hK=>?_
   simp only[d2,jJ];go_simp
   exact hK _ _ ⟨ga,ca,f0,a0,c0,(by simp only[Nat.reduceBEq,Be,Bp,jJ,d2,e8,e9,e0]),h0,(ab e8),(ab e9),(ab e0),(ab g0)⟩
  | 5,_=>
   obtain⟨ga,ca,f0,a0,c0,rfl,h0,h1,h2,h3,h4⟩:=i0;obtain⟨d4,e5,e8,e9,e0,g0,-⟩:=S;have hb:=h0 e0;have x1:=(RC.below hb RC.lt).cell 1;simp at x1;refine jB rfl (fun _=>rfl) fun K hK=>?_
   simp only[d4,jJ];go_simp
   exact hK _ _ ⟨ga,ca,f0,a0,c0,(by simp only[Nat.reduceBEq,Be,Bp,jJ,d4,e8,e9,e0]),h0,(ab e8),(ab e9),(ab e0),(ab g0)⟩
  | 7,_=>
   obtain⟨ga,ca,f0,a0,c0,rfl,h0,h1,h2,h3,h4⟩:=i0;obtain⟨d6,e7,e8,e9,e0,g0,-⟩:=S;have hb:=h0 e0;refine jB rfl (fun _=>rfl) fun K hK=>?_
   simp only[d6,jJ];refine G7 31 _ rfl gW (a7*10) rfl (syC y9 (V a9 y9.p.m c9)).toList _ (RG W hb) Cd rfl Tryz.infoSy ?_;exact hK _ _ ⟨ga,ca,f0,a0,c0,(by simp[Act.put,jJ,d6]),h0,(ab e8),(ab e9),(ab e0),(ab g0)⟩
  | 8,_=>
   obtain⟨ga,ca,f0,a0,c0,rfl,h0,h1,h2,h3,h4⟩:=i0;obtain⟨d7,e8,e9,e0,g0,-⟩:=S;have hb:=h0 e0;refine jB rfl (fun _=>rfl) fun K hK=>?_
   simp only[d7,jJ];go_simp
   refine Ax (a1 W hb) ?_;rintro e w9 ⟨ga,ca,rfl,ot,b9⟩;exact hK _ _ ⟨ga,ca,f0,a0,c0,(by simp only[Nat.reduceBEq,Be,Bp,jJ,d7,e9,e0]),(fun k0=>jA hb b9),(fun k0 k1=>jX ot hb.size),(ab e9),(ab e0),(ab g0)⟩
  | 9,_=>
   obtain⟨ga,ca,f0,a0,c0,rfl,h0,h1,h2,h3,h4⟩:=i0;obtain⟨d8,e9,e0,g0,-⟩:=S;have hb:=h0 e0;refine jB rfl (fun _=>rfl) fun K hK=>?_
   simp only[d8,jJ];go_simp
   exact hK _ _ ⟨ga,ca,W.1.size,a0,c0,(by simp only[Nat.reduceBEq,Be,Bp,jJ,d8,e0]),(fun k0=>hb.alloc hb.size _),(fun k0 k1=>jI.below (h1 (show L 8=Aw from k0) (show L 10=Av from k1)) ((Az _ _).alloc (Ay _) _)),(fun k0 k1=>⟨Row.new W _ _,hb.size⟩),(ab e0),(ab g0)⟩
  | 10,_=>
   obtain⟨ga,ca,f0,a0,c0,rfl,h0,h1,h2,h3,h4⟩:=i0;obtain⟨d1,d8,d9,e0,g0,-⟩:=S;have hb:=h0 e0;have ot:=h1 d8 e0;have r4:=h2 d9 e0;have oW:=jF c1 hb;refine jB rfl (fun _=>rfl) fun K hK=>?_
   simp only[d1,d9,jJ];refine QE 34 42 rfl B gW m cW (cL 10 cy m) rfl oW f0 1 1 (syC y9 (V ga y9.p.m ca)).toList rfl (fun e=>by cases e) rfl (fun b e j u hu=>by cases e;rw[Addr.add_mid,Bq,r4.1.cell j,<-Ge];exact hu) (by simp[Aq]) (by omega) (Bx r1 hb.size) ?_;intro a0 c0 w9 ho hg i1;exact hK _ _ ⟨ga,ca,f0,a0,c0,(by simp[Act.put,jJ,d1,d9]),nf,(fun _=>nf),(fun _=>nf),(fun k0 k1=>⟨ApR.mk' hb ot ho hg i1 t1,(RA.below hb RA.lt).keptG hg (by omega)⟩),(ab g0)⟩
  | 12,_=>
   obtain⟨ga,ca,f0,a0,c0,rfl,h0,h1,h2,h3,h4⟩:=i0;obtain⟨d8,d9,n0,v0,g0,-⟩:=S;obtain⟨q3,qA⟩:=h3 n0 g0;have fr:=qA.free 3;have x3:=qA.cell 3;simp at x3;refine jB rfl (fun _=>rfl) fun K hK=>?_
   simp only[v0,n0,jJ];go_simp
   exact hK _ _ ⟨ga,ca,f0,a0,c0,(by simp only[Nat.reduceBEq,Be,d8,d9,n0,v0,jJ]),(ba n0),(fun _=>ba n0),(fun _=>ba n0),(fun _=>nf),(fun k0=>⟨q3.set q1 _ 3,qA.set 3 _⟩)⟩
  | n9+13,h=>exact Bo h (by omega)
theorem jKr (B:Nat) (f:Int) (n:Nat) (N:Nat->Nd) (zs:List Int) (m:Nat) (Y:Nat->Sy) (gN cN:Nat) (a2:OA) (c2 gW cW:Nat) (X9:Nat->Prop) (a:Int) (y9:Sy) (s:BA) (a9:OA) (c9:Nat) (w:Ad) (h:NtE w B n N zs m Y gN cN (V a2 zs.length c2) gW cW X9) (hB:B<=w) (hm:m<=3000) (hn:n<=1048576) (hz:zs.length<=1048576) (i0:¬ (y9.f∈zs/\(0<=y9.t/\y9.t<n))):Ak prog 70 #[ntV f (V gN n cN) (V a2 zs.length c2) (V gW m cW),Ai (opC ⟨2,a,y9,s⟩ (V a9 y9.p.m c9))] w fun r w'=>∃ g c mm,r=Ae (Ah #[ntV f (V gN n cN) (V a2 zs.length c2) (V (Q g 0 I) mm c),Av])/\Trn w w' (fun x=>x=gN\/x=gW):=by
 obtain⟨zl,d0⟩:=nnH zs.length;obtain⟨A,HA⟩:=nmH w.1.size;obtain⟨C,HC⟩:=nmH (w.1.size+1);obtain⟨D,HD⟩:=nmH (w.1.size+1+1);obtain⟨w0,c0⟩:=nmH (((w.alloc (J #[f,V gN n cN,V a2 zs.length c2,V gW m cW] 48)).alloc (J (opC ⟨2,a,y9,s⟩ (V a9 y9.p.m c9)) 50)).alloc (J #[(),V I 0 0,V I 0 0,V I 0 0] 48));have RA:=zD c0 HA;have RC:=xL c0 HC;have RD:=xR c0 HD;have b0:=bl3 c0;have g0:H (Ab w w w0):=b0;have lA:w.1.size<=A/\A<C/\C<D/\D<w0:=⟨by have:=HA.out;omega,by have h1:=HA.out;have h2:=HC.out;omega,by have h1:=HC.out;have h2:=HD.out;omega,RD.out.lt⟩;have KE:H (NtE w B n N zs m Y gN cN (V a2 zs.length c2) gW cW X9):=h;have KZ:H (Rf w (EX gN gW X9) (inD zs) (V a2 zs.length c2)):=h.z;have n0:B<=w0:=by have:=b0.size;omega
 have x0:=RC.cell 0;have x1:=RC.cell 1;have x3:=RA.cell 3;simp at x0 x1 x3;obtain⟨b9,k0⟩:=nnH (inB a 0 ((m:Int)-1));have j0:H (CS 43 #[a,(),((m:Int)-1:Int)] w0 b9):=by
  have:=jM a 0 ((m:Int)-1) w0
  rw[k0.out] at this;exact this
 have q3:=RC.cell 3;have q4:=RC.cell 4;have za:=RA.cell 1;have zb:=RA.cell 2;simp at q3 q4 za zb;rw[d0.out] at RA c0 KE KZ zb |-;clear b0 hB n0;by_cases c1:y9.f∈zs
 have c3:¬ (0<=y9.t/\y9.t<(n:Int)):=fun k=>i0 ⟨c1,k⟩
 have h0:H (CS 139 #[V a2 zl c2,y9.f] w0 Aw):=by
  have:=QT a2 c2 zs y9.f w0 ((qK.1 (by rw[d0.out];exact KZ.rd)).below g0) hz
  rw[Bf c1,d0.out] at this;exact this
 have m0:H (CS 43 #[y9.t,(),((n:Int)-1:Int)] w0 Av):=by
  have:=jM y9.t 0 ((n:Int)-1) w0
  rw[show inB y9.t 0 ((n:Int)-1)=Av from Bh (fun q=>c3 (by omega))] at this;exact this
 clear h i0 c1 c3;go_enter func70,Gn
 go_upto_region 1 with fail
 rw[<-c0.out,<-HD.out,<-HC.out,<-HA.out];go_wp2_with fail
 refine Ax j0.out ?_;rintro e w9 ⟨rfl,a0⟩;obtain rfl:=a0.symm;clear a0 c0 HA HC HD;go_wp2_with fail
 refine Ax h0.out ?_;rintro e w9 ⟨rfl,a0⟩;obtain rfl:=a0.symm;clear a0;go_wp2_with fail
 refine Ax m0.out ?_;rotate_left;have c3:True:=trivial;have h0:H (CS 139 #[V a2 zl c2,y9.f] w0 Av):=by
  have:=QT a2 c2 zs y9.f w0 ((qK.1 (by rw[d0.out];exact KZ.rd)).below g0) hz
  rw[Bh c1,d0.out] at this;exact this
 clear h i0 c1 c3;go_enter func70,Gn
 go_upto_region 1 with fail
 rw[<-c0.out,<-HD.out,<-HC.out,<-HA.out];go_wp2_with fail
 refine Ax j0.out ?_;rintro e w9 ⟨rfl,a0⟩;obtain rfl:=a0.symm;clear a0 c0 HA HC HD;go_wp2_with fail
 refine Ax h0.out ?_;rotate_left;all_goals
  rintro e w9 ⟨rfl,a0⟩;obtain rfl:=a0.symm;clear a0;go_upto_region 14 with fail
  obtain⟨w8,f0⟩:=nmH (w0.setRow D #[f,V gN n cN,V a2 zl c2,V gW m cW]);have e0:H (Row w8 D 48 #[f,V gN n cN,V a2 zl c2,V gW m cW]):=by show Row _ _ _ _;rw[f0.out];exact RD.row
  have KF:H (Trn w w8 (fun x=>x=gN\/x=gW)):=Trn.ofBelow _ (by rw[f0.out];exact jG g0 (by omega) _);clear KE KZ;go_wp2_with (first|(refine Bg rfl 48 _ rfl A rfl 48 #[f,V gN n cN,V a2 zl c2,V gW m cW] (0,0) _ ?_ Bu rfl Tryz.infoNt ?_;exact RA)|(refine Ca rfl 48 _ _ rfl D #[f,V gN n cN,V a2 zl c2,V gW m cW] rfl rfl 48 #[(),V I 0 0,V I 0 0,V I 0 0] ?_ Tryz.infoNt rfl (by simp[Aq]) ?_;exact RD;rw[<-f0.out]))
  have p0:=e0.cell 0;have p1:=e0.cell 1;have p2:=e0.cell 2;have p3:=e0.cell 3;simp at p0 p1 p2 p3;exact B7 (v:=Ah #[Ai #[f,V gN n cN,V a2 zl c2,V gW m cW],Av]) (by simp[results,Tryz.results70,go_sem,p0,p1,p2,p3]) rfl ⟨_,_,_,rfl,KF⟩
theorem jP4 (B:Nat) (f:Int) (n:Nat) (N:Nat->Nd) (zs:List Int) (m:Nat) (Y:Nat->Sy) (gN cN:Nat) (a2:OA) (c2 gW cW:Nat) (X9:Nat->Prop) (a:Int) (y9:Sy) (s:BA) (a9:OA) (c9:Nat) (w:Ad) (h:NtE w B n N zs m Y gN cN (V a2 zs.length c2) gW cW X9) (hB:B<=w) (hX:∀ b,X9 b->b<w.1.size) (hm:m<=3000) (hn:n<=1048576) (hz:zs.length<=1048576) (c1:y9.f∈zs) (c3:0<=y9.t/\y9.t<(n:Int)) (t9:jK w a9 y9.p.m y9.p.S) (g1:y9.p.m<=1048576):Ak prog 70 #[ntV f (V gN n cN) (V a2 zs.length c2) (V gW m cW),Ai (opC ⟨2,a,y9,s⟩ (V a9 y9.p.m c9))] w fun r w'=>∃ g c,r=Ae (Ah #[ntV f (V gN n cN) (V a2 zs.length c2) (V (Q g 0 I) (m+1) c),Aw])/\Trn w w' (fun x=>x=gN\/x=gW)/\NtE w' B n N zs (m+1) (wyS m Y (fun _=>y9)) gN cN (V a2 zs.length c2) g c X9/\(g=gW\/w.1.size<=g):=by
 obtain⟨zl,o0⟩:=nnH zs.length;obtain⟨A,HA⟩:=nmH w.1.size;obtain⟨C,HC⟩:=nmH (w.1.size+1);obtain⟨D,HD⟩:=nmH (w.1.size+1+1);obtain⟨w0,i0⟩:=nmH (((w.alloc (J #[f,V gN n cN,V a2 zs.length c2,V gW m cW] 48)).alloc (J (opC ⟨2,a,y9,s⟩ (V a9 y9.p.m c9)) 50)).alloc (J #[(),V I 0 0,V I 0 0,V I 0 0] 48));have RA:=zD i0 HA;have RC:=xL i0 HC;have RD:=xR i0 HD;have b0:=bl3 i0;have j0:=hd b0;have lA:w.1.size<=A/\A<C/\C<D/\D<w0:=⟨by have:=HA.out;omega,by have h1:=HA.out;have h2:=HC.out;omega,by have h1:=HC.out;have h2:=HD.out;omega,RD.out.lt⟩;have KE:=hd h;have KZ:=hd h.z;have q1:B<=w0:=by have:=b0.size;omega
 have x0:=RC.cell 0;have x1:=RC.cell 1;have x3:=RA.cell 3;simp at x0 x1 x3;obtain⟨b9,u0⟩:=nnH (inB a 0 ((m:Int)-1));have a1:H (CS 43 #[a,(),((m:Int)-1:Int)] w0 b9):=by
  have:=jM a 0 ((m:Int)-1) w0
  rw[u0.out] at this;exact this
 have q3:=RC.cell 3;have q4:=RC.cell 4;have za:=RA.cell 1;have zb:=RA.cell 2;simp at q3 q4 za zb;obtain⟨cy,j1,n1⟩:=h.y;have KY:H (∀ i q,i<m->q<10->Rf w (EX gN gW X9) (syD (Y i) q) (cy i q)):=n1;have KX:H (∀ b,X9 b->b<w.1.size):=hX;have b1:=hd (jF j1 b0);have u1:gN<w/\gW<w:=⟨h.lt.1.2,h.lt.2.2⟩;have r1:gW<w0:=by have:=b0.size;omega
 have o1:A≠gW/\A<w0:=by omega
 have v0:H (∀ W,Ab w0 w0 W->Ak prog 137 #[Ai (syC y9 (V a9 y9.p.m c9))] W fun e w'=>∃ g c,e=Ae (Ai (syC y9 (V (Q g 0 I) y9.p.m c)))/\jI w' W.1.size (Q g 0 I) y9.p.m c y9.p.S/\Ab W.1.size W w'):=fun W hW=>XK y9 a9 c9 W ((t9.below b0).below hW) g1
 have RG:H (∀ W,Ab w0 w0 W->W.rangeAt C 2 (syC y9 (V a9 y9.p.m c9)).toList):=fun W hW j v hv=>by
  have hj:j<10:=by
   rcases F0 j 10 with k|k
   .exact k
   .rw[Bb (by simpa using k)] at hv;cases hv
  rw[(RC.out.below hW RC.out.lt).cell (2+j)];match j,hj with
  | 0,_|1,_|2,_|3,_|4,_|5,_|6,_|7,_|8,_|9,_=>simpa using hv
 rw[o0.out] at RA i0 KE KZ zb |-;have y0:H (CS 139 #[V a2 zl c2,y9.f] w0 Aw):=by
  have:=QT a2 c2 zs y9.f w0 ((qK.1 (by rw[o0.out];exact KZ.rd)).below j0) hz
  rw[Bf c1,o0.out] at this;exact this
 have z0:H (CS 43 #[y9.t,(),((n:Int)-1:Int)] w0 Aw):=by
  have:=jM y9.t 0 ((n:Int)-1) w0
  rw[show inB y9.t 0 ((n:Int)-1)=Aw from Bf (by omega)] at this;exact this
 go_enter func70,Gn
 go_upto_region 1 with fail
 rw[<-i0.out,<-HD.out,<-HC.out,<-HA.out];go_wp2_with fail
 refine Ax a1.out ?_;rintro e w9 ⟨rfl,m0⟩;obtain rfl:=m0.symm;go_wp2_with fail
 refine Ax y0.out ?_;rintro e w9 ⟨rfl,m0⟩;obtain rfl:=m0.symm;go_wp2_with fail
 refine Ax z0.out ?_;rintro e w9 ⟨rfl,m0⟩;obtain rfl:=m0.symm;go_upto_region 15 with fail
 refine JE Tryz.mixed 9 [([],[6,8]),([0],[1,6,8]),([],[4,5,6,8]),([2],[3,4,5,6,8]),([3],[4,5,6,8]),([4],[5,6,8]),([1,4,5],[6,8]),([],[8]),([4,5,6,7],[8])] (by kernel_rfl) (fun L A9 W=>∃ (ga:Nat) (ca:Nat) (e0:Nat) (a0:Nat) (c0:Nat),A9=⟨(List.toArray (α:=Aj) ((ntV f (V gN n cN) (V a2 zl c2) (V gW m cW))::(Ai (opC {k:=2,a:=a,y:=y9,s:=s} (V a9 y9.p.m c9)))::(Af A)::(Af C)::(Af D)::(Av)::(b9)::O::O::O::(Af (Q C 1 I))::(a)::(Af (Q A 3 I))::(V gW m cW)::((m:Int))::(((m:Int)-1:Int))::(b9)::(Af C)::((2:Int))::(Av)::(Av)::O::O::O::O::O::O::O::(Av)::(Av)::O::O::O::O::O::O::O::O::O::O::O::O::O::O::O::O::(Aw)::(Aw)::(Af (Q A 2 I))::(V a2 zl c2)::(Af (Q C 2 I))::(Af (Q C 3 I))::(y9.f)::(Aw)::(Av)::(Av)::(Af (Q C 2 I))::(Af (Q C 4 I))::(y9.t)::(Af (Q A 1 I))::(V gN n cN)::((n:Int))::(((n:Int)-1:Int))::(Aw)::(Av)::(Av)::O::(cX (L 0) (Af (Q A 3 I)) O)::(cX (L 1) (V gW m cW) O)::(cX (L 2) (Af (Q C 2 I)) O)::(cX (L 3) (Ai (syC y9 (V a9 y9.p.m c9))) O)::(cX (L 4) (Ai (syC y9 (V ga y9.p.m ca))) O)::(cX (L 5) (V e0 1 1) O)::(cX (L 6) (V a0 (m+1) c0) O)::(cX (L 7) (Af (Q A 3 I)) O)::O::O::O::O::O::O::O::O::O::O::O::O::O::O::O::O::O::O::O::O::[])),[]⟩/\(L 6=Av->Ab w0 w0 W)/\(L 4=Aw->L 6=Av->jI W w0 ga y9.p.m ca y9.p.S)/\(L 5=Aw->L 6=Av->Row W e0 31 (syC y9 (V ga y9.p.m ca))/\w0.1.size<=e0)/\(L 6=Aw->L 8=Av->ApR B m gW y9 cy ga ca a0 c0 w0 W (fun x=>x=gW)/\Row W A 48 #[f,V gN n cN,V a2 zl c2,V gW m cW])/\(L 8=Aw->ApR B m gW y9 cy ga ca a0 c0 w0 W (fun x=>x=gW\/x=A)/\Row W A 48 #[f,V gN n cN,V a2 zl c2,V a0 (m+1) c0])) ?_ ?_ ?_
 .exact⟨0,0,0,0,0,rfl,(fun _=>jD _),(fun h=>by cases h),(fun h=>by cases h),(fun h=>by cases h),(fun h=>by cases h)⟩
 .rintro a9 wx ⟨ga,ca,e0,a0,c0,t0,-,-,-,-,q0⟩;simp only[Nat.reduceLT,Dn,jJ] at t0;subst t0;replace q0:=(q0 rfl)
  obtain⟨q4,qA⟩:=q0;have KQ:=hd q4;have f1:=hd qA;have r0:=hd ((q4.t.block D RD.lt (fun e=>by rcases e with e|e <;> omega)).trans RD.out);obtain⟨w8,f0⟩:=nmH (wx.setRow D #[f,V gN n cN,V a2 zl c2,V a0 (m+1) c0]);have n0:=rr f0 r0;have KF:H (Trn w w8 (fun x=>x=gN\/x=gW)/\NtE w8 B n N zs (m+1) (wyS m Y (fun _=>y9)) gN cN (V a2 zl c2) a0 c0 X9/\(a0=gW\/w.1.size<=a0)):=by
   have s0:=j0.size;have s1:=KQ.t.size;have s8:w8.1.size=wx.1.size:=by rw[f0.out];simp
   have t8:∀ x,x≠D->w8.1[x]?=wx.1[x]?:=fun x hx=>by rw[f0.out];exact Cj _ _ _ _ hx
   have tw:∀ x,x<w.1.size->x≠gW->w8.1[x]?=w.1[x]?:=fun x hx h1=>(t8 x (by omega)).trans ((KQ.out.t.block x (by omega) (fun e=>by rcases e with e|e <;> omega)).trans (j0.out.block x hx))
   have lg:=A0 KQ.o a0 rfl;refine⟨⟨by rw[f0.out];exact KQ.t.os.trans j0.os,by rw[f0.out];exact KQ.t.tape.trans j0.tape,by rw[f0.out];exact KQ.t.output.trans j0.output,by omega,fun x hx hn=>tw x hx (fun e=>hn (.inr e))⟩,?_,by rcases KQ.out.g.1 with e|e;exact .inl e;exact .inr (by omega)⟩;have t1:=JJ KQ.x (fun x e hb hl=>t8 _ (by omega));exact KE.laterG (by omega) tw (vN KQ.out.o (by omega) (t8 a0 (by have:=KQ.out.g;omega))) (by have:=KQ.out.g;omega) (fun i q hi hq=>KQ.out.cells KY.out t1 (by omega) KX.out hi hq)
  go_wp2_with (first|(refine Bg rfl 48 _ rfl A rfl 48 #[f,V gN n cN,V a2 zl c2,V a0 (m+1) c0] (0,0) _ ?_ Bu rfl Tryz.infoNt ?_;exact f1)|(refine Ca rfl 48 _ _ rfl D #[f,V gN n cN,V a2 zl c2,V a0 (m+1) c0] rfl rfl 48 #[(),V I 0 0,V I 0 0,V I 0 0] ?_ Tryz.infoNt rfl (by simp[Aq]) ?_;exact r0;rw[<-f0.out]))
  have p0:=n0.cell 0;have p1:=n0.cell 1;have p2:=n0.cell 2;have p3:=n0.cell 3;simp at p0 p1 p2 p3;exact B7 (v:=Ah #[Ai #[f,V gN n cN,V a2 zl c2,V a0 (m+1) c0],Aw]) (by simp[results,Tryz.results70,go_sem,p0,p1,p2,p3]) rfl ⟨_,_,rfl,KF⟩
 .intro q9 m1 L a9 W S g0;match q9,m1 with
  | 0,_|2,_|7,_=>
   obtain⟨ga,ca,e0,a0,c0,rfl,hf⟩:=g0;simp only[knT,kn,knN] at S;refine jB rfl (fun _=>rfl) fun K hK=>?_
   go_simp
   exact hK _ _ ⟨ga,ca,e0,a0,c0,(by simp only[Nat.reduceBEq,Be,Bp,jJ,S]),hf⟩
  | 1,_=>
   obtain⟨ga,ca,e0,a0,c0,rfl,h0,h1,h2,h3,h4⟩:=g0;obtain⟨d0,e1,e6,e8,-⟩:=S;have hb:=h0 e6;have x1:=(RA.below hb RA.lt).cell 3;simp at x1;refine jB rfl (fun _=>rfl) fun K hK=>?_
   simp only[d0,jJ];go_simp
   exact hK _ _ ⟨ga,ca,e0,a0,c0,(by simp only[Nat.reduceBEq,Be,Bp,jJ,d0,e6]),h0,h1,h2,(ab e6),(ab e8)⟩
  | 3,_=>
   obtain⟨ga,ca,e0,a0,c0,rfl,h0,h1,h2,h3,h4⟩:=g0;obtain⟨d2,e3,e4,e5,e6,e8,-⟩:=S;have hb:=h0 e6;refine jB rfl (fun _=>rfl) fun K hK=>?_
   simp only[d2,jJ];refine G7 31 _ rfl C 2 rfl (syC y9 (V a9 y9.p.m c9)).toList _ (RG W hb) Cd rfl Tryz.infoSy ?_;exact hK _ _ ⟨ga,ca,e0,a0,c0,(by simp[Act.put,jJ,d2]),h0,(ab e4),(ab e5),(ab e6),(ab e8)⟩
  | 4,_=>
   obtain⟨ga,ca,e0,a0,c0,rfl,h0,h1,h2,h3,h4⟩:=g0;obtain⟨d3,e4,e5,e6,e8,-⟩:=S;have hb:=h0 e6;refine jB rfl (fun _=>rfl) fun K hK=>?_
   simp only[d3,jJ];go_simp
   refine Ax (v0 W hb) ?_;rintro e w9 ⟨ga,ca,rfl,ot,b9⟩;exact hK _ _ ⟨ga,ca,e0,a0,c0,(by simp only[Nat.reduceBEq,Be,Bp,jJ,d3,e5,e6]),(fun k0=>jA hb b9),(fun k0 k1=>jX ot hb.size),(ab e5),(ab e6),(ab e8)⟩
  | 5,_=>
   obtain⟨ga,ca,e0,a0,c0,rfl,h0,h1,h2,h3,h4⟩:=g0;obtain⟨d4,e5,e6,e8,-⟩:=S;have hb:=h0 e6;refine jB rfl (fun _=>rfl) fun K hK=>?_
   simp only[d4,jJ];go_simp
   exact hK _ _ ⟨ga,ca,W.1.size,a0,c0,(by simp only[Nat.reduceBEq,Be,Bp,jJ,d4,e6]),(fun k0=>hb.alloc hb.size _),(fun k0 k1=>jI.below (h1 (show L 4=Aw from k0) (show L 6=Av from k1)) ((Az _ _).alloc (Ay _) _)),(fun k0 k1=>⟨Row.new W _ _,hb.size⟩),(ab e6),(ab e8)⟩
  | 6,_=>
   obtain⟨ga,ca,e0,a0,c0,rfl,h0,h1,h2,h3,h4⟩:=g0;obtain⟨d1,d4,d5,e6,e8,-⟩:=S;have hb:=h0 e6;have ot:=h1 d4 e6;have r4:=h2 d5 e6;have oW:=jF b1 hb;refine jB rfl (fun _=>rfl) fun K hK=>?_
   simp only[d1,d5,jJ];refine QE 68 72 rfl B gW m cW (cL 10 cy m) rfl oW e0 1 1 (syC y9 (V ga y9.p.m ca)).toList rfl (fun e=>by cases e) rfl (fun b e j u hu=>by cases e;rw[Addr.add_mid,Bq,r4.1.cell j,<-Ge];exact hu) (by simp[Aq]) (by omega) (Bx q1 hb.size) ?_;intro a0 c0 w9 ho hg i1;exact hK _ _ ⟨ga,ca,e0,a0,c0,(by simp[Act.put,jJ,d1,d5]),nf,(fun _=>nf),(fun _=>nf),(fun k0 k1=>⟨ApR.mk' hb ot ho hg i1 r1,(RA.below hb RA.lt).keptG hg (by omega)⟩),(ab e8)⟩
  | 8,_=>
   obtain⟨ga,ca,e0,a0,c0,rfl,h0,h1,h2,h3,h4⟩:=g0;obtain⟨d4,d5,d6,d7,e8,-⟩:=S;obtain⟨q3,qA⟩:=h3 d6 e8;have fr:=qA.free 3;have x3:=qA.cell 3;simp at x3;refine jB rfl (fun _=>rfl) fun K hK=>?_
   simp only[d7,d6,jJ];go_simp
   exact hK _ _ ⟨ga,ca,e0,a0,c0,(by simp only[Nat.reduceBEq,Be,d4,d5,d6,d7,jJ]),(ba d6),(fun _=>ba d6),(fun _=>ba d6),(fun _=>nf),(fun k0=>⟨q3.set o1 _ 3,qA.set 3 _⟩)⟩
  | n9+9,h=>exact Bo h (by omega)
theorem jKq (B:Nat) (f:Int) (n:Nat) (N:Nat->Nd) (zs:List Int) (m:Nat) (Y:Nat->Sy) (gN cN:Nat) (a2:OA) (c2 gW cW:Nat) (X9:Nat->Prop) (a:Int) (y:Sy) (s:BA) (v9:Aj) (w:Ad) (h:NtE w B n N zs m Y gN cN (V a2 zs.length c2) gW cW X9) (hB:B<=w) (hX:∀ b,X9 b->b<w.1.size) (hm:m<=3000) (hs:s.size<=1048576):Ak prog 70 #[ntV f (V gN n cN) (V a2 zs.length c2) (V gW m cW),Ai (opC ⟨3,a,y,s⟩ v9)] w fun r w'=>∃ g c,r=Ae (Ah #[ntV f (V gN n cN) (V a2 zs.length c2) (V (Q g 0 I) (m+brN s f) c),(brB s f)])/\Trn w w' (fun x=>x=gN\/x=gW)/\NtE w' B n N zs (m+brN s f) (wyS m Y (brS s f)) gN cN (V a2 zs.length c2) g c X9/\(g=gW\/w.1.size<=g):=by
 obtain⟨zl,a1⟩:=nnH zs.length;obtain⟨A,HA⟩:=nmH w.1.size;obtain⟨C,HC⟩:=nmH (w.1.size+1);obtain⟨D,HD⟩:=nmH (w.1.size+1+1);obtain⟨w0,c0⟩:=nmH (((w.alloc (J #[f,V gN n cN,V a2 zs.length c2,V gW m cW] 48)).alloc (J (opC ⟨3,a,y,s⟩ v9) 50)).alloc (J #[(),V I 0 0,V I 0 0,V I 0 0] 48));have RA:=zD c0 HA;have RC:=xL c0 HC;have RD:=xR c0 HD;have b0:=bl3 c0;have f0:=hd b0;have lA:w.1.size<=A/\A<C/\C<D/\D<w0:=⟨by have:=HA.out;omega,by have h1:=HA.out;have h2:=HC.out;omega,by have h1:=HC.out;have h2:=HD.out;omega,RD.out.lt⟩;have KE:=hd h;have KZ:=hd h.z;have z1:B<=w0:=by have:=b0.size;omega
 have x0:=RC.cell 0;have x1:=RC.cell 1;have x3:=RA.cell 3;simp at x0 x1 x3;obtain⟨b9,t0⟩:=nnH (inB a 0 ((m:Int)-1));have b1:H (CS 43 #[a,(),((m:Int)-1:Int)] w0 b9):=by
  have:=jM a 0 ((m:Int)-1) w0
  rw[t0.out] at this;exact this
 have t1:=RC.cell 12;have z0:=RA.cell 0;simp at t1 z0;obtain⟨cy,q1,r1⟩:=h.y;have KY:H (∀ i q,i<m->q<10->Rf w (EX gN gW X9) (syD (Y i) q) (cy i q)):=r1;have KX:H (∀ b,X9 b->b<w.1.size):=hX;have e1:=hd (jF q1 b0);have b2:gN<w/\gW<w:=⟨h.lt.1.2,h.lt.2.2⟩;have y1:=b0.size;have j1:=(jCp (s:=s) (f:=f)).2;have h0:H _:=jE5 s f w0 hs;obtain⟨bn,u0⟩:=nnH (brN s f);obtain⟨bo,v0⟩:=nnH (brB s f);obtain⟨br,y0⟩:=nnH (brR s f);rw[u0.out] at h0 j1 |-;rw[v0.out] at h0 |-;rw[y0.out] at h0;rw[a1.out] at RA c0 KE KZ |-;go_enter func70,Gn
 go_upto_region 1 with fail
 rw[<-c0.out,<-HD.out,<-HC.out,<-HA.out];go_wp2_with fail
 refine Ax b1.out ?_;rintro e w9 ⟨rfl,s1⟩;obtain rfl:=s1.symm;go_wp2_with fail
 refine Ax h0.out ?_;rintro r w3 ⟨la,lc,rfl,m1,b3⟩;have KR:H (Rf w3 (fun b=>b<w0.1.size) (qJ bn (brS s f)) (V la bn lc)):=fun W' h1 h2=>m1 W' h1 (fun b k1 k2=>h2 b (by omega) k2)
 obtain⟨cs,n1,o1,w1,o0⟩:=jJy KR;have KC:H ((la=I->bn=0)/\(∀ b,la=M b->∀ j u,(cL 10 cs bn)[j]?=M u->w3.cell? (b.add j)=M u)/\∀ i q,i<bn->q<10->Rf w3 (fun b=>b<w0.1.size) (syD (brS s f i) q) (cs i q)):=⟨n1,o1,o0⟩;have c1:H (∀ u∈cL 10 cs bn,u.oneCell'=Aw):=fun u hu=>by obtain⟨i,q,hi,hq,rfl⟩:=jAt (by omega) hu;exact jB8 (o0 i q hi hq).rd
 have k0:=RA.below b3 RA.lt;have g1:=RD.below b3 RD.lt;have O3:=hd (jF e1 b3);have g0:=hd b3;have s3:=b3.size;have u1:=k0.cell 3;simp at u1;go_wp2_with (at_builtin;refine(show True->_ from ?_) trivial)
 intro _;refine jAp rfl 88 89 rfl B gW m cW (cL 10 cy m) rfl O3 la bn lc (cL 10 cs bn) rfl KC.1 (jY _ _ _) KC.2.1 c1 (by omega) (by omega) ?_;intro g7 c7 w6 q0 a0 n0;have j0:=k0.keptG a0 (by omega);have i1:=g1.keptG a0 (by omega);have v1:=j0.cell 3;have e2:=j0.free 3;simp at v1;have s6:=a0.size;have l6:=A0 q0 g7 rfl;obtain⟨w7,d0⟩:=nmH (w6.setCell (Q A 3 I) (V g7 (m+bn) c7));have f1:H (Row w7 A 48 #[f,V gN n cN,V a2 zl c2,V g7 (m+bn) c7]):=by show Row _ _ _ _;rw[d0.out];exact j0.set 3 _
 have m0:H (Row w7 D 48 #[(),V I 0 0,V I 0 0,V I 0 0]):=by show Row _ _ _ _;rw[d0.out];exact i1.other _ _ (by omega)
 obtain⟨w8,e0⟩:=nmH (w7.setRow D #[f,V gN n cN,V a2 zl c2,V g7 (m+bn) c7]);have i0:=rr e0 m0;have KF:H (Trn w w8 (fun x=>x=gN\/x=gW)/\NtE w8 B n N zs (m+bn) (wyS m Y (brS s f)) gN cN (V a2 zl c2) g7 c7 X9/\(g7=gW\/w.1.size<=g7)):=by
  have s0:∀ x,x≠A->x≠D->w8.1[x]?=w6.1[x]?:=fun x h1 h2=>by
   rw[e0.out,d0.out];exact(Cj _ _ _ _ (fun e=>h2 e)).trans (Ck w6 (Q A 3 I) x _ (fun e=>h1 e))
  have s8:w8.1.size=w6.1.size:=by rw[e0.out,d0.out];simp
  have r0:∀ x,x<w3.1.size->x≠A->x≠D->x≠gW->w8.1[x]?=w3.1[x]?:=fun x hx h1 h2 h3=>(s0 x h1 h2).trans (a0.block x hx (fun e=>h3 (by injection e)))
  have tw:∀ x,x<w.1.size->x≠gW->w8.1[x]?=w.1[x]?:=fun x hx h1=>(r0 x (by omega) (by omega) (by omega) h1).trans ((g0.out.block x (by omega)).trans (f0.out.block x hx))
  have e8:w8.os=w.os/\w8.tape=w.tape/\w8.output=w.output:=by
   rw[e0.out,d0.out];exact⟨a0.os.trans (g0.os.trans f0.os),a0.tape.trans (g0.tape.trans f0.tape),a0.output.trans (g0.output.trans f0.output)⟩
  have o8:=vN q0 (Gv s8.symm) (s0 g7 (by omega) (by omega));rw[jIq 10 _ _ _ _ (by omega)] at o8;refine⟨⟨e8.1,e8.2.1,e8.2.2,by omega,fun x hx hn=>tw x hx (fun e=>hn (.inr e))⟩,KE.laterG (by omega) tw o8 (by omega) (fun i q hi hq=>?_),by omega⟩;by_cases e:i<m
  .left
   rw[A6 e,jG0 e];exact KY i q e hq
  .right
   intro hN;rw[A5 e,jGz e];refine((KC.2.2 (i-m) q (by omega) hq).since (by omega) (fun b hb hl=>r0 b hl (by omega) (by omega) (by omega))).mono (fun b k=>?_);rcases k with k|k|k
   .exact .inl (by omega)
   .rcases n0 with q6|q6
    .exact .inl (by omega)
    .exact .inr (by omega)
   .exact .inl (by have:=KX b k;omega)
 go_wp2_with (first|(rw[<-d0.out];refine Bg rfl 48 _ rfl A rfl 48 #[f,V gN n cN,V a2 zl c2,V g7 (m+bn) c7] (0,0) _ ?_ Bu rfl Tryz.infoNt ?_;exact f1)|(refine Ca rfl 48 _ _ rfl D #[f,V gN n cN,V a2 zl c2,V g7 (m+bn) c7] rfl rfl 48 #[(),V I 0 0,V I 0 0,V I 0 0] ?_ Tryz.infoNt rfl (by simp[Aq]) ?_;exact m0;rw[<-e0.out]))
 have p0:=i0.cell 0;have p1:=i0.cell 1;have p2:=i0.cell 2;have p3:=i0.cell 3;simp at p0 p1 p2 p3;exact B7 (v:=Ah #[Ai #[f,V gN n cN,V a2 zl c2,V g7 (m+bn) c7],bo]) (by simp[results,Tryz.results70,go_sem,p0,p1,p2,p3]) rfl ⟨_,_,rfl,KF⟩
theorem jE6 (B:Nat) (f:Int) (n:Nat) (N:Nat->Nd) (zs:List Int) (m:Nat) (Y:Nat->Sy) (gN cN:Nat) (a2:OA) (c2 gW cW:Nat) (X9:Nat->Prop) (k a:Int) (y:Sy) (s:BA) (v9:Aj) (w:Ad) (h:NtE w B n N zs m Y gN cN (V a2 zs.length c2) gW cW X9) (hB:B<=w) (hm:m<=3000) (hk:((k=0\/k=1)/\¬ (0<=a/\a<m))\/¬ k=0/\¬ k=1/\¬ k=2/\¬ k=3):Ak prog 70 #[ntV f (V gN n cN) (V a2 zs.length c2) (V gW m cW),Ai (opC ⟨k,a,y,s⟩ v9)] w fun r w'=>∃ g c mm,r=Ae (Ah #[ntV f (V gN n cN) (V a2 zs.length c2) (V (Q g 0 I) mm c),Av])/\Trn w w' (fun x=>x=gN\/x=gW):=by
 obtain⟨zl,i0⟩:=nnH zs.length;obtain⟨A,HA⟩:=nmH w.1.size;obtain⟨C,HC⟩:=nmH (w.1.size+1);obtain⟨D,HD⟩:=nmH (w.1.size+1+1);obtain⟨w0,a0⟩:=nmH (((w.alloc (J #[f,V gN n cN,V a2 zs.length c2,V gW m cW] 48)).alloc (J (opC ⟨k,a,y,s⟩ v9) 50)).alloc (J #[(),V I 0 0,V I 0 0,V I 0 0] 48));have RA:=zD a0 HA;have RC:=xL a0 HC;have RD:=xR a0 HD;have b0:=bl3 a0;have j0:H (Ab w w w0):=b0;have lA:w.1.size<=A/\A<C/\C<D/\D<w0:=⟨by have:=HA.out;omega,by have h1:=HA.out;have h2:=HC.out;omega,by have h1:=HC.out;have h2:=HD.out;omega,RD.out.lt⟩;have KE:H (NtE w B n N zs m Y gN cN (V a2 zs.length c2) gW cW X9):=h;have KZ:H (Rf w (EX gN gW X9) (inD zs) (V a2 zs.length c2)):=h.z;have m0:B<=w0:=by have:=b0.size;omega
 have x0:=RC.cell 0;have x1:=RC.cell 1;have x3:=RA.cell 3;simp at x0 x1 x3;obtain⟨b9,d0⟩:=nnH (inB a 0 ((m:Int)-1));have k0:H (CS 43 #[a,(),((m:Int)-1:Int)] w0 b9):=by
  have:=jM a 0 ((m:Int)-1) w0
  rw[d0.out] at this;exact this
 have hq:H (((k==0)=Aw/\b9=Av)\/((k==0)=Av/\(k==1)=Aw/\b9=Av)\/((k==0)=Av/\(k==1)=Av/\(k==2)=Av/\(k==3)=Av)):=by
  rcases hk with ⟨rfl|rfl,h2⟩|⟨h0,h1,h2,h3⟩
  .exact .inl ⟨rfl,d0.symm.trans (Bh (fun q=>h2 (by omega)))⟩
  .exact .inr (.inl ⟨rfl,rfl,d0.symm.trans (Bh (fun q=>h2 (by omega)))⟩)
  .exact .inr (.inr ⟨by simpa using h0,by simpa using h1,by simpa using h2,by simpa using h3⟩)
 rw[i0.out] at RA a0 KE KZ |-;clear h b0 hB m0 hk;go_enter func70,Gn
 go_upto_region 1 with fail
 rw[<-a0.out,<-HD.out,<-HC.out,<-HA.out];go_wp2_with fail
 refine Ax k0.out ?_;rintro e w9 ⟨rfl,g0⟩;obtain rfl:=g0.symm;clear g0 a0 HA HC HD;obtain⟨w8,f0⟩:=nmH (w0.setRow D #[f,V gN n cN,V a2 zl c2,V gW m cW]);have c0:=rr f0 RD;have KF:H (Trn w w8 (fun x=>x=gN\/x=gW)):=Trn.ofBelow _ (by rw[f0.out];exact jG j0 (by omega) _);clear KE KZ;rcases hq.out with ⟨e0,rfl⟩|⟨e0,e1,rfl⟩|⟨e0,e1,e2,e3⟩;all_goals
  go_wp2_with (first|(refine Bg rfl 48 _ rfl A rfl 48 #[f,V gN n cN,V a2 zl c2,V gW m cW] (0,0) _ ?_ Bu rfl Tryz.infoNt ?_;exact RA)|(refine Ca rfl 48 _ _ rfl D #[f,V gN n cN,V a2 zl c2,V gW m cW] rfl rfl 48 #[(),V I 0 0,V I 0 0,V I 0 0] ?_ Tryz.infoNt rfl (by simp[Aq]) ?_;exact RD;rw[<-f0.out]))
  have p0:=c0.cell 0;have p1:=c0.cell 1;have p2:=c0.cell 2;have p3:=c0.cell 3;simp at p0 p1 p2 p3;exact B7 (v:=Ah #[Ai #[f,V gN n cN,V a2 zl c2,V gW m cW],Av]) (by simp[results,Tryz.results70,go_sem,p0,p1,p2,p3]) rfl ⟨_,_,_,rfl,KF⟩
theorem jP3 (B:Nat) (f:Int) (n:Nat) (zs:List Int) (T:Ns) (gN cN:Nat) (a2:OA) (c2 gW cW:Nat) (X9:Nat->Prop) (o:Op9) (a9:OA) (c9:Nat) (w:Ad) (h:NtE w B n T.N zs T.m T.Y gN cN (V a2 zs.length c2) gW cW X9) (hB:B<=w) (hX:∀ b,X9 b->b<w.1.size) (hG:NsG f n zs T) (hO:OpK o) (t9:jK w a9 o.y.p.m o.y.p.S):Ak prog 70 #[ntV f (V gN n cN) (V a2 zs.length c2) (V gW T.m cW),opV o (V a9 o.y.p.m c9)] w fun r w'=>∃ g c mm ok,r=Ae (Ah #[ntV f (V gN n cN) (V a2 zs.length c2) (V (Q g 0 I) mm c),.bool ok])/\Trn w w' (fun x=>x=gN\/x=gW)/\opB f n zs T o=(ok&&decide (mm<=3000))/\(ok=Aw->mm=(nxT f n zs T o).m/\NtE w' B n (nxT f n zs T o).N zs (nxT f n zs T o).m (nxT f n zs T o).Y gN cN (V a2 zs.length c2) g c X9/\(g=gW\/w.1.size<=g)):=by
 have a0:=hG.n10;obtain⟨k,a,y,s⟩:=o;have no:¬ OpP f n zs T ⟨k,a,y,s⟩->∀ w' r,(∃ g c mm,r=Ending.returned (Ah #[ntV f (V gN n cN) (V a2 zs.length c2) (V (Q g 0 I) mm c),Av])/\Trn w w' (fun x=>x=gN\/x=gW))->∃ g c mm ok,r=Ae (Ah #[ntV f (V gN n cN) (V a2 zs.length c2) (V (Q g 0 I) mm c),.bool ok])/\Trn w w' (fun x=>x=gN\/x=gW)/\opB f n zs T ⟨k,a,y,s⟩=(ok&&decide (mm<=3000))/\(ok=Aw->mm=(nxT f n zs T ⟨k,a,y,s⟩).m/\NtE w' B n (nxT f n zs T ⟨k,a,y,s⟩).N zs (nxT f n zs T ⟨k,a,y,s⟩).m (nxT f n zs T ⟨k,a,y,s⟩).Y gN cN (V a2 zs.length c2) g c X9/\(g=gW\/w.1.size<=g)):=by
  rintro hp w' r ⟨g,c,mm,rfl,t⟩;exact⟨g,c,mm,Av,rfl,t,by rw[jF7 hp];rfl,fun e=>by cases e⟩
 have b0:∀ T':Ns,nxT f n zs T ⟨k,a,y,s⟩=T'->(OpP f n zs T ⟨k,a,y,s⟩↔T'.m<=3000)->∀ w' r,(∃ g c,r=Ending.returned (Ah #[ntV f (V gN n cN) (V a2 zs.length c2) (V (Q g 0 I) T'.m c),Aw])/\Trn w w' (fun x=>x=gN\/x=gW)/\NtE w' B n T'.N zs T'.m T'.Y gN cN (V a2 zs.length c2) g c X9/\(g=gW\/w.1.size<=g))->∃ g c mm ok,r=Ae (Ah #[ntV f (V gN n cN) (V a2 zs.length c2) (V (Q g 0 I) mm c),.bool ok])/\Trn w w' (fun x=>x=gN\/x=gW)/\opB f n zs T ⟨k,a,y,s⟩=(ok&&decide (mm<=3000))/\(ok=Aw->mm=(nxT f n zs T ⟨k,a,y,s⟩).m/\NtE w' B n (nxT f n zs T ⟨k,a,y,s⟩).N zs (nxT f n zs T ⟨k,a,y,s⟩).m (nxT f n zs T ⟨k,a,y,s⟩).Y gN cN (V a2 zs.length c2) g c X9/\(g=gW\/w.1.size<=g)):=by
  rintro T' eT hp w' r ⟨g,c,rfl,t,e,hg⟩;refine⟨g,c,T'.m,Aw,rfl,t,?_,fun _=>⟨by rw[eT],by rw[eT];exact e,hg⟩⟩;rw[Gy];by_cases q:T'.m<=3000
  .rw[Bf q,jJ4 (hp.2 q)]
  .rw[Bh q,jF7 (fun k=>q (hp.1 k))]
 by_cases k0:k=0
 .subst k0;by_cases ha:0<=a/\a<T.m
  .obtain⟨a7,rfl⟩:∃ k:Nat,a=(k:Int):=⟨a.toNat,by omega⟩;refine(jMz B f n zs T T.m gN cN a2 c2 gW cW X9 a7 y s _ w rfl h hB hX hG (by omega)).mono (fun r w' k=>b0 (hrT n zs T a7) (by unfold nxT;rw[A6 rfl];rfl) ⟨fun q=>?_,fun q=>.inl ⟨rfl,ha,q⟩⟩ w' r k);rcases q with q|q|q|q
   .exact q.2.2
   .exact Bo q.1 (by simp)
   .exact Bo q.1 (by simp)
   .exact Bo q.1 (by simp)
  .refine(jE6 B f n T.N zs T.m T.Y gN cN a2 c2 gW cW X9 0 a y s _ w h hB a0.2.2.1 (.inl ⟨.inl rfl,ha⟩)).mono (fun r w' k=>no (fun q=>?_) w' r k);rcases q with q|q|q|q
   .exact ha q.2.1
   .exact Bo q.1 (by simp)
   .exact Bo q.1 (by simp)
   .exact Bo q.1 (by simp)
 by_cases k1:k=1
 .subst k1;by_cases ha:0<=a/\a<T.m
  .obtain⟨a7,rfl⟩:∃ k:Nat,a=(k:Int):=⟨a.toNat,by omega⟩;refine(jKs B f n T.N zs T.m T.Y gN cN a2 c2 gW cW X9 a7 y (T.Y a7) s _ w h hB hX a0.2.2.1 (by omega) rfl (hG.y a7 (by omega)).m).mono (fun r w' k=>b0 ⟨T.N,T.m+1,wyS T.m T.Y (fun _=>T.Y a7)⟩ (by unfold nxT;rw[A5 (by simp),A6 rfl];rfl) ⟨fun q=>?_,fun q=>.inr (.inl ⟨rfl,ha,q⟩)⟩ w' r k);rcases q with q|q|q|q
   .exact Bo q.1 (by simp)
   .exact q.2.2
   .exact Bo q.1 (by simp)
   .exact Bo q.1 (by simp)
  .refine(jE6 B f n T.N zs T.m T.Y gN cN a2 c2 gW cW X9 1 a y s _ w h hB a0.2.2.1 (.inl ⟨.inr rfl,ha⟩)).mono (fun r w' k=>no (fun q=>?_) w' r k);rcases q with q|q|q|q
   .exact Bo q.1 (by simp)
   .exact ha q.2.1
   .exact Bo q.1 (by simp)
   .exact Bo q.1 (by simp)
 by_cases k2:k=2
 .subst k2;by_cases hl:y.f∈zs/\(0<=y.t/\y.t<n)
  .refine(jP4 B f n T.N zs T.m T.Y gN cN a2 c2 gW cW X9 a y s a9 c9 w h hB hX a0.2.2.1 (by omega) (by omega) hl.1 hl.2 t9 hO.y.m).mono (fun r w' k=>b0 ⟨T.N,T.m+1,wyS T.m T.Y (fun _=>y)⟩ (by unfold nxT;rw[A5 (by simp),A5 (by simp),A6 rfl]) ⟨fun q=>?_,fun q=>.inr (.inr (.inl ⟨rfl,hl.1,hl.2,q⟩))⟩ w' r k);rcases q with q|q|q|q
   .exact Bo q.1 (by simp)
   .exact Bo q.1 (by simp)
   .exact q.2.2.2
   .exact Bo q.1 (by simp)
  .refine(jKr B f n T.N zs T.m T.Y gN cN a2 c2 gW cW X9 a y s a9 c9 w h hB a0.2.2.1 (by omega) (by omega) hl).mono (fun r w' k=>no (fun q=>?_) w' r k);rcases q with q|q|q|q
   .exact Bo q.1 (by simp)
   .exact Bo q.1 (by simp)
   .exact hl ⟨q.2.1,q.2.2.1⟩
   .exact Bo q.1 (by simp)
 by_cases k3:k=3
 .subst k3;refine(jKq B f n T.N zs T.m T.Y gN cN a2 c2 gW cW X9 a y s _ w h hB hX a0.2.2.1 hO.s).mono ?_;rintro r w' ⟨g,c,rfl,t,e,hg⟩;cases hb:brB s f with
  | true=>
   refine b0 ⟨T.N,T.m+brN s f,wyS T.m T.Y (brS s f)⟩ (by unfold nxT;rw[A5 (by simp),A5 (by simp),A5 (by simp)]) ⟨fun q=>?_,fun q=>.inr (.inr (.inr ⟨rfl,hb,q⟩))⟩ w' _ ⟨g,c,rfl,t,e,hg⟩;rcases q with q|q|q|q
   .exact Bo q.1 (by simp)
   .exact Bo q.1 (by simp)
   .exact Bo q.1 (by simp)
   .exact q.2.2
  | false=>
   refine no (fun q=>?_) w' _ ⟨g,c,_,rfl,t⟩;rcases q with q|q|q|q
   .exact Bo q.1 (by simp)
   .exact Bo q.1 (by simp)
   .exact Bo q.1 (by simp)
   .rw[show brB s f=Aw from q.2.1] at hb;cases hb
 .refine(jE6 B f n T.N zs T.m T.Y gN cN a2 c2 gW cW X9 k a y s _ w h hB a0.2.2.1 (.inr ⟨k0,k1,k2,k3⟩)).mono (fun r w' k=>no (fun q=>?_) w' r k);rcases q with q|q|q|q
  .exact k0 q.1
  .exact k1 q.1
  .exact k2 q.1
  .exact k3 q.1
end Go.Proofs.YtcaejlalnjnifaaGreat
