import Derived.Test.YtcaejlalnjnifaaGreatR31
import Derived.Test.YtcaejlalnjnifaaGreatR29
import Derived.Test.YtcaejlalnjnifaaGreatR30
import Derived.Test.YtcaejlalnjnifaaGreatR28
set_option maxHeartbeats 8000000
set_option maxRecDepth 2000
open Go.Value renaming slice->V,pointer->Af,string->Ag,tuple->Ah,agg->Ai,int->Ao,oneCell'->Aq
open Option renaming none->I,some->M
open Go.RowKit renaming Hid->H,Below->Ab
open Go.Addr renaming mk->Q
open Go renaming undef->O,World->Ad,Value->Aj,Calls->Ak,Addr->Al,maxLen->Au
open Go.Obj renaming cells->J
open Go.Ending renaming returned->Ae
open Go.IntKind renaming i64->Ar
open Bool renaming false->Av,true->Aw
open Go.Proofs.Tryz
open Go.ChangeShapes Go.WideShapes Go.ChangeAt Go.RowKit
namespace Go.Proofs.YtcaejlalnjnifaaGreat
structure HdX (B:Nat) (W:Ad) (d:Nd) (y:Sy) (a:OA) (cap:Nat) (av:OA) (cv:Nat) (sa:OA) (sc:Nat) (F1 F2:Nat->Prop):Prop where
 v:(V av (hdN d y).n cv=V a d.n cap/\hdN d y=d)\/Ow W B (qH (hdN d y).n (hdN d y).S) (V av (hdN d y).n cv) F1
 y:Rf W (fun b=>¬ F2 b) (qI (hdM d y) (hdY d y)) (V sa (hdM d y) sc)
 f:∀ x,F1 x\/F2 x->B<=x/\x<W.1.size
theorem HdX.turn {B:Nat} {W W':Ad} {d:Nd} {y:Sy} {a:OA} {cap:Nat} {av:OA} {cv:Nat} {sa:OA} {sc:Nat} {F1 F2:Nat->Prop} (h:HdX B W d y a cap av cv sa sc F1 F2) (hs:W.1.size<=W'.1.size) (ht:∀ x,F1 x\/F2 x->W'.1[x]?=W.1[x]?):HdX B W' d y a cap av cv sa sc F1 F2:=
 ⟨h.v.imp id (fun o=>o.frame fun x hx _=>ht x (.inl hx)),h.y.turn hs (fun b hb _=>ht b (.inr (Classical.not_not.1 hb))),fun x hx=>⟨(h.f x hx).1,Bu (h.f x hx).2 hs⟩⟩
theorem HdX.below {B:Nat} {W W':Ad} {d:Nd} {y:Sy} {a:OA} {cap:Nat} {av:OA} {cv:Nat} {sa:OA} {sc:Nat} {F1 F2:Nat->Prop} (h:HdX B W d y a cap av cv sa sc F1 F2) (hb:Ab W W W'):HdX B W' d y a cap av cv sa sc F1 F2:=h.turn hb.size (fun x hx=>hb.block x (h.f x hx).2)
theorem HdX.base {B B':Nat} {W:Ad} {d:Nd} {y:Sy} {a:OA} {cap:Nat} {av:OA} {cv:Nat} {sa:OA} {sc:Nat} {F1 F2:Nat->Prop} (h:HdX B W d y a cap av cv sa sc F1 F2) (hB:B'<=B):HdX B' W d y a cap av cv sa sc F1 F2:=
 ⟨h.v.imp id (fun o=>o.base hB),h.y,fun x hx=>⟨By hB (h.f x hx).1,(h.f x hx).2⟩⟩
theorem jRo {d:Nd} {y:Sy} (h:nhB d.i d.f d.n d.S y=Av):hdN d y=d/\hdM d y=0:=by
 unfold hdN hdM;simp only[nhN,nhS,nhM,h];exact⟨rfl,rfl⟩
theorem jJm (d:Nd) (bi bf:Int) (a:OA) (cap:Nat) (y:Sy) (a9:OA) (c9:Nat) (w:Ad) (hT:Rd w (qH d.n d.S) (V a d.n cap)) (h9:jL w a9 y.p.m y.p.S) (hB:NhB d.n d.S y) (hN:NdP d.i d.f d.n d.S):Ak prog 169 #[seV d.i d.f (V a d.n cap) bi bf,syV y (V a9 y.p.m c9)] w fun e w'=>∃ av cv sa sc F1 F2,e=Ae (Ah #[seV d.i d.f (V av (hdN d y).n cv) bi bf,V sa (hdM d y) sc])/\HdX w w' d y a cap av cv sa sc F1 F2/\Ab w w w':=by
 have hf:=ZG hN.1;cases e:vL d.i d.f d.n d.S y with
 | false=>
  have hb:nhB d.i d.f d.n d.S y=Av:=by unfold nhB;rw[e,Bool.and_false]
  obtain⟨e1,e2⟩:=jRo hb;refine(jMi d.i d.f bi bf a d.n cap d.S y a9 c9 w hT hB hf e).mono ?_;rintro e w' ⟨g,rfl,b⟩;refine⟨a,cap,M (Q g 0 I),0,fun _=>False,fun _=>False,by rw[e1,e2],⟨.inl ⟨by rw[e1],e1⟩,?_,fun x hx=>(hx.elim id id).elim⟩,b⟩;rw[e2];exact fun W' _ _=>Rd.nil _ _ _ _ _ _
 | true=>
  have hb:nhB d.i d.f d.n d.S y=Aw:=by unfold nhB;rw[e,jAe hN];rfl
  have hk:=(QR e).2.2.1;refine(jJn d.i d.f bi bf a d.n cap d.S y a9 c9 w hT h9 hB hf e hk (jJp hB hN)).mono ?_;rintro e w' ⟨g,c1,sa,sc,F1,F2,rfl,o1,o2,_,b⟩;have e1:hdN d y=⟨d.i,d.f,hrN d.S y.r d.n,hvS d.i d.f (slF d.S y.r d.n) (plN d.S y.r d.n) y⟩:=by unfold hdN;simp only[nhN,nhS,hb,C0]
  have e2:hdM d y=hvM d.i d.f (slF d.S y.r d.n) (plN d.S y.r d.n) y:=by unfold hdM;simp only[nhM,hb,C0]
  have e3:hdY d y=hvY d.i (slF d.S y.r d.n) (plN d.S y.r d.n) y:=by unfold hdY;simp only[nhY,hb,C0]
  refine⟨M (Q g 0 I),c1,sa,sc,(fun x=>F1 x/\w.1.size<=x/\x<w'.1.size),(fun x=>F2 x/\w.1.size<=x/\x<w'.1.size),by rw[e1,e2],⟨.inr (by rw[e1];exact o1.cut),?_,fun x hx=>?_⟩,b⟩
  .rw[e2,e3];exact Rf.of_ow o2.cut (fun x hx h=>h hx)
  .rcases hx with hx|hx <;> exact hx.2
theorem jD1 (w:Ad) (a:Al) (v:Aj) (h:w.cell? a=M v):w.setCell a v=w:=by
 unfold World.cell? at h;cases w with
 | mk heap tape drawn os output=>
  unfold World.setCell;congr 1
  apply Array.ext
  .simp
  .intro k h1 h2;simp only[Array.getElem_modify];split
   .rename_i hk
    subst hk;simp only[C8 h2] at h;split at h
    .rename_i c t fr e
     rw[Option.some.injEq] at e;rw[e];split at h
     .cases h
     .rename_i hs
      simp only[hs];congr 1
      apply Array.ext
      .simp
      .intro i i1 i2;by_cases e9:a.off=i
       .subst e9;rw[C8 i2] at h;simp at h;simp[h]
       .exact Array.getElem_setIfInBounds_ne i2 e9
    .cases h
   .rfl
theorem QZ:∀ (vs:List Aj) (b o:Nat) (w:Ad),w.rangeAt b o vs->w.setCells b o vs=w
 | [],_,_,_,_=>rfl
 | v::r,b,o,w,h=>by
  have h0:w.cell? (Q b o I)=M v:=h 0 v rfl;rw[World.setCells,jD1 w _ _ h0];exact QZ r b (o+1) w (fun j u hu=>by have:=h (j+1) u (by simpa using hu);rw[show o+1+j=o+(j+1) by omega];exact this)
theorem HaK.wider {W:Ad} {B Hb:Nat} {f:Int} {n:Nat} {N:Nat->Nd} {zs:List Int} {vs vl:Aj} {b m:Nat} {Y:Nat->Sy} {vw:Aj} {Fs Fl Fw F1:Nat->Prop} (h:HaK W B Hb f n N zs vs vl b m Y vw Fs Fl Fw) (hF:∀ x,F1 x->¬ Fs x/\¬ Fl x/\¬ Fw x/\x≠Hb/\x≠b/\B<=x/\x<W.1.size):HaK W B Hb f n N zs vs vl b m Y vw (fun x=>Fs x\/F1 x) Fl Fw:=
 ⟨h.r,h.s.mono (fun x hx=>.inl hx),h.z,h.k,h.y,fun x hx=>hx.elim (h.d1 x) (fun k=>(hF x k).2.1),fun x hx=>hx.elim (h.d2 x) (fun k=>(hF x k).2.2.1),h.d3,fun x hx=>by
  rcases hx with (hx|hx)|hx
  .exact h.h x (.inl hx)
  .exact(hF x hx).2.2.2
  .exact h.h x (.inr hx),h.b⟩
theorem HdX.away {B1:Nat} {W:Ad} {d:Nd} {y:Sy} {a:OA} {cap:Nat} {av:OA} {cv:Nat} {sa:OA} {sc:Nat} {F1 F2:Nat->Prop} (h:HdX B1 W d y a cap av cv sa sc F1 F2) {B Hb b:Nat} {Fs Fl Fw:Nat->Prop} (hB:B<=B1) (ho:∀ x,Fs x\/Fl x\/Fw x\/x=Hb\/x=b->x<B1):∀ x,F1 x->¬ Fs x/\¬ Fl x/\¬ Fw x/\x≠Hb/\x≠b/\B<=x/\x<W.1.size:=fun x hx=>by
 have h1:=h.f x (.inl hx);exact⟨fun k=>by have:=ho x (.inl k);omega,fun k=>by have:=ho x (.inr (.inl k));omega,fun k=>by have:=ho x (.inr (.inr (.inl k)));omega,fun k=>by have:=ho x (.inr (.inr (.inr (.inl k))));omega,fun k=>by have:=ho x (.inr (.inr (.inr (.inr k))));omega,by omega,h1.2⟩
theorem jHn (B Hb:Nat) (f:Int) (n:Nat) (N:Nat->Nd) (zs:List Int) (gs cs:Nat) (vl:Aj) (b m:Nat) (Y:Nat->Sy) (vw:Aj) (Fs Fl Fw:Nat->Prop) (a7 t:Nat) (d:Nd) (y:Sy) (w:Ad) (h:HaK w B Hb f n N zs (V gs n cs) vl b m Y vw Fs Fl Fw) (hm:m<=3000) (ha:a7<m) (y2:t<n) (Hy:H (Y a7=y)) (Hd:H (N t=d)) (Ht:H (y.t=(t:Int))) (hz:y.t∉zs) (hN:NdP d.i d.f d.n d.S) (hB:NhB d.n d.S y):Ak prog 132 #[Af Hb,(a7:Int)] w fun e w'=>e=Ae (decide (m-1+hdM d y<=3000))/\(3000<m-1+hdM d y->∃ m0 p0 q0,HaK w' B Hb f n N zs (V gs n cs) vl b m Y m0 p0 Fl q0/\Trn w w' (fun x=>x=Hb\/Fs x\/Fw x))/\(m-1+hdM d y<=3000->∃ m0 p0 q0,HaK w' B Hb f n (fun i=>if i=t then hdN d y else N i) zs (V gs n cs) vl b (m-1+hdM d y) (wyS (m-1) (QK a7 Y) (hdY d y)) m0 p0 Fl q0/\Trn w w' (fun x=>x=Hb\/Fs x\/Fw x)):=by
 obtain⟨a3,c3,rfl,_⟩:=h.y.shape;have p1:=xG Hb _ _ _ _ a3 m c3 (a7:Int) w h.r;rw[Bf ⟨by omega,by omega⟩] at p1;have KO:H _:=p1;obtain⟨bb,fb,a9,c9,rfl,r1,t9⟩:=zZ h.y.rd ha;rw[Hy.out] at r1 t9;have k2:=hd r1;obtain⟨X,HX⟩:=nmH w.1.size;obtain⟨w0,x0⟩:=nmH (w.alloc (J (syC y (V a9 y.p.m c9)) 31));have R0:=(jZ x0 HX).out;have b0:=bl1 x0;have h0:=h.below b0;obtain⟨w1,f2⟩:=nmH w0.drew;have u1:Ab w0 w0 w1:=by rw[f2.out];exact jD w0
 have n1:=XG Hb b f zs _ _ _ y.t w0 h0.r h0.k;rw[<-f2.out,Bg hz] at n1;have q1:=XH Hb _ _ _ _ gs n cs y.t w0 h0.r;rw[Bf (show 0<=y.t/\y.t<n from by rw[Ht.out];omega)] at q1;have KL:H _:=n1;have KS:H _:=q1;obtain⟨bs,os,yv,ea,f3,o0⟩:=h.s.rd.row y2;obtain⟨rfl,rfl⟩:gs=bs/\0=os:=by simp at ea;exact⟨ea.1,ea.2⟩
 have r2:Rd w (qH d.n d.S) (yv 2):=by have:=o0 2 (by omega);rw[Hd.out] at this;exact this
 obtain⟨an,cn,e2⟩:=r2.shape;rw[e2] at r2;have g0:yv 0=Ao Ar d.i:=by have:=o0 0 (by omega);rw[Hd.out] at this;exact this
 have g1:yv 1=Ao Ar d.f:=by have:=o0 1 (by omega);rw[Hd.out] at this;exact this
 have g3:=o0 3 (by omega);have g4:=o0 4 (by omega);have f0:=hd (jA b0 u1);have RG:H (∀ W,Ab w1 w1 W->W.rangeAt gs (t*5) [d.i,d.f,V an d.n cn,(t:Int),f]):=fun W hW j v hv=>by
  have hj:j<5:=by
   rcases Fz j 5 with k|k
   .exact k
   .rw[Be (by simpa using k)] at hv;cases hv
  have e1:w.cell? (Q gs (t*5+j) I)=M v:=by
   have:=f3 j hj
   rw[Bt] at this;rw[this];match j,hj with
   | 0,_=>rw[g0];simpa using hv
   | 1,_=>rw[g1];simpa using hv
   | 2,_=>rw[e2];simpa using hv
   | 3,_=>rw[g3];simpa using hv
   | 4,_=>rw[g4];simpa using hv
  exact((jA f0 hW).cell (A7 e1)).trans e1
 have v0:Fs gs/\gs<w/\∀ j,w.frozen? (Q gs j I)=Av:=by
  obtain⟨a',u3,c,G,e,ho,hs,hr⟩:=h.s;cases e;have k:=hs.head _ rfl;exact⟨k,(h.h gs (.inl k)).2.2.2,fun j=>B0 ho j⟩
 have i2:=hd v0.1;have f1:H (∀ j,j<5->∀ W,Ab w1 w1 W->(W.cell? (Q gs (t*5+j) I)).isSome=Aw/\W.frozen? (Q gs (t*5+j) I)=Av):=fun j hj W hW=>by
  refine⟨?_,?_⟩
  .rw[RG.out W hW j ([Ao Ar d.i,Ao Ar d.f,V an d.n cn,Ao Ar (t:Int),Ao Ar f].getD j O) (by match j,hj with|0,_|1,_|2,_|3,_|4,_=>rfl)];rfl
  .rw[(jA f0.out hW).frozen (p:=Q gs (t*5+j) I) v0.2.1];exact v0.2.2 _
 obtain⟨N1,i1⟩:=nnH ((hdN d y).n);obtain⟨M1,r0⟩:=nnH (hdM d y);have v3:M1<=10:=by rw[<-r0.out];exact jOj hN
 have i3:H (∀ i,i<M1->SyK (hdY d y i)):=fun i hi=>by rw[<-r0.out] at hi;exact jOi hN hB.r hi
 have KH:H (∀ W,Ab w1 w1 W->Ak prog 169 #[Ai #[d.i,d.f,V an d.n cn,(t:Int),f],Ai (syC y (V a9 y.p.m c9))] W fun e w'=>∃ av cv sa sc F1 F2,e=Ae (Ah #[Ai #[d.i,d.f,V av N1 cv,(t:Int),f],V sa M1 sc])/\HdX W.1.size w' d y an cn av cv sa sc F1 F2/\Ab W.1.size W w'):=fun W hW=>by
  have:=jJm d (t:Int) f an cn y a9 c9 W ((r2.below f0).below hW) ((t9.below f0).below hW) hB hN
  rw[i1.out,r0.out] at this;exact this
 have RH:=hd (h.r.below f0 h.r.lt);have RX:=hd (R0.below u1 R0.lt);have m1:=hd h;have s3:=f0.size;have b2:=RH.lt;have r3:gs<w1:=by have:=v0.2.1;omega
 have a2:∀ x,Fw x->x<w1.1.size:=fun x hx=>by have:=(h.h x (.inr (.inr hx))).2.2.2;omega
 have y1:B<=w1:=by have h1:=h.b.2.2;omega
 have g2:H (∀ x,Fs x\/Fl x\/Fw x\/x=Hb\/x=b->x<w1.1.size):=fun x hx=>by
  rcases hx with k|k|k|k|k
  .have:=(h.h x (.inl k)).2.2.2;omega
  .have:=(h.h x (.inr (.inl k))).2.2.2;omega
  .exact a2 x k
  .rw[k];exact b2
  .rw[k];obtain⟨es,ck,e,_⟩:=h.k;have:=(Bz.1 e).1
   omega
 have y3:(a7:Int)<(m:Int):=by omega
 have a4:(t:Int)<(n:Int):=by omega
 have x4:=h.r.cell 4;have x2:=R0.cell 2;simp at x4 x2;rw[r0.out];have z3:1<=m:=by omega
 clear h h0 b0 u1 n1 q1 p1 R0 r1 t9 hz hN hB f3 o0 r2 e2 g0 g1 g3 g4 ea v0 s3;go_enter func132,ntmps132
 go_wp2_with fail
 refine CM KO.out fun w9 j0=>?_
 obtain rfl:=j0.symm;clear j0;go_wp2_with (refine Bv rfl 31 _ rfl bb (fb+a7*10) rfl (syC y (V a9 y.p.m c9)).toList _ ?_ Ci rfl Tryz.infoSy ?_;exact k2)
 rw[<-x0.out,<-HX.out];go_wp2_with fail
 refine CM KS.out fun w9 j0=>?_
 obtain rfl:=j0.symm;clear j0;go_wp2_with fail
 refine CM KL.out fun w9 j0=>?_
 obtain rfl:=j0.symm;clear j0;clear x2 x4 KS KL KO k2 x0;go_upto_region 7 with fail
 refine JP Tryz.mixed 16 [([],[9,14]),([0],[9,14]),([1],[9,14]),([2],[3,9,14]),([],[9,14]),([4],[5,9,14]),([3,5],[9,14]),([6],[7,9,14]),([],[8,9,14]),([7,8],[9,10,11,12,14,15]),([9],[14]),([9,10],[14]),([9,10],[]),([],[13,14]),([9,11,13],[14]),([9,12],[])] (by kernel_rfl) (fun L A9 W=>∃ (x6:Nat) (av:OA) (cv:Nat) (sa:OA) (sc:Nat) (F1:Nat->Prop) (F2:Nat->Prop),A9=⟨(List.toArray (α:=Aj) ((Af Hb)::((a7:Int))::O::O::(Av)::(Af X)::(cX (L 13) (Af x6) O)::(cX (L 15) (V sa M1 sc) O)::(Af Hb)::((a7:Int))::(Aw)::(Av)::(Af Hb)::(Af Hb)::(Af (Q Hb 4 I))::(V (Q bb fb I) m c3)::((a7:Int))::(Af (Q bb (fb+a7*10) I))::(Ai #[y.k,y.f,y.t,y.r,y.p.r,y.p.k,y.p.n,y.p.i,y.p.b,V a9 y.p.m c9])::(Af Hb)::(Af (Q X 2 I))::(y.t)::(Aw)::(Av)::(Av)::(Af Hb)::(Af (Q X 2 I))::(y.t)::(Av)::(Av)::O::O::O::(cX (L 10) (Ah #[Ai #[d.i,d.f,V av N1 cv,(t:Int),f],V sa M1 sc]) O)::(cX (L 0) (Af Hb) O)::(cX (L 1) (Af Hb) O)::(cX (L 2) (Af (Q Hb 1 I)) O)::(cX (L 3) (V gs n cs) O)::(cX (L 4) (Af (Q X 2 I)) O)::(cX (L 5) (t:Int) O)::(cX (L 6) (Af (Q gs (t*5) I)) O)::(cX (L 7) (Ai #[d.i,d.f,V an d.n cn,(t:Int),f]) O)::(cX (L 8) (Ai (syC y (V a9 y.p.m c9))) O)::(cX (L 9) (Ah #[Ai #[d.i,d.f,V av N1 cv,(t:Int),f],V sa M1 sc]) O)::(cX (L 11) (Ai #[d.i,d.f,V av N1 cv,(t:Int),f]) O)::(cX (L 12) (V sa M1 sc) O)::O::O::O::O::O::O::O::O::O::O::O::O::O::O::O::O::O::O::O::O::O::O::O::O::[])),[]⟩/\(Ab w1 w1 W)/\(L 13=Aw->L 14=Av->Row W x6 124 #[(),(),V I 0 0,(),()]/\w1.1.size<=x6)/\(L 14=Aw->Row W x6 124 #[d.i,d.f,V av N1 cv,(t:Int),f]/\w1.1.size<=x6)/\(L 9=Aw->HdX w1 W d y an cn av cv sa sc F1 F2)/\(L 9=Aw->L 13=Aw->¬ F1 x6/\¬ F2 x6)) ?_ ?_ ?_
 .exact⟨0,I,0,I,0,fun _=>False,fun _=>False,rfl,jD _,(fun h=>by cases h),(fun h=>by cases h),(fun h=>by cases h),(fun h=>by cases h)⟩
 .rintro a9 wx ⟨x6,av,cv,sa,sc,F1,F2,t0,w2,-,u0,a1,b1⟩;simp only[Nat.reduceLT,Dp,jJ] at t0;subst t0;replace u0:=(u0 rfl)
  replace a1:=(a1 rfl)
  replace b1:=(b1 rfl rfl)
  have KX:=hd a1;have j1:H (Row wx x6 124 #[d.i,d.f,V av N1 cv,(t:Int),f]/\w1.1.size<=x6/\¬ F1 x6/\¬ F2 x6):=⟨u0.1,u0.2,b1⟩;have i0:=hd w2;clear w2 u0 a1 b1;have z4:=(RH.below i0 RH.lt).cell 4;simp at z4;by_cases cM:3000<m-1+M1
  .have j3:(3000:Int)<(m:Int)-1+(M1:Int):=by omega
   have KE:H (HaK wx B Hb f n N zs (V gs n cs) vl b m Y (V (Q bb fb I) m c3) Fs Fl Fw/\Trn w wx (fun x=>x=Hb\/Fs x\/Fw x)):=⟨m1.below (jA f0 i0),Trn.ofBelow _ (jA f0 i0)⟩;go_wp2
   go_ret
   exact⟨(by have h9:decide (m-1+M1<=3000)=Av:=Bg (by omega);rw[h9];rfl),fun _=>⟨_,_,_,KE.out⟩,fun h9=>Bo h9 (by omega)⟩
  have j3:¬ (3000:Int)<(m:Int)-1+(M1:Int):=by omega
  have z1:=(RH.below i0 RH.lt).cell 1;have z2:=(RX.below i0 RX.lt).cell 2;simp at z1 z2;rw[Ht.out] at z2;have K6:=hd (j1.1.below (jD wx) j1.1.lt);have n2:H (wx.drew.there gs (t*5) 5):=fun j hj=>(f1 j hj _ (jA i0 (jD wx)))
  have c1:H (HaK (wx.drew.setCells gs (t*5) [d.i,d.f,V av N1 cv,(t:Int),f]) B Hb f n (fun i=>if i=t then hdN d y else N i) zs (V gs n cs) vl b m Y (V (Q bb fb I) m c3) (fun x=>Fs x\/F1 x) Fl Fw/\Trn w (wx.drew.setCells gs (t*5) [d.i,d.f,V av N1 cv,(t:Int),f]) (fun x=>x=Hb\/Fs x\/Fw x)/\Rf (wx.drew.setCells gs (t*5) [d.i,d.f,V av N1 cv,(t:Int),f]) (fun x=>x<w1.1.size) (qI M1 (hdY d y)) (V sa M1 sc)):=by
   have p2:=m1.below (jA f0 (jA i0 (jD wx)));have s0:=KX.below (jD wx);have v2:=s0.v;have b3:=s0.y;rw[i1.out] at v2;rw[r0.out] at b3;have s1:=f0.size;have s2:=i0.size;refine⟨?_,?_,?_⟩
   .rcases v2 with ⟨e1,e2⟩|o1
    .have eN:(fun i=>if i=t then hdN d y else N i)=N:=by
      funext i
      by_cases e:i=t
      .subst e;rw[A6 rfl,e2,Hd.out]
      .rw[A5 e]
     rw[eN,e1,QZ _ _ _ _ (RG.out _ (jA i0.out (jD wx)))];exact p2.wider (fun x hx=>s0.away y1 g2 x hx)
    .have hs:=p2.seated y2 (hdN d y) (V av N1 cv) F1 (by rw[i1.out];exact o1.base y1) (fun x hx=>s0.away y1 g2 x hx);exact hs
   .have t1:=Trn.ofBelow (fun x=>x=Hb\/Fs x\/Fw x) (jA f0 (jA i0 (jD wx)));exact t1.trans ⟨(qZ _ _ _ _).1,(qZ _ _ _ _).2.1,(qZ _ _ _ _).2.2,Gv (jQ _ _ _ _).symm,fun x _ hn=>jG gs _ _ _ x (fun e=>hn (.inr (.inl (e▸i2.out))))⟩
   .refine(b3.mono (fun x hx k=>?_)).turn (Gv (jQ _ _ _ _).symm) (fun x hx _=>jG gs _ _ _ x (fun e=>hx (e▸r3)));have:=(s0.f x (.inr k)).1
    omega
  clear KX j1 i0 m1 f0 RG RH RX f1 i2;go_upto_region 10 with fail
  clear z4;refine JP Tryz.mixed 9 [([],[0,8]),([0],[1,8]),([1],[2,8]),([2],[3,8]),([],[4,8]),([4],[5,8]),([],[6,8]),([3,5],[7,8]),([6,7],[8])] (by kernel_rfl) (fun L A9 W=>A9=⟨(List.toArray (α:=Aj) ((Af Hb)::((a7:Int))::O::O::(Av)::(Af X)::(Af x6)::(V sa M1 sc)::(Af Hb)::((a7:Int))::(Aw)::(Av)::(Af Hb)::(Af Hb)::(Af (Q Hb 4 I))::(V (Q bb fb I) m c3)::((a7:Int))::(Af (Q bb (fb+a7*10) I))::(Ai #[y.k,y.f,y.t,y.r,y.p.r,y.p.k,y.p.n,y.p.i,y.p.b,V a9 y.p.m c9])::(Af Hb)::(Af (Q X 2 I))::(y.t)::(Aw)::(Av)::(Av)::(Af Hb)::(Af (Q X 2 I))::(y.t)::(Av)::(Av)::O::O::O::(Ah #[Ai #[d.i,d.f,V av N1 cv,(t:Int),f],V sa M1 sc])::(Af Hb)::(Af Hb)::(Af (Q Hb 1 I))::(V gs n cs)::(Af (Q X 2 I))::((t:Int))::(Af (Q gs (t*5) I))::(Ai #[d.i,d.f,V an d.n cn,(t:Int),f])::(Ai (syC y (V a9 y.p.m c9)))::(Ah #[Ai #[d.i,d.f,V av N1 cv,(t:Int),f],V sa M1 sc])::(Ai #[d.i,d.f,V av N1 cv,(t:Int),f])::(V sa M1 sc)::(Af Hb)::(Af Hb)::(Af (Q Hb 4 I))::(V (Q bb fb I) m c3)::((m:Int))::(((m:Int)-1:Int))::(V sa M1 sc)::((M1:Int))::(((m:Int)-1+(M1:Int):Int))::(Av)::(cX (L 0) (Af Hb) O)::(cX (L 1) (Af Hb) O)::(cX (L 2) (Af (Q Hb 1 I)) O)::(cX (L 3) (V gs n cs) O)::(cX (L 4) (Af (Q X 2 I)) O)::(cX (L 5) (t:Int) O)::(cX (L 6) (Ai #[d.i,d.f,V av N1 cv,(t:Int),f]) O)::(cX (L 7) (Af (Q gs (t*5) I)) O)::O::O::O::O::O::O::[])),[]⟩/\(L 8=Av->W=wx.drew)/\(L 8=Aw->W=wx.drew.setCells gs (t*5) [d.i,d.f,V av N1 cv,(t:Int),f])) ?_ ?_ ?_
  .exact⟨rfl,(fun _=>rfl),(fun h=>by cases h)⟩
  .rintro a9 wx ⟨t0,-,z0⟩;simp only[Nat.reduceLT,Dp,jJ] at t0;subst t0;replace z0:=(z0 rfl)
   have KA:H (HaK wx B Hb f n (fun i=>if i=t then hdN d y else N i) zs (V gs n cs) vl b m Y (V (Q bb fb I) m c3) (fun x=>Fs x\/F1 x) Fl Fw/\Trn w wx (fun x=>x=Hb\/Fs x\/Fw x)/\Rf wx (fun x=>x<w1.1.size) (qI M1 (hdY d y)) (V sa M1 sc)):=by rw[z0];exact c1
   clear z0 c1 n2 K6 z1 z2;go_wp2_with fail
   refine Ax (jC2 B Hb f _ vl (.map (M b)) m Y _ Fw a7 wx KA.1.hw ha hm) ?_;rintro e w3 ⟨rfl,m0,hk,t3⟩;have q2:=KA.1.sent hk t3 (fun _ hx=>.inl hx) (fun x hx=>Bu (KA.1.h x (.inr (.inr hx))).2.2.2 t3.size);have j2:=hd (KA.2.2.turn t3.size (fun x hx hl=>t3.block x hl (fun e=>hx (e.elim (fun e=>e▸b2) (fun e=>a2 x e)))));have m2:=hd (KA.2.1.trans (t3.mono (fun x hx=>hx.elim .inl (fun k=>.inr (.inr k)))));have n0:=hd q2;clear hk t3 q2 KA;have o3:B<=w3:=by have h1:=n0.b.2.2;have h2:=n0.r.lt;omega
   have p3:∀ x,Fw x->x<w3.1.size:=fun x hx=>(n0.h x (.inr (.inr hx))).2.2.2
   go_wp2_with fail
   refine Ax (QL B Hb f _ vl (.map (M b)) (m-1) (QK a7 Y) m0 Fw sa M1 sc (hdY d y) w3 n0.hw (by omega) i3.out o3 p3 (fun c W _ hW _=>(j2.out.turn hW.size (fun x hx hl=>hW.block x hl (fun e=>hx (e.elim (fun e=>e▸b2) (fun e=>a2 x e))))).rd)) ?_;rintro e w4 ⟨rfl,b4,F4,hk,t4,t2,u2⟩;have KE:H (∃ m0 p0 q0,HaK w4 B Hb f n (fun i=>if i=t then hdN d y else N i) zs (V gs n cs) vl b (m-1+M1) (wyS (m-1) (QK a7 Y) (hdY d y)) m0 p0 Fl q0/\Trn w w4 (fun x=>x=Hb\/Fs x\/Fw x)):=⟨_,_,_,n0.sent hk t4 t2 u2,m2.trans (t4.mono (fun x hx=>hx.elim .inl (fun k=>.inr (.inr k))))⟩;clear hk t4 t2 u2 n0 m2 j2;go_wp2
   go_ret
   exact⟨(by have h9:decide (m-1+M1<=3000)=Aw:=Bf (by omega);rw[h9];rfl),fun h9=>Bo h9 (by omega),fun _=>KE.out⟩
  .intro q9 v1 L a9 W S a0;match q9,v1 with
   | 0,_=>
    obtain⟨rfl,h0,h1⟩:=a0;obtain⟨e0,e8,-⟩:=S;obtain rfl:=h0 e8;refine jB rfl (fun _=>rfl) fun K hK=>?_
    go_simp
    exact hK _ _ ⟨(by simp only[Nat.reduceBEq,Bh,Bq,jJ]),h0,(ab e8)⟩
   | 1,_=>
    obtain⟨rfl,h0,h1⟩:=a0;obtain⟨d0,e1,e8,-⟩:=S;obtain rfl:=h0 e8;refine jB rfl (fun _=>rfl) fun K hK=>?_
    simp only[d0,jJ];go_simp
    exact hK _ _ ⟨(by simp only[Nat.reduceBEq,Bh,Bq,jJ,d0]),h0,(ab e8)⟩
   | 2,_=>
    obtain⟨rfl,h0,h1⟩:=a0;obtain⟨d1,e2,e8,-⟩:=S;obtain rfl:=h0 e8;refine jB rfl (fun _=>rfl) fun K hK=>?_
    simp only[d1,jJ];go_simp
    exact hK _ _ ⟨(by simp only[Nat.reduceBEq,Bh,Bq,jJ,d1]),h0,(ab e8)⟩
   | 3,_=>
    obtain⟨rfl,h0,h1⟩:=a0;obtain⟨d2,e3,e8,-⟩:=S;obtain rfl:=h0 e8;have x1:=z1;refine jB rfl (fun _=>rfl) fun K hK=>?_
    simp only[d2,jJ];go_simp
    exact hK _ _ ⟨(by simp only[Nat.reduceBEq,Bh,Bq,jJ,d2]),h0,(ab e8)⟩
   | 4,_=>
    obtain⟨rfl,h0,h1⟩:=a0;obtain⟨e4,e8,-⟩:=S;obtain rfl:=h0 e8;refine jB rfl (fun _=>rfl) fun K hK=>?_
    go_simp
    exact hK _ _ ⟨(by simp only[Nat.reduceBEq,Bh,Bq,jJ]),h0,(ab e8)⟩
   | 5,_=>
    obtain⟨rfl,h0,h1⟩:=a0;obtain⟨d4,e5,e8,-⟩:=S;obtain rfl:=h0 e8;have x2:=z2;refine jB rfl (fun _=>rfl) fun K hK=>?_
    simp only[d4,jJ];go_simp
    exact hK _ _ ⟨(by simp only[Nat.reduceBEq,Bh,Bq,jJ,d4]),h0,(ab e8)⟩
   | 6,_=>
    obtain⟨rfl,h0,h1⟩:=a0;obtain⟨e6,e8,-⟩:=S;obtain rfl:=h0 e8;refine jB rfl (fun _=>rfl) fun K hK=>?_
    refine Fv 124 _ rfl x6 rfl 124 #[d.i,d.f,V av N1 cv,(t:Int),f] (0,0) _ K6 Fd rfl Tryz.infoSt ?_;exact hK _ _ ⟨(by simp[Act.put,jJ]),h0,(ab e8)⟩
   | 7,_=>
    obtain⟨rfl,h0,h1⟩:=a0;obtain⟨d3,d5,e7,e8,-⟩:=S;obtain rfl:=h0 e8;refine jB rfl (fun _=>rfl) fun K hK=>?_
    simp only[d3,d5,jJ];go_simp
    exact hK _ _ ⟨(by simp only[Nat.reduceBEq,Bh,Bq,jJ,d3,d5]),h0,(ab e8)⟩
   | 8,_=>
    obtain⟨rfl,h0,h1⟩:=a0;obtain⟨d6,d7,e8,-⟩:=S;obtain rfl:=h0 e8;refine jB rfl (fun _=>rfl) fun K hK=>?_
    simp only[d7,d6,jJ];refine wp_store_mid 124 _ _ rfl gs (t*5) #[d.i,d.f,V av N1 cv,(t:Int),f] rfl rfl n2 Tryz.infoSt (by simp[Aq]) ?_;exact hK _ _ ⟨(by simp[Act.put,jJ,d7,d6]),nf,(fun k0=>rfl)⟩
   | n9+9,h=>exact Bo h (by omega)
 .intro q9 v1 L a9 W S a0;match q9,v1 with
  | 0,_|1,_|2,_|4,_|6,_|10,_|11,_|12,_|15,_=>
   obtain⟨x6,av,cv,sa,sc,F1,F2,rfl,hf⟩:=a0;simp only[knT,kn,knN] at S;refine jB rfl (fun _=>rfl) fun K hK=>?_
   try simp only[S,jJ]
   go_simp
   exact hK _ _ ⟨x6,av,cv,sa,sc,F1,F2,(by simp only[Nat.reduceBEq,Bh,Bq,jJ,S]),hf⟩
  | 3,_=>
   obtain⟨x6,av,cv,sa,sc,F1,F2,rfl,h0,h1,h2,h3,h4⟩:=a0;obtain⟨d2,e3,e9,c0,-⟩:=S;have x1:=(RH.below h0 RH.lt).cell 1;simp at x1;refine jB rfl (fun _=>rfl) fun K hK=>?_
   simp only[d2,jJ];go_simp
   exact hK _ _ ⟨x6,av,cv,sa,sc,F1,F2,(by simp only[Nat.reduceBEq,Bh,Bq,jJ,d2,e9]),h0,h1,(ab c0),(ab e9),(ab e9)⟩
  | 5,_=>
   obtain⟨x6,av,cv,sa,sc,F1,F2,rfl,h0,h1,h2,h3,h4⟩:=a0;obtain⟨d4,e5,e9,c0,-⟩:=S;have x2:=(RX.below h0 RX.lt).cell 2;simp at x2;rw[Ht.out] at x2;refine jB rfl (fun _=>rfl) fun K hK=>?_
   simp only[d4,jJ];go_simp
   exact hK _ _ ⟨x6,av,cv,sa,sc,F1,F2,(by simp only[Nat.reduceBEq,Bh,Bq,jJ,d4,e9]),h0,h1,(ab c0),(ab e9),(ab e9)⟩
  | 7,_=>
   obtain⟨x6,av,cv,sa,sc,F1,F2,rfl,h0,h1,h2,h3,h4⟩:=a0;obtain⟨d6,e7,e9,c0,-⟩:=S;refine jB rfl (fun _=>rfl) fun K hK=>?_
   simp only[d6,jJ];refine Gu 124 _ rfl gs (t*5) rfl [d.i,d.f,V an d.n cn,(t:Int),f] _ (RG W h0) Fd rfl Tryz.infoSt ?_;exact hK _ _ ⟨x6,av,cv,sa,sc,F1,F2,(by simp[Act.put,jJ,d6]),h0,h1,(ab c0),(ab e9),(ab e9)⟩
  | 8,_=>
   obtain⟨x6,av,cv,sa,sc,F1,F2,rfl,h0,h1,h2,h3,h4⟩:=a0;obtain⟨e8,e9,c0,-⟩:=S;refine jB rfl (fun _=>rfl) fun K hK=>?_
   refine Fv 31 _ rfl X rfl 31 (syC y (V a9 y.p.m c9)) (0,0) _ (RX.below h0 RX.lt) Ci rfl Tryz.infoSy ?_;exact hK _ _ ⟨x6,av,cv,sa,sc,F1,F2,(by simp[Act.put,jJ]),h0,h1,(ab c0),(ab e9),(ab e9)⟩
  | 9,_=>
   obtain⟨x6,av,cv,sa,sc,F1,F2,rfl,h0,h1,h2,h3,h4⟩:=a0;obtain⟨d7,d8,e9,k3,l3,m3,c0,n3,-⟩:=S;refine jB rfl (fun _=>rfl) fun K hK=>?_
   simp only[d7,d8,jJ];go_simp
   refine Ax (KH W h0) ?_;rintro e w9 ⟨av,cv,sa,sc,F1,F2,rfl,hx,b9⟩;exact hK _ _ ⟨x6,av,cv,sa,sc,F1,F2,(by simp only[Nat.reduceBEq,Bh,Bq,jJ,jIo,d7,d8,k3,l3,m3,n3]),(jA h0 b9),(fun k0 k1=>by have q:=h1 (show L 13=Aw from k0) (show L 14=Av from k1);exact⟨q.1.below b9 q.1.lt,q.2⟩),(ab c0),(fun k0=>hx.base h0.size),(fun k0 k1=>by have q:=(h1 (show L 13=Aw from k1) c0).1.lt;exact⟨fun c=>by have:=(hx.f x6 (.inl c)).1;omega,fun c=>by have:=(hx.f x6 (.inr c)).1;omega⟩)⟩
  | 13,_=>
   obtain⟨x6,av,cv,sa,sc,F1,F2,rfl,h0,h1,h2,h3,h4⟩:=a0;obtain⟨x3,c0,-⟩:=S;refine jB rfl (fun _=>rfl) fun K hK=>?_
   go_simp
   exact hK _ _ ⟨W.1.size,av,cv,sa,sc,F1,F2,(by simp only[Nat.reduceBEq,Bh,Bq,jJ]),(h0.alloc h0.size _),(fun k0 k1=>⟨Row.new W _ _,h0.size⟩),(ab c0),(fun k0=>(h3 (show L 9=Aw from k0)).below ((Az _ _).alloc (Ay _) _)),(fun k0 k1=>⟨fun c=>by have:=((h3 (show L 9=Aw from k0)).f _ (.inl c)).2;omega,fun c=>by have:=((h3 (show L 9=Aw from k0)).f _ (.inr c)).2;omega⟩)⟩
  | 14,_=>
   obtain⟨x6,av,cv,sa,sc,F1,F2,rfl,h0,h1,h2,h3,h4⟩:=a0;obtain⟨d9,o2,y0,c0,-⟩:=S;obtain⟨r6,l6⟩:=h1 y0 c0;have q3:=h3 d9;have q4:=h4 d9 y0;refine jB rfl (fun _=>rfl) fun K hK=>?_
   simp only[y0,o2,jJ];refine wp_store_row 124 _ _ rfl x6 #[d.i,d.f,V av N1 cv,(t:Int),f] rfl rfl 124 #[(),(),V I 0 0,(),()] r6 Tryz.infoSt rfl (by simp[Aq]) ?_;exact hK _ _ ⟨x6,av,cv,sa,sc,F1,F2,(by simp[Act.put,jJ,y0,o2]),(jF h0 l6 _),(fun _=>nf),(fun k0=>⟨r6.row,l6⟩),(fun k0=>q3.turn (by simp) (fun x hx=>Cd _ _ _ _ (fun e=>by subst e;exact hx.elim q4.1 q4.2))),(fun k0 k1=>q4)⟩
  | n9+16,h=>exact Bo h (by omega)
def HaE (w w':Ad) (B Hb:Nat) (f:Int) (n:Nat) (zs:List Int) (gs cs:Nat) (vl:Aj) (b:Nat) (Fs Fl Fw:Nat->Prop) (T:Ns):Prop:=
 ∃ vw' Fs' Fw',HaK w' B Hb f n T.N zs (V gs n cs) vl b T.m T.Y vw' Fs' Fl Fw'/\Trn w w' (fun x=>x=Hb\/Fs x\/Fw x)
theorem jJj (B Hb:Nat) (f:Int) (n:Nat) (zs:List Int) (gs cs:Nat) (vl:Aj) (b:Nat) (T:Ns) (vw:Aj) (Fs Fl Fw:Nat->Prop) (a:Int) (w:Ad) (h:HaK w B Hb f n T.N zs (V gs n cs) vl b T.m T.Y vw Fs Fl Fw) (hG:NsG f n zs T):Ak prog 132 #[Af Hb,a] w fun e w'=>∃ ok:Bool,e=Ae ok/\(ok=Aw↔(0<=a/\a<T.m)/\(hrT n zs T a.toNat).m<=3000)/\HaE w w' B Hb f n zs gs cs vl b Fs Fl Fw (if ok then hrT n zs T a.toNat else T):=by
 have b0:=hG.n10;by_cases hi:0<=a/\a<T.m
 .obtain⟨a7,rfl⟩:∃ k:Nat,a=(k:Int):=⟨a.toNat,by omega⟩;have ha:a7<T.m:=by omega
  rw[Cy];by_cases ht:ToP n zs (T.Y a7).t
  .have a0:(T.Y a7).t.toNat<n:=by have:=ht.1;omega
   have hd:=hG.nd a0;have eT:hrT n zs T a7=⟨fun i=>if i=(T.Y a7).t.toNat then hdN (T.N (T.Y a7).t.toNat) (T.Y a7) else T.N i,T.m-1+hdM (T.N (T.Y a7).t.toNat) (T.Y a7),wyS (T.m-1) (QK a7 T.Y) (hdY (T.N (T.Y a7).t.toNat) (T.Y a7))⟩:=by unfold hrT;rw[A6 ht]
   refine(jHn B Hb f n T.N zs gs cs vl b T.m T.Y vw Fs Fl Fw a7 (T.Y a7).t.toNat (T.N (T.Y a7).t.toNat) (T.Y a7) w h b0.2.2.1 ha a0 rfl rfl (show (T.Y a7).t=_ by have:=ht.1;omega) ht.2 hd.1 (hG.nh a0 (hG.y a7 ha))).mono ?_;rintro e w' ⟨rfl,h1,h2⟩;refine⟨_,rfl,?_,?_⟩
   .rw[eT,Gq];exact⟨fun k=>⟨hi,k⟩,fun k=>k.2⟩
   .by_cases c:T.m-1+hdM (T.N (T.Y a7).t.toNat) (T.Y a7)<=3000
    .rw[Bf c,A6 rfl,eT];exact h2 c
    .rw[Bg c];exact h1 (by omega)
  .have eT:hrT n zs T a7=⟨T.N,T.m-1,QK a7 T.Y⟩:=by unfold hrT;rw[A5 ht]
   refine(jHo B Hb f n T.N zs gs cs vl b T.m T.Y vw Fs Fl Fw a7 w h b0.2.2.1 ha ?_).mono ?_
   .by_cases k:0<=(T.Y a7).t/\(T.Y a7).t<n
    .exact .inr (Classical.not_not.1 (fun k2=>ht ⟨k,k2⟩))
    .exact .inl k
   .rintro e w' ⟨rfl,c0,hk,t⟩;refine⟨Aw,rfl,?_,?_⟩
    .rw[eT];exact⟨fun _=>⟨hi,by show T.m-1<=3000;omega⟩,fun _=>rfl⟩
    .rw[A6 rfl,eT];exact⟨c0,Fs,Fw,hk,t.mono (fun x hx=>hx.elim .inl (fun k=>.inr (.inr k)))⟩
 .refine(jJk B Hb f n T.N zs _ vl b T.m T.Y vw Fs Fl Fw a w h hi).mono ?_;rintro e w' ⟨rfl,rfl⟩;exact⟨Av,rfl,⟨fun k=>(by cases k),fun k=>Bo k.1 hi⟩,vw,Fs,Fw,h,Trn.refl _ _⟩
section
open Go.ChangeShapes Go.WideShapes Go.ChangeAt Go.RowKit Go.Sort
abbrev opC (o:Op9) (v:Aj):Array Aj:=#[Ao Ar o.k,Ao Ar o.a,Ao Ar o.y.k,Ao Ar o.y.f,Ao Ar o.y.t,Ag o.y.r,Ag o.y.p.r,Ao Ar o.y.p.k,Ao Ar o.y.p.n,Ao Ar o.y.p.i,Ag o.y.p.b,v,Ag o.s]
abbrev opV (o:Op9) (v:Aj):Aj:=Ai (opC o v)
theorem HaE.from {w w0 w':Ad} {B Hb:Nat} {f:Int} {n:Nat} {zs:List Int} {gs cs:Nat} {vl:Aj} {b:Nat} {Fs Fl Fw:Nat->Prop} {T:Ns} (h:HaE w0 w' B Hb f n zs gs cs vl b Fs Fl Fw T) (hb:Ab w w w0):HaE w w' B Hb f n zs gs cs vl b Fs Fl Fw T:=by
 obtain⟨v,F1,F2,h1,h2⟩:=h;exact⟨v,F1,F2,h1,(Trn.ofBelow _ hb).trans h2⟩
theorem jMe (B Hb:Nat) (f:Int) (n:Nat) (zs:List Int) (gs cs:Nat) (vl:Aj) (b:Nat) (T:Ns) (vw:Aj) (Fs Fl Fw:Nat->Prop) (a:Int) (y:Sy) (s:BA) (v9:Aj) (w:Ad) (h:HaK w B Hb f n T.N zs (V gs n cs) vl b T.m T.Y vw Fs Fl Fw) (hG:NsG f n zs T):Ak prog 67 #[Af Hb,opV ⟨0,a,y,s⟩ v9] w fun e w'=>∃ ok:Bool,e=Ae ok/\(ok=Aw↔(0<=a/\a<T.m)/\(hrT n zs T a.toNat).m<=3000)/\HaE w w' B Hb f n zs gs cs vl b Fs Fl Fw (if ok then hrT n zs T a.toNat else T):=by
 obtain⟨X,HX⟩:=nmH w.1.size;obtain⟨w0,a0⟩:=nmH (w.alloc (J (opC ⟨0,a,y,s⟩ v9) 50));have R0:=(jZ a0 HX).out;have b0:=bl1 a0;have KB:=hd b0;have h0:=h.below b0;obtain⟨x0,x1⟩:=R0.c2 0 1;simp at x0 x1;have KH:H _:=jJj B Hb f n zs gs cs vl b T vw Fs Fl Fw a w0 h0 hG;go_enter func67,Gk
 go_upto_region 1 with fail
 rw[<-a0.out,<-HX.out];go_wp2_with fail
 refine Ax KH.out ?_;rintro e w1 ⟨ok,rfl,c0,hE⟩;have KE:=hd hE;have KK:H _:=c0;go_wp2
 go_ret
 exact⟨ok,rfl,KK,KE.from KB⟩
theorem jPt (B Hb:Nat) (f:Int) (n:Nat) (zs:List Int) (gs cs:Nat) (vl:Aj) (b:Nat) (T:Ns) (vw:Aj) (Fs Fl Fw:Nat->Prop) (a:Int) (y:Sy) (s:BA) (a9:OA) (c9:Nat) (w:Ad) (h:HaK w B Hb f n T.N zs (V gs n cs) vl b T.m T.Y vw Fs Fl Fw) (hG:NsG f n zs T) (hK:SyK y) (hT:∀ W,Trn w W (fun x=>x=Hb\/Fs x\/Fw x)->jL W a9 y.p.m y.p.S):Ak prog 67 #[Af Hb,opV ⟨2,a,y,s⟩ (V a9 y.p.m c9)] w fun e w'=>∃ ok:Bool,e=Ae ok/\(ok=Aw↔y.f∈zs/\(0<=y.t/\y.t<n)/\T.m<3000)/\HaE w w' B Hb f n zs gs cs vl b Fs Fl Fw (if ok then ⟨T.N,T.m+1,wyS T.m T.Y (fun _=>y)⟩ else T):=by
 obtain⟨X,HX⟩:=nmH w.1.size;obtain⟨w0,a0⟩:=nmH (w.alloc (J (opC ⟨2,a,y,s⟩ (V a9 y.p.m c9)) 50));have R0:=(jZ a0 HX).out;have b0:=bl1 a0;have KB:=hd b0;have h0:=h.below b0;have x0:=R0.cell 0;simp at x0;have KM:H (w0.rangeAt X 2 (syC y (V a9 y.p.m c9)).toList):=fun j v hv=>by
  have hj:j<10:=by
   rcases Fz j 10 with k|k
   .exact k
   .rw[Be (by simpa using k)] at hv;cases hv
  have:=R0.cell (2+j)
  rw[this];match j,hj with
  | 0,_|1,_|2,_|3,_|4,_|5,_|6,_|7,_|8,_|9,_=>simpa using hv
 have KH:H _:=jMf B Hb f n T.N zs gs cs vl b T.m T.Y vw Fs Fl Fw y a9 c9 w0 h0 hG.n10.2.2.1 hK (fun W hW=>hT W ((Trn.ofBelow _ b0).trans (hW.mono (fun x hx=>hx.elim .inl (fun k=>.inr (.inr k))))));go_enter func67,Gk
 go_upto_region 1 with fail
 rw[<-a0.out,<-HX.out];go_wp2_with (refine Bv rfl 31 _ rfl X 2 rfl (syC y (V a9 y.p.m c9)).toList _ ?_ Ci rfl Tryz.infoSy ?_;exact KM)
 refine Ax KH.out ?_;rintro e w1 ⟨d0,c0,rfl,hk,t⟩;have KE:H (HaE w0 w1 B Hb f n zs gs cs vl b Fs Fl Fw (if decide (y.f∈zs/\(0<=y.t/\y.t<n)/\T.m<3000) then ⟨T.N,T.m+1,wyS T.m T.Y (fun _=>y)⟩ else T)):=by
  by_cases c:y.f∈zs/\(0<=y.t/\y.t<n)/\T.m<3000
  .rw[A6 c] at hk;rw[Bf c,A6 rfl];exact⟨d0,Fs,c0,hk,t.mono (fun x hx=>hx.elim .inl (fun k=>.inr (.inr k)))⟩
  .rw[A5 c] at hk;rw[Bg c];exact⟨d0,Fs,c0,hk.ways (fun i hi=>A6 hi),t.mono (fun x hx=>hx.elim .inl (fun k=>.inr (.inr k)))⟩
 obtain⟨ok,HK⟩:=nnH (decide (y.f∈zs/\(0<=y.t/\y.t<n)/\T.m<3000));rw[HK.out] at KE |-;go_wp2
 go_ret
 exact⟨ok,rfl,by rw[<-HK.out];exact Gq,KE.from KB⟩
theorem jJh (B Hb:Nat) (f:Int) (n:Nat) (zs:List Int) (gs cs:Nat) (vl:Aj) (b:Nat) (T:Ns) (vw:Aj) (Fs Fl Fw:Nat->Prop) (a:Int) (y:Sy) (s:BA) (v9:Aj) (w:Ad) (h:HaK w B Hb f n T.N zs (V gs n cs) vl b T.m T.Y vw Fs Fl Fw) (hG:NsG f n zs T) (hs:s.size<=1048576):Ak prog 67 #[Af Hb,opV ⟨3,a,y,s⟩ v9] w fun e w'=>∃ ok:Bool,e=Ae ok/\(ok=Aw↔brB s f=Aw/\T.m+brN s f<=3000)/\HaE w w' B Hb f n zs gs cs vl b Fs Fl Fw (if ok then ⟨T.N,T.m+brN s f,wyS T.m T.Y (brS s f)⟩ else T):=by
 obtain⟨X,HX⟩:=nmH w.1.size;obtain⟨w0,a0⟩:=nmH (w.alloc (J (opC ⟨3,a,y,s⟩ v9) 50));have R0:=(jZ a0 HX).out;have b0:=bl1 a0;have KB:=hd b0;have h0:=h.below b0;obtain⟨x0,e0⟩:=R0.c2 0 12;simp at x0 e0;have KH:H _:=jHm B Hb f n T.N zs (V gs n cs) vl b T.m T.Y vw Fs Fl Fw s w0 h0 hs hG.n10.2.2.1 jCu.1 (by have:=(jCu (s:=s) (f:=f)).2;omega);go_enter func67,Gk
 go_upto_region 1 with fail
 rw[<-a0.out,<-HX.out];go_wp2_with fail
 refine Ax KH.out ?_;rintro e w1 ⟨d0,c0,rfl,hk,t⟩;obtain⟨ok,HK⟩:=nnH ((brB s f&&decide (T.m+brN s f<=3000)));rw[HK.out] at hk |-;have KE:H (HaE w0 w1 B Hb f n zs gs cs vl b Fs Fl Fw (if ok then ⟨T.N,T.m+brN s f,wyS T.m T.Y (brS s f)⟩ else T)):=by
  cases ok with
  | true=>exact⟨d0,Fs,c0,hk,t.mono (fun x hx=>hx.elim .inl (fun k=>.inr (.inr k)))⟩
  | false=>exact⟨d0,Fs,c0,hk.ways (fun i hi=>A6 hi),t.mono (fun x hx=>hx.elim .inl (fun k=>.inr (.inr k)))⟩
 go_wp2
 go_ret
 exact⟨ok,rfl,by rw[<-HK.out,Cs,Gq],KE.from KB⟩
theorem jMd (B Hb:Nat) (f:Int) (n:Nat) (zs:List Int) (gs cs:Nat) (vl:Aj) (b:Nat) (T:Ns) (vw:Aj) (Fs Fl Fw:Nat->Prop) (k a:Int) (y:Sy) (s:BA) (v9:Aj) (w:Ad) (h:HaK w B Hb f n T.N zs (V gs n cs) vl b T.m T.Y vw Fs Fl Fw) (k0:k≠0) (k1:k≠1) (k2:k≠2) (k3:k≠3):Ak prog 67 #[Af Hb,opV ⟨k,a,y,s⟩ v9] w fun e w'=>e=Ae Av/\HaE w w' B Hb f n zs gs cs vl b Fs Fl Fw T:=by
 obtain⟨X,HX⟩:=nmH w.1.size;obtain⟨w0,a0⟩:=nmH (w.alloc (J (opC ⟨k,a,y,s⟩ v9) 50));have R0:=(jZ a0 HX).out;have b0:=bl1 a0;have KB:=hd b0;have h0:=h.below b0;have x0:=R0.cell 0;simp at x0;have KE:H (HaE w w0 B Hb f n zs gs cs vl b Fs Fl Fw T):=⟨vw,Fs,Fw,h0,Trn.ofBelow _ b0⟩;have e0:(k==0)=Av:=by simpa using k0
 have e1:(k==1)=Av:=by simpa using k1
 have e2:(k==2)=Av:=by simpa using k2
 have e3:(k==3)=Av:=by simpa using k3
 go_enter func67,Gk
 go_upto_region 1 with fail
 rw[<-a0.out,<-HX.out];go_wp2
 go_ret
 exact⟨rfl,KE⟩
theorem jPu (B Hb:Nat) (f:Int) (n:Nat) (zs:List Int) (gs cs:Nat) (vl:Aj) (b:Nat) (T:Ns) (vw:Aj) (Fs Fl Fw:Nat->Prop) (a:Int) (y:Sy) (s:BA) (v9:Aj) (w:Ad) (h:HaK w B Hb f n T.N zs (V gs n cs) vl b T.m T.Y vw Fs Fl Fw) (ha:¬ (0<=a/\a<T.m)):Ak prog 67 #[Af Hb,opV ⟨1,a,y,s⟩ v9] w fun e w'=>e=Ae Av/\HaE w w' B Hb f n zs gs cs vl b Fs Fl Fw T:=by
 obtain⟨X,HX⟩:=nmH w.1.size;obtain⟨w0,a0⟩:=nmH (w.alloc (J (opC ⟨1,a,y,s⟩ v9) 50));have R0:=(jZ a0 HX).out;have b0:=bl1 a0;have KB:=hd b0;have h0:=h.below b0;obtain⟨x0,x1⟩:=R0.c2 0 1;simp at x0 x1;obtain⟨a3,c3,rfl,_⟩:=h.y.shape;have KE:H (∀ W,Ab w0 w0 W->HaE w W B Hb f n zs gs cs vl b Fs Fl Fw T):=fun W hW=>⟨_,Fs,Fw,h0.below hW,Trn.ofBelow _ (jA b0 hW)⟩
 have J1:∀ d os,Ak prog 133 #[Af Hb,a] (grow (redrawn w0 d) os) fun e w'=>e=Ae Av/\∃ p:Regrown,w'=grow (redrawn w0 p.d) p.os:=fun d os=>Calls.regrown_of (by
  have:=xG Hb _ _ _ _ a3 T.m c3 a (grow (redrawn w0 d) os) (h0.r.below (below_regrown w0 d os) h0.r.lt)
  rw[Bg ha] at this;refine this.mono ?_;rintro e w' ⟨rfl,rfl⟩;exact⟨rfl,Az _ _⟩)
 have Z1:∀ d os,(grow (redrawn w0 d) os).cell? (Q X 1 I)=_:=fun d os=>cell_regrown x1 d os
 go_enter func67,Gk
 go_upto_region 1 with fail
 rw[<-a0.out,<-HX.out];go_upto_region 5 with fail
 refine wp_region_quiet_below (by kernel_rfl) (by kernel_rfl) ?_;repeat (go_big_quiet_step (with_reducible exact J1 _ _))
 refine Ct ?_;intro _ e0;obtain⟨⟨dq,f0⟩,c0⟩:=e0;subst c0;have d0:=hd (KE _ (below_regrown w0 dq f0));go_wp2
 go_ret
 exact⟨rfl,d0⟩
theorem jJi (B Hb:Nat) (f:Int) (n:Nat) (N:Nat->Nd) (zs:List Int) (gs cs:Nat) (vl:Aj) (b m:Nat) (Y:Nat->Sy) (vw:Aj) (Fs Fl Fw:Nat->Prop) (a7:Nat) (y y9:Sy) (s:BA) (v9:Aj) (w:Ad) (h:HaK w B Hb f n N zs (.slice gs n cs) vl b m Y vw Fs Fl Fw) (hm:m<=3000) (hK:∀ i,i<m->SyK (Y i)) (ha:a7<m) (H9:H (Y a7=y9)):Ak prog 67 #[Af Hb,opV ⟨1,(a7:Int),y,s⟩ v9] w fun e w'=>e=Ae (decide (m<3000))/\HaE w w' B Hb f n zs gs cs vl b Fs Fl Fw (if m<3000 then ⟨N,m+1,wyS m Y (fun _=>y9)⟩ else ⟨N,m,Y⟩):=by
 obtain⟨X,HX⟩:=nmH w.1.size;obtain⟨w0,o0⟩:=nmH (w.alloc (J (opC ⟨1,(a7:Int),y,s⟩ v9) 50));have R0:=(jZ o0 HX).out;have b0:=bl1 o0;have KB:=hd b0;have h0:=h.below b0;obtain⟨a3,c3,rfl,_⟩:=h.y.shape;obtain⟨bb,fb,a9,c9,rfl,q0,t9⟩:=zZ h0.y.rd ha;rw[H9.out] at q0 t9;have v0:SyK y9:=by rw[<-H9.out];exact hK a7 ha
 have RG:H (∀ W,Ab w0 w0 W->W.rangeAt bb (fb+a7*10) (syC y9 (.slice a9 y9.p.m c9)).toList):=fun W hW j v hv=>by
  have:=q0 j v hv
  exact(hW.cell (A7 this)).trans this
 have KO:H (∀ W,Ab w0 w0 W->CS 133 #[Af Hb,(a7:Int)] W Aw):=fun W hW=>by
  have:=xG Hb _ _ _ _ (Q bb fb I) m c3 (a7:Int) W (h0.r.below hW h0.r.lt)
  rw[Bf ⟨by omega,by omega⟩] at this;exact this
 have RX:=hd R0;have RH:=hd h0.r;have z0:(a7:Int)<(m:Int):=by omega
 have x0:=R0.cell 0;simp at x0;by_cases c:m<3000
 .rw[Bf c,A6 c];have KS:H (∀ W g4,Ab w0 w0 W->Row W g4 31 (syC y9 (.slice a9 y9.p.m c9))->w0.1.size<=g4->Ak prog 134 #[Af Hb,.slice (Q g4 0 I) 1 1] W fun e w'=>e=Ae Aw/\HaE w0 w' B Hb f n zs gs cs vl b Fs Fl Fw ⟨N,m+1,wyS m Y (fun _=>y9)⟩):=fun W g4 hW r4 l4=>by
   have hA:=h0.below hW;refine(QL B Hb f _ vl (.map (M b)) m Y _ Fw (Q g4 0 I) 1 1 (fun _=>y9) W hA.hw (by omega) (fun _ _=>v0) (by have h1:=hA.b.2.2;have h2:=hA.r.lt;omega) (fun x hx=>(hA.h x (.inr (.inr hx))).2.2.2) (fun c V hc _ hV=>?_)).mono ?_
   .have r0:=hV (by omega);exact jLm (r4.below r0 r4.lt) ((t9.below hW).below r0)
   .rintro e w' ⟨rfl,y0,F',hk,t,hF,u0⟩;exact⟨rfl,y0,Fs,F',hA.sent hk t hF u0,(Trn.ofBelow _ hW).trans (t.mono (fun x hx=>hx.elim .inl (fun k=>.inr (.inr k))))⟩
  suffices main:Ak prog 67 #[Af Hb,opV ⟨1,(a7:Int),y,s⟩ v9] w fun e w'=>e=Ae Aw/\HaE w0 w' B Hb f n zs gs cs vl b Fs Fl Fw ⟨N,m+1,wyS m Y (fun _=>y9)⟩ from main.mono (fun e w' k=>⟨k.1,HaE.from k.2 KB⟩)
  go_enter func67,Gk
  go_upto_region 1 with fail
  rw[<-o0.out,<-HX.out];go_upto_region 5 with fail
  refine JP Tryz.mixed 18 [([],[14,15]),([],[14,15]),([1],[2,14,15]),([0,2],[3,14,15]),([3],[14,15]),([4],[15]),([4],[14,15]),([4,6],[14,15]),([4,7],[14,15]),([4,8],[9,14,15]),([4],[14,15]),([4,10],[11,14,15]),([4,9,11],[14,15]),([4,12],[13,14,15]),([4,13],[14,15]),([4,5,14],[15]),([4,14,15],[]),([14,15,16],[])] (by kernel_rfl) (fun L A9 W=>∃ (g4:Nat),A9=⟨(List.toArray (α:=Aj) ((Af Hb)::(opV {k:=1,a:=(a7:Int),y:=y,s:=s} v9)::O::(Af X)::(cX (L 17) Aw Av)::(Af X)::((1:Int))::(Av)::(Av)::O::O::O::O::(Aw)::(Aw)::(cX (L 0) (Af Hb) O)::(cX (L 1) (Af (Q X 1 I)) O)::(cX (L 2) (a7:Int) O)::(cX (L 3) Aw O)::(cX (L 4) Aw O)::(cX (L 5) (Af Hb) O)::(cX (L 6) (Af Hb) O)::(cX (L 7) (Af Hb) O)::(cX (L 8) (Af (Q Hb 4 I)) O)::(cX (L 9) (.slice (Q bb fb I) m c3) O)::(cX (L 10) (Af (Q X 1 I)) O)::(cX (L 11) (a7:Int) O)::(cX (L 12) (Af (Q bb (fb+a7*10) I)) O)::(cX (L 13) (Ai (syC y9 (.slice a9 y9.p.m c9))) O)::(cX (L 14) (.slice (Q g4 0 I) 1 1) O)::(cX (L 15) Aw O)::(cX (L 16) Aw O)::O::O::O::O::O::O::O::O::O::O::O::O::[])),[]⟩/\(L 15=Av->Ab w0 w0 W)/\(L 14=Aw->L 15=Av->Row W g4 31 (syC y9 (.slice a9 y9.p.m c9))/\w0.1.size<=g4)/\(L 15=Aw->HaE w0 W B Hb f n zs gs cs vl b Fs Fl Fw ⟨N,m+1,wyS m Y (fun _=>y9)⟩)) ?_ ?_ ?_
  .exact⟨0,rfl,(fun _=>jD _),(fun h=>by cases h),(fun h=>by cases h)⟩
  .rintro a9 wx ⟨g4,n0,-,-,g0⟩;simp only[Nat.reduceLT,Dp,jJ] at n0;subst n0;replace g0:=(g0 rfl)
   have KE:=hd g0;go_wp2
   go_ret
   exact⟨rfl,KE⟩
  .intro q9 p0 L a9 W S e0;match q9,p0 with
   | 0,_|1,_|4,_|5,_|6,_|7,_|8,_|10,_|12,_|16,_|17,_=>
    obtain⟨g4,rfl,hf⟩:=e0;simp only[knT,kn,knN] at S;first|refine jB rfl (fun _=>rfl) fun K hK=>?_|refine qQ rfl (by simp only[S,jJ];rfl) fun K hK=>?_
    try simp only[S,jJ]
    go_simp
    exact hK _ _ ⟨g4,(by simp only[Nat.reduceBEq,Bh,Bq,jJ,S]),hf⟩
   | 2,_=>
    obtain⟨g4,rfl,h0,h1,h2⟩:=e0;obtain⟨d1,e2,c0,a0,-⟩:=S;have hb:=h0 a0;have x1:=(RX.below hb RX.lt).cell 1;simp at x1;refine jB rfl (fun _=>rfl) fun K hK=>?_
    simp only[d1,jJ];go_simp
    exact hK _ _ ⟨g4,(by simp only[Nat.reduceBEq,Bh,Bq,jJ,d1,c0,a0]),h0,(ab c0),(ab a0)⟩
   | 3,_=>
    obtain⟨g4,rfl,h0,h1,h2⟩:=e0;obtain⟨d0,d2,e3,c0,a0,-⟩:=S;have hb:=h0 a0;refine jB rfl (fun _=>rfl) fun K hK=>?_
    simp only[d0,d2,jJ];go_simp
    refine Ax (KO W hb) ?_;rintro e w9 ⟨rfl,rfl⟩;exact hK _ _ ⟨g4,(by simp only[Nat.reduceBEq,Bh,Bq,jJ,d0,d2,c0,a0]),h0,(ab c0),(ab a0)⟩
   | 9,_=>
    obtain⟨g4,rfl,h0,h1,h2⟩:=e0;obtain⟨d4,d8,e9,c0,a0,-⟩:=S;have hb:=h0 a0;have x1:=(RH.below hb RH.lt).cell 4;simp at x1;refine qQ rfl (by simp only[d4,jJ];rfl) fun K hK=>?_
    simp only[d4,d8,jJ];go_simp
    exact hK _ _ ⟨g4,(by simp only[Nat.reduceBEq,Bh,Bq,jJ,d4,d8,c0,a0]),h0,(ab c0),(ab a0)⟩
   | 11,_=>
    obtain⟨g4,rfl,h0,h1,h2⟩:=e0;obtain⟨d4,i0,s0,c0,a0,-⟩:=S;have hb:=h0 a0;have x1:=(RX.below hb RX.lt).cell 1;simp at x1;refine qQ rfl (by simp only[d4,jJ];rfl) fun K hK=>?_
    simp only[d4,i0,jJ];go_simp
    exact hK _ _ ⟨g4,(by simp only[Nat.reduceBEq,Bh,Bq,jJ,d4,i0,c0,a0]),h0,(ab c0),(ab a0)⟩
   | 13,_=>
    obtain⟨g4,rfl,h0,h1,h2⟩:=e0;obtain⟨d4,j0,t0,c0,a0,-⟩:=S;have hb:=h0 a0;refine qQ rfl (by simp only[d4,jJ];rfl) fun K hK=>?_
    simp only[d4,j0,jJ];refine Gu 31 _ rfl bb (fb+a7*10) rfl (syC y9 (.slice a9 y9.p.m c9)).toList _ (RG W hb) Ci rfl Tryz.infoSy ?_;exact hK _ _ ⟨g4,(by simp[Act.put,jJ,d4,j0]),h0,(ab c0),(ab a0)⟩
   | 14,_=>
    obtain⟨g4,rfl,h0,h1,h2⟩:=e0;obtain⟨d4,m0,c0,a0,-⟩:=S;have hb:=h0 a0;refine qQ rfl (by simp only[d4,jJ];rfl) fun K hK=>?_
    simp only[d4,m0,jJ];go_simp
    exact hK _ _ ⟨W.1.size,(by simp only[Nat.reduceBEq,Bh,Bq,jJ,jIo,d4,m0,a0]),(fun k0=>hb.alloc hb.size _),(fun k0 k1=>⟨Row.new W _ _,hb.size⟩),(ab a0)⟩
   | 15,_=>
    obtain⟨g4,rfl,h0,h1,h2⟩:=e0;obtain⟨d4,d5,f0,a0,-⟩:=S;have hb:=h0 a0;obtain⟨r4,l4⟩:=h1 f0 a0;refine qQ rfl (by simp only[d4,jJ];rfl) fun K hK=>?_
    simp only[d4,d5,f0,jJ];go_simp
    refine CM (KS W g4 hb r4 l4) fun w9 hE=>?_
    exact hK _ _ ⟨g4,(by simp only[Nat.reduceBEq,Bh,Bq,jJ,d4,d5,f0]),nf,(fun _=>nf),(fun k0=>hE)⟩
   | n9+18,h=>exact Bo h (by omega)
 .rw[Bg c,A5 c];have KS:H (∀ W g4,Ab w0 w0 W->Row W g4 31 (syC y9 (.slice a9 y9.p.m c9))->w0.1.size<=g4->Ak prog 134 #[Af Hb,.slice (Q g4 0 I) 1 1] W fun e w'=>e=Ae Av/\HaE w0 w' B Hb f n zs gs cs vl b Fs Fl Fw ⟨N,m,Y⟩):=fun W g4 hW r4 l4=>by
   have hA:=h0.below hW;refine(jBr B Hb f _ vl (.map (M b)) m Y _ Fw (Q g4 0 I) 1 1 W hA.hw hm (by omega) (by omega)).mono ?_;rintro e w' ⟨rfl,rfl⟩;exact⟨rfl,_,Fs,Fw,hA,Trn.ofBelow _ hW⟩
  suffices main:Ak prog 67 #[Af Hb,opV ⟨1,(a7:Int),y,s⟩ v9] w fun e w'=>e=Ae Av/\HaE w0 w' B Hb f n zs gs cs vl b Fs Fl Fw ⟨N,m,Y⟩ from main.mono (fun e w' k=>⟨k.1,HaE.from k.2 KB⟩)
  go_enter func67,Gk
  go_upto_region 1 with fail
  rw[<-o0.out,<-HX.out];go_upto_region 5 with fail
  refine JP Tryz.mixed 18 [([],[14,15]),([],[14,15]),([1],[2,14,15]),([0,2],[3,14,15]),([3],[14,15]),([4],[15]),([4],[14,15]),([4,6],[14,15]),([4,7],[14,15]),([4,8],[9,14,15]),([4],[14,15]),([4,10],[11,14,15]),([4,9,11],[14,15]),([4,12],[13,14,15]),([4,13],[14,15]),([4,5,14],[15]),([4,14,15],[]),([14,15,16],[])] (by kernel_rfl) (fun L A9 W=>∃ (g4:Nat),A9=⟨(List.toArray (α:=Aj) ((Af Hb)::(opV {k:=1,a:=(a7:Int),y:=y,s:=s} v9)::O::(Af X)::(cX (L 17) Av Av)::(Af X)::((1:Int))::(Av)::(Av)::O::O::O::O::(Aw)::(Aw)::(cX (L 0) (Af Hb) O)::(cX (L 1) (Af (Q X 1 I)) O)::(cX (L 2) (a7:Int) O)::(cX (L 3) Aw O)::(cX (L 4) Aw O)::(cX (L 5) (Af Hb) O)::(cX (L 6) (Af Hb) O)::(cX (L 7) (Af Hb) O)::(cX (L 8) (Af (Q Hb 4 I)) O)::(cX (L 9) (.slice (Q bb fb I) m c3) O)::(cX (L 10) (Af (Q X 1 I)) O)::(cX (L 11) (a7:Int) O)::(cX (L 12) (Af (Q bb (fb+a7*10) I)) O)::(cX (L 13) (Ai (syC y9 (.slice a9 y9.p.m c9))) O)::(cX (L 14) (.slice (Q g4 0 I) 1 1) O)::(cX (L 15) Av O)::(cX (L 16) Av O)::O::O::O::O::O::O::O::O::O::O::O::O::[])),[]⟩/\(L 15=Av->Ab w0 w0 W)/\(L 14=Aw->L 15=Av->Row W g4 31 (syC y9 (.slice a9 y9.p.m c9))/\w0.1.size<=g4)/\(L 15=Aw->HaE w0 W B Hb f n zs gs cs vl b Fs Fl Fw ⟨N,m,Y⟩)) ?_ ?_ ?_
  .exact⟨0,rfl,(fun _=>jD _),(fun h=>by cases h),(fun h=>by cases h)⟩
  .rintro a9 wx ⟨g4,n0,-,-,g0⟩;simp only[Nat.reduceLT,Dp,jJ] at n0;subst n0;replace g0:=(g0 rfl)
   have KE:=hd g0;go_wp2
   go_ret
   exact⟨rfl,KE⟩
  .intro q9 p0 L a9 W S e0;match q9,p0 with
   | 0,_|1,_|4,_|5,_|6,_|7,_|8,_|10,_|12,_|16,_|17,_=>
    obtain⟨g4,rfl,hf⟩:=e0;simp only[knT,kn,knN] at S;first|refine jB rfl (fun _=>rfl) fun K hK=>?_|refine qQ rfl (by simp only[S,jJ];rfl) fun K hK=>?_
    try simp only[S,jJ]
    go_simp
    exact hK _ _ ⟨g4,(by simp only[Nat.reduceBEq,Bh,Bq,jJ,S]),hf⟩
   | 2,_=>
    obtain⟨g4,rfl,h0,h1,h2⟩:=e0;obtain⟨d1,e2,c0,a0,-⟩:=S;have hb:=h0 a0;have x1:=(RX.below hb RX.lt).cell 1;simp at x1;refine jB rfl (fun _=>rfl) fun K hK=>?_
    simp only[d1,jJ];go_simp
    exact hK _ _ ⟨g4,(by simp only[Nat.reduceBEq,Bh,Bq,jJ,d1,c0,a0]),h0,(ab c0),(ab a0)⟩
   | 3,_=>
    obtain⟨g4,rfl,h0,h1,h2⟩:=e0;obtain⟨d0,d2,e3,c0,a0,-⟩:=S;have hb:=h0 a0;refine jB rfl (fun _=>rfl) fun K hK=>?_
    simp only[d0,d2,jJ];go_simp
    refine Ax (KO W hb) ?_;rintro e w9 ⟨rfl,rfl⟩;exact hK _ _ ⟨g4,(by simp only[Nat.reduceBEq,Bh,Bq,jJ,d0,d2,c0,a0]),h0,(ab c0),(ab a0)⟩
   | 9,_=>
    obtain⟨g4,rfl,h0,h1,h2⟩:=e0;obtain⟨d4,d8,e9,c0,a0,-⟩:=S;have hb:=h0 a0;have x1:=(RH.below hb RH.lt).cell 4;simp at x1;refine qQ rfl (by simp only[d4,jJ];rfl) fun K hK=>?_
    simp only[d4,d8,jJ];go_simp
    exact hK _ _ ⟨g4,(by simp only[Nat.reduceBEq,Bh,Bq,jJ,d4,d8,c0,a0]),h0,(ab c0),(ab a0)⟩
   | 11,_=>
    obtain⟨g4,rfl,h0,h1,h2⟩:=e0;obtain⟨d4,i0,s0,c0,a0,-⟩:=S;have hb:=h0 a0;have x1:=(RX.below hb RX.lt).cell 1;simp at x1;refine qQ rfl (by simp only[d4,jJ];rfl) fun K hK=>?_
    simp only[d4,i0,jJ];go_simp
    exact hK _ _ ⟨g4,(by simp only[Nat.reduceBEq,Bh,Bq,jJ,d4,i0,c0,a0]),h0,(ab c0),(ab a0)⟩
   | 13,_=>
    obtain⟨g4,rfl,h0,h1,h2⟩:=e0;obtain⟨d4,j0,t0,c0,a0,-⟩:=S;have hb:=h0 a0;refine qQ rfl (by simp only[d4,jJ];rfl) fun K hK=>?_
    simp only[d4,j0,jJ];refine Gu 31 _ rfl bb (fb+a7*10) rfl (syC y9 (.slice a9 y9.p.m c9)).toList _ (RG W hb) Ci rfl Tryz.infoSy ?_;exact hK _ _ ⟨g4,(by simp[Act.put,jJ,d4,j0]),h0,(ab c0),(ab a0)⟩
   | 14,_=>
    obtain⟨g4,rfl,h0,h1,h2⟩:=e0;obtain⟨d4,m0,c0,a0,-⟩:=S;have hb:=h0 a0;refine qQ rfl (by simp only[d4,jJ];rfl) fun K hK=>?_
    simp only[d4,m0,jJ];go_simp
    exact hK _ _ ⟨W.1.size,(by simp only[Nat.reduceBEq,Bh,Bq,jJ,jIo,d4,m0,a0]),(fun k0=>hb.alloc hb.size _),(fun k0 k1=>⟨Row.new W _ _,hb.size⟩),(ab a0)⟩
   | 15,_=>
    obtain⟨g4,rfl,h0,h1,h2⟩:=e0;obtain⟨d4,d5,f0,a0,-⟩:=S;have hb:=h0 a0;obtain⟨r4,l4⟩:=h1 f0 a0;refine qQ rfl (by simp only[d4,jJ];rfl) fun K hK=>?_
    simp only[d4,d5,f0,jJ];go_simp
    refine CM (KS W g4 hb r4 l4) fun w9 hE=>?_
    exact hK _ _ ⟨g4,(by simp only[Nat.reduceBEq,Bh,Bq,jJ,d4,d5,f0]),nf,(fun _=>nf),(fun k0=>hE)⟩
   | n9+18,h=>exact Bo h (by omega)
theorem jPs (B Hb:Nat) (f:Int) (n:Nat) (zs:List Int) (gs cs:Nat) (vl:Aj) (b:Nat) (T:Ns) (vw:Aj) (Fs Fl Fw:Nat->Prop) (o:Op9) (a9:OA) (c9:Nat) (w:Ad) (h:HaK w B Hb f n T.N zs (V gs n cs) vl b T.m T.Y vw Fs Fl Fw) (hG:NsG f n zs T) (hO:OpK o) (hT:∀ W,Trn w W (fun x=>x=Hb\/Fs x\/Fw x)->jL W a9 o.y.p.m o.y.p.S):Ak prog 67 #[Af Hb,opV o (V a9 o.y.p.m c9)] w fun e w'=>e=Ae (opB f n zs T o)/\HaE w w' B Hb f n zs gs cs vl b Fs Fl Fw (opT f n zs T o):=by
 obtain⟨k,a,y,s⟩:=o;have fin:∀ (P:Prop) (ok:Bool) (T':Ns) (w':Ad),(ok=Aw↔P)->(P↔OpP f n zs T ⟨k,a,y,s⟩)->(P->nxT f n zs T ⟨k,a,y,s⟩=T')->HaE w w' B Hb f n zs gs cs vl b Fs Fl Fw (if ok then T' else T)->Ending.returned (.bool ok)=Ae (opB f n zs T ⟨k,a,y,s⟩)/\HaE w w' B Hb f n zs gs cs vl b Fs Fl Fw (opT f n zs T ⟨k,a,y,s⟩):=fun P ok T' w' h1 h2 h3 h4=>by
  cases ok with
  | true=>
   have hp:=h1.1 rfl;have e:=jKe (h2.1 hp);unfold opT;rw[e,A6 rfl,h3 hp];exact⟨rfl,h4⟩
  | false=>
   have e:=jGh (fun k=>by have:=h1.2 (h2.2 k);cases this);unfold opT;rw[e];exact⟨rfl,h4⟩
 by_cases k0:k=0
 .subst k0;refine(jMe B Hb f n zs gs cs vl b T vw Fs Fl Fw a y s _ w h hG).mono ?_;rintro e w' ⟨ok,rfl,h1,h2⟩;refine fin _ ok _ w' h1 ⟨fun q=>.inl ⟨rfl,q⟩,fun q=>?_⟩ (fun _=>by unfold nxT;rw[A6 rfl]) h2;rcases q with q|q|q|q
  .exact q.2
  .exact Bo q.1 (by simp)
  .exact Bo q.1 (by simp)
  .exact Bo q.1 (by simp)
 by_cases k1:k=1
 .subst k1;by_cases ha:0<=a/\a<T.m
  .obtain⟨a7,rfl⟩:∃ k:Nat,a=(k:Int):=⟨a.toNat,by omega⟩;refine(jJi B Hb f n T.N zs gs cs vl b T.m T.Y vw Fs Fl Fw a7 y (T.Y a7) s _ w h hG.n10.2.2.1 hG.y (by omega) rfl).mono ?_;rintro e w' ⟨rfl,h2⟩;refine fin (T.m<3000) (decide (T.m<3000)) ⟨T.N,T.m+1,wyS T.m T.Y (fun _=>T.Y a7)⟩ w' Gq ⟨fun q=>.inr (.inl ⟨rfl,ha,q⟩),fun q=>?_⟩ (fun _=>by unfold nxT;rw[A5 (by simp),A6 rfl];rfl) ?_
   .rcases q with q|q|q|q
    .exact Bo q.1 (by simp)
    .exact q.2.2
    .exact Bo q.1 (by simp)
    .exact Bo q.1 (by simp)
   .by_cases c:T.m<3000
    .rw[A6 c] at h2;rw[Bf c];exact h2
    .rw[A5 c] at h2;rw[Bg c];exact h2
  .refine(jPu B Hb f n zs gs cs vl b T vw Fs Fl Fw a y s _ w h ha).mono ?_;rintro e w' ⟨rfl,h2⟩;refine fin False Av T w' (by simp) ⟨fun q=>q.elim,fun q=>?_⟩ (fun q=>q.elim) h2;rcases q with q|q|q|q
   .exact Bo q.1 (by simp)
   .exact ha q.2.1
   .exact Bo q.1 (by simp)
   .exact Bo q.1 (by simp)
 by_cases k2:k=2
 .subst k2;refine(jPt B Hb f n zs gs cs vl b T vw Fs Fl Fw a y s a9 c9 w h hG hO.y hT).mono ?_;rintro e w' ⟨ok,rfl,h1,h2⟩;refine fin _ ok _ w' h1 ⟨fun q=>.inr (.inr (.inl ⟨rfl,q⟩)),fun q=>?_⟩ (fun _=>by unfold nxT;rw[A5 (by simp),A5 (by simp),A6 rfl]) h2;rcases q with q|q|q|q
  .exact Bo q.1 (by simp)
  .exact Bo q.1 (by simp)
  .exact q.2
  .exact Bo q.1 (by simp)
 by_cases k3:k=3
 .subst k3;refine(jJh B Hb f n zs gs cs vl b T vw Fs Fl Fw a y s _ w h hG hO.s).mono ?_;rintro e w' ⟨ok,rfl,h1,h2⟩;refine fin _ ok _ w' h1 ⟨fun q=>.inr (.inr (.inr ⟨rfl,q⟩)),fun q=>?_⟩ (fun _=>by unfold nxT;rw[A5 (by simp),A5 (by simp),A5 (by simp)]) h2;rcases q with q|q|q|q
  .exact Bo q.1 (by simp)
  .exact Bo q.1 (by simp)
  .exact Bo q.1 (by simp)
  .exact q.2
 .refine(jMd B Hb f n zs gs cs vl b T vw Fs Fl Fw k a y s _ w h k0 k1 k2 k3).mono ?_;rintro e w' ⟨rfl,h2⟩;refine fin False Av T w' (by simp) ⟨fun q=>q.elim,fun q=>?_⟩ (fun q=>q.elim) h2;rcases q with q|q|q|q
  .exact k0 q.1
  .exact k1 q.1
  .exact k2 q.1
  .exact k3 q.1
end
structure NtQ (w:Ad) (B n:Nat) (N:Nat->Nd) (zs:List Int) (m:Nat) (Y:Nat->Sy) (v1 v2 v3:Aj) (F1 F2 F3:Nat->Prop):Prop where
 n:Ow w B (qR n N) v1 F1
 z:Ow w B (inD zs) v2 F2
 y:OwK w B 31 10 m (fun i=>syD (Y i)) v3 F3
 d1:∀ g,F1 g->¬ F2 g
 d2:∀ g,F1 g->¬ F3 g
 d3:∀ g,F2 g->¬ F3 g
 f:∀ x,F1 x\/F2 x\/F3 x->B<=x/\x<w.1.size
theorem NtQ.turn {w w':Ad} {B n:Nat} {N:Nat->Nd} {zs:List Int} {m:Nat} {Y:Nat->Sy} {v1 v2 v3:Aj} {F1 F2 F3:Nat->Prop} (h:NtQ w B n N zs m Y v1 v2 v3 F1 F2 F3) (hs:w.1.size<=w'.1.size) (ht:∀ x,F1 x\/F2 x\/F3 x->w'.1[x]?=w.1[x]?):NtQ w' B n N zs m Y v1 v2 v3 F1 F2 F3:=
 ⟨h.n.frame fun x hx _=>ht x (.inl hx),h.z.frame fun x hx _=>ht x (.inr (.inl hx)),h.y.frame fun x hx _=>ht x (.inr (.inr hx)),h.d1,h.d2,h.d3,fun x hx=>⟨(h.f x hx).1,Bu (h.f x hx).2 hs⟩⟩
theorem NtQ.below {w w':Ad} {B n:Nat} {N:Nat->Nd} {zs:List Int} {m:Nat} {Y:Nat->Sy} {v1 v2 v3:Aj} {F1 F2 F3:Nat->Prop} (h:NtQ w B n N zs m Y v1 v2 v3 F1 F2 F3) (hb:Ab w w w'):NtQ w' B n N zs m Y v1 v2 v3 F1 F2 F3:=h.turn hb.size (fun x hx=>hb.block x (h.f x hx).2)
theorem OwK.base {w:Ad} {B B':Nat} {t:TypeId} {sz n:Nat} {f:Nat->Nat->Dt} {v:Aj} {F:Nat->Prop} (h:OwK w B t sz n f v F) (hB:B'<=B):OwK w B' t sz n f v F:=by
 rcases h with h|⟨g,k,cap,K,J,h1,h2,h3,h4⟩
 .exact .inl h
 .exact .inr ⟨g,k,cap,K,J,h1,h2,h3,h4.base hB⟩
theorem NtQ.base {w:Ad} {B B' n:Nat} {N:Nat->Nd} {zs:List Int} {m:Nat} {Y:Nat->Sy} {v1 v2 v3:Aj} {F1 F2 F3:Nat->Prop} (h:NtQ w B n N zs m Y v1 v2 v3 F1 F2 F3) (hB:B'<=B):NtQ w B' n N zs m Y v1 v2 v3 F1 F2 F3:=⟨h.n.base hB,h.z.base hB,h.y.base hB,h.d1,h.d2,h.d3,fun x hx=>⟨By hB (h.f x hx).1,(h.f x hx).2⟩⟩
def NtA (w W:Ad) (f:Int) (n:Nat) (zs:List Int) (T:Ns) (v:Aj):Prop:=∃ g1 c1 a2 c2 a3 c3 F1 F2 F3,v=ntV f (V (Q g1 0 I) n c1) (V a2 zs.length c2) (V a3 T.m c3)/\NtQ W w n T.N zs T.m T.Y (V (Q g1 0 I) n c1) (V a2 zs.length c2) (V a3 T.m c3) F1 F2 F3/\Ab w w W
theorem Tryz.infoOp:(Tryz.prog.info? 50).map (·.size)=M 13:=by kernel_rfl
noncomputable def doB (f:Int) (n:Nat) (zs:List Int) (T:Ns) (o:Op9):Bool:=ntB f n T.N zs T.m&&opB f n zs T o
noncomputable def doT (f:Int) (n:Nat) (zs:List Int) (T:Ns) (o:Op9):Ns:=if ntB f n T.N zs T.m then opT f n zs T o else T
theorem jGf {f:Int} {n:Nat} {N:Nat->Nd} {zs:List Int} {m:Nat} (h:ntB f n N zs m=Aw):NtP f n N zs m:=by
 rcases G5 (NtP f n N zs m) with k|k
 .exact k
 .rw[xP k] at h;cases h
def opD (o:Op9):Nat->Dt
 | 0=>.val (Ao Ar o.k)
 | 1=>.val (Ao Ar o.a)
 | 12=>.val (Ag o.s)
 | q=>syD o.y (q-2)
def JK (m:Nat) (O:Nat->Op9):Dt:=.lst 50 13 m fun i=>opD (O i)
theorem jKf {w:Ad} {n:Nat} {O:Nat->Op9} {a:OA} {cap:Nat} (h:Rd w (JK n O) (V a n cap)) {i:Nat} (hi:i<n):∃ (b off:Nat) (y:Nat->Aj) (a9:OA) (c9:Nat),a=M (Q b off I)/\(∀ q,q<13->w.cell? (Q b (off+(i*13+q)) I)=M (y q))/\jFy y=opV (O i) (V a9 (O i).y.p.m c9)/\jL w a9 (O i).y.p.m (O i).y.p.S:=by
 obtain⟨b,off,y,ea,hc,hr⟩:=h.row hi;have a0:=hr 11 (by omega);obtain⟨a9,c9,e9⟩:=a0.shape;rw[e9] at a0;refine⟨b,off,y,a9,c9,ea,hc,?_,XX.1 a0⟩;have g0:=hr 0 (by omega);have g1:=hr 1 (by omega);have g2:=hr 2 (by omega);have g3:=hr 3 (by omega);have g4:=hr 4 (by omega);have g5:=hr 5 (by omega);have g6:=hr 6 (by omega);have g7:=hr 7 (by omega);have g8:=hr 8 (by omega);have g9:=hr 9 (by omega);have b0:=hr 10 (by omega);have c0:=hr 12 (by omega);show Ai _=_;rw[g0,g1,g2,g3,g4,g5,g6,g7,g8,g9,b0,c0,e9]
theorem jMw {w:Ad} {n:Nat} {O:Nat->Op9} {a:OA} {cap:Nat} (h:Rd w (JK n O) (V a n cap)) {i:Nat} (hi:i<n):∃ (b off:Nat) (a9:OA) (c9:Nat),a=M (Q b off I)/\w.rangeAt b (off+i*13) (opC (O i) (V a9 (O i).y.p.m c9)).toList/\jL w a9 (O i).y.p.m (O i).y.p.S:=by
 obtain⟨b,off,y,a9,c9,ea,hc,e,ht⟩:=jKf h hi;obtain⟨_,x⟩:=zK (sz:=12) w (Az _ _) hc;have R:=XK x;refine⟨b,off,a9,c9,ea,?_,ht⟩;have e':#[y 0,y 1,y 2,y 3,y 4,y 5,y 6,y 7,y 8,y 9,y 10,y 11,y 12]=opC (O i) (V a9 (O i).y.p.m c9):=by injection e
 rw[<-e'];exact R
noncomputable def rnT (f:Int) (n:Nat) (zs:List Int) (O:Nat->Op9) (T:Ns):Nat->Ns
 | 0=>T
 | k+1=>doT f n zs (rnT f n zs O T k) (O k)
noncomputable def jGs (f:Int) (n:Nat) (zs:List Int) (m:Nat) (O:Nat->Op9) (T:Ns):Ns:=if m<=300 then rnT f n zs O T m else T
theorem jOx {f:Int} {n:Nat} {zs:List Int} {O:Nat->Op9} {T:Ns} (h:ntB f n T.N zs T.m=Av):∀ k,rnT f n zs O T k=T:=by
 intro k;induction k with
 | zero=>rfl
 | succ j ih=>show doT f n zs (rnT f n zs O T j) (O j)=T;rw[ih];unfold doT;rw[h];rfl
theorem jKy {f:Int} {n:Nat} {zs:List Int} {O:Nat->Op9} {T:Ns} (h:NsG f n zs T) {m:Nat} (hO:∀ i,i<m->OpK (O i)):∀ k,k<=m->NsG f n zs (rnT f n zs O T k):=by
 intro k;induction k with
 | zero=>intro _;exact h
 | succ j ih=>
  intro hj;have h1:=ih (by omega);show NsG f n zs (doT f n zs (rnT f n zs O T j) (O j));unfold doT;rw[jBx h1.t,A6 rfl];exact jOo h1 (hO j (by omega))
theorem jRk {f:Int} {n:Nat} {zs:List Int} {o:Op9} {T:Ns} (h:NsG f n zs T):doT f n zs T o=opT f n zs T o:=by unfold doT;rw[jBx h.t,A6 rfl]
theorem OwK.turned {w w':Ad} {B:Nat} {t:TypeId} {sz n:Nat} {f:Nat->Nat->Dt} {v:Aj} {F F':Nat->Prop} (h:OwK w B t sz n f v F) (ht:Trn w w' F') (hd:∀ g,F g->¬ F' g):OwK w' B t sz n f v F:=h.frame fun g hg hl=>ht.block g hl (hd g hg)
theorem jEy (f:Int) (B n:Nat) (N:Nat->Nd) (zs:List Int) (m:Nat) (Y:Nat->Sy) (a l e:OA) (c d g:Nat) (F1 F2 F3:Nat->Prop) (w:Ad) (h:NtQ w B n N zs m Y (V a n c) (V l zs.length d) (V e m g) F1 F2 F3) (hs:NtW n N zs m Y):Ak prog 32 #[ntV f (V a n c) (V l zs.length d) (V e m g),(1:Int)] w fun r w'=>r=Ae (Ao Ar ((mq3 n N zs m Y:Nat):Int))/\NtQ w' B n (XU 1 N) (jW (mq1 n N) zs.length) m (zG (mq2 n N zs) Y) (V a n c) (V l zs.length d) (V e m g) F1 F2 F3/\Trn w w' (fun x=>F1 x\/F2 x\/F3 x):=by
 obtain⟨A,HA⟩:=nmH w.1.size;obtain⟨w0,e0⟩:=nmH (w.alloc (J #[f,V a n c,V l zs.length d,V e m g] 48));have RA:=jZ e0 HA;have b0:=bl1 e0;have nA:∀ {d v} {F:Nat->Prop},Ow w B d v F->Ow w0 B d v (fun x=>F x/\x<A):=fun {d v F} ho=>by
  have:=ho.cut.mono (F':=fun x=>F x/\x<A) (fun x hx=>⟨hx.1,by rw[HA.out];exact hx.2.2⟩)
  exact this.below b0
 obtain⟨q1,c0⟩:=nnH (1+tot (fun i=>wkN (N i)) n);obtain⟨q2,d0⟩:=nnH (q1+zs.length);obtain⟨q3,a0⟩:=nnH (ofy q2 Y m);have E1:H (mq1 n N=q1):=c0.out;have E2:H (mq2 n N zs=q2):=by show _=_;unfold mq2;rw[E1.out,d0.out]
 have E3:H (mq3 n N zs m Y=q3):=by show _=_;unfold mq3;rw[E2.out,a0.out]
 rw[E1.out,E2.out,E3.out];have s0:q3<=400000000:=by rw[<-E3.out];exact hs.kq
 have t0:q2<=400000000:=by have:=jKc q2 Y m;rw[a0.out] at this;omega
 have r0:q1<=400000000:=by have:=d0.out;omega
 have KM:H (Ak prog 91 #[V a n c,Ao Ar ((1:Nat):Int)] w0 _):=jDb B (V a n c) n N 1 (fun x=>F1 x/\x<A) w0 (nA h.n) hs.kn hs.kN (by rw[c0.out];exact r0);rw[c0.out] at KM;have KE:H (Ow w0 B (inD zs) (V l zs.length d) (fun x=>F2 x/\x<A)):=nA h.z;have KZ:H (OwK w0 B 31 10 m (fun i=>syD (Y i)) (V e m g) (fun x=>F3 x/\x<A)):=((h.y.cut.mono (F':=fun x=>F3 x/\x<A) (fun x hx=>⟨hx.1,by rw[HA.out];exact hx.2.2⟩)).below b0);have KD:H ((∀ g,F1 g->¬ F2 g)/\(∀ g,F1 g->¬ F3 g)/\∀ g,F2 g->¬ F3 g):=⟨h.d1,h.d2,h.d3⟩;have n0:H (Trn w w0 (fun x=>F1 x\/F2 x\/F3 x)):=Trn.ofBelow _ b0;have KS:H (NtW n N zs m Y):=hs;have KL:H (∀ x,F1 x\/F2 x\/F3 x->B<=x/\x<w.1.size):=h.f;clear h hs b0 nA;go_enter func32,ntmps32
 go_wp2_with fail
 rw[<-e0.out,<-HA.out];refine Ax KM.out ?_;rintro e' w1 ⟨rfl,O1,T1⟩;have R1:Row w1 A 48 #[f,V a n c,V l zs.length d,V e m g]:=(T1.block A RA.lt (fun h=>Fo _ h.2)).trans RA;have x2:=R1.cell 2;simp at x2;have f0:Ow w1 B (inD zs) (V l zs.length d) (fun x=>F2 x/\x<A):=KE.turned T1 (fun g h1 h2=>KD.1 g h2.1 h1.1);have q0:H (OwK w1 B 31 10 m (fun i=>syD (Y i)) (V e m g) (fun x=>F3 x/\x<A)):=KZ.turned T1 (fun g h1 h2=>KD.2.1 g h2.1 h1.1);have m0:H (Ow w1 B (qR n (XU 1 N)) (V a n c) (fun x=>F1 x/\x<A)):=O1;have o0:H (Trn w w1 (fun x=>F1 x\/F2 x\/F3 x)):=n0.trans (T1.mono (fun g h=>.inl h.1));have g0:H (Row w1 A 48 #[f,V a n c,V l zs.length d,V e m g]):=R1;have k0:H _:=JH B (V l zs.length d) zs q1 q2 (fun x=>F2 x/\x<A) w1 f0 KS.kz (by omega) d0.out;clear T1 O1 f0 R1;go_wp2_with fail
 refine Ax k0.out ?_;rintro e' w2 ⟨rfl,O2,T2⟩;have R2:Row w2 A 48 #[f,V a n c,V l zs.length d,V e m g]:=(T2.block A g0.lt (fun h=>Fo _ h.2)).trans g0;have x3:=R2.cell 3;simp at x3;have i0:H (Ow w2 B (qR n (XU 1 N)) (V a n c) (fun x=>F1 x/\x<A)/\Ow w2 B (inD (jW q1 zs.length)) (V l zs.length d) (fun x=>F2 x/\x<A)):=⟨m0.turned T2 (fun g h1 h2=>KD.1 g h1.1 h2.1),O2⟩;have Z2:OwK w2 B 31 10 m (fun i=>syD (Y i)) (V e m g) (fun x=>F3 x/\x<A):=q0.turned T2 (fun g h1 h2=>KD.2.2 g h2.1 h1.1);have p0:H (Trn w w2 (fun x=>F1 x\/F2 x\/F3 x)):=o0.trans (T2.mono (fun g h=>.inr (.inl h.1)));have h0:H _:=jJ1 B (V e m g) m Y q2 (fun x=>F3 x/\x<A) w2 Z2 KS.km KS.kY (by rw[a0.out];exact s0);rw[a0.out] at h0;clear T2 O2 Z2 R2 x2;go_wp2_with fail
 refine Ax h0.out ?_;rintro e' w3 ⟨rfl,O3,T3⟩;have KF:H (NtQ w3 B n (XU 1 N) (jW q1 zs.length) m (zG q2 Y) (V a n c) (V l zs.length d) (V e m g) F1 F2 F3/\Trn w w3 (fun x=>F1 x\/F2 x\/F3 x)):=by
  have j0:=p0.trans (T3.mono (fun g h=>.inr (.inr h.1)));refine⟨⟨?_,?_,?_,KD.1,KD.2.1,KD.2.2,fun x hx=>⟨(KL x hx).1,Bu (KL x hx).2 j0.size⟩⟩,j0⟩
  .exact(i0.1.turned T3 (fun g h1 h2=>KD.2.1 g h1.1 h2.1)).mono (fun g h=>h.1)
  .exact(i0.2.turned T3 (fun g h1 h2=>KD.2.2 g h1.1 h2.1)).mono (fun g h=>h.1)
  .exact O3.mono (fun g h=>h.1)
 clear T3 O3 x3;go_wp2
 go_ret
 exact⟨rfl,KF.1,KF.2⟩
theorem Rf.since {W W1:Ad} {E:Nat->Prop} {d:Dt} {v:Aj} (h:Rf W E d v) (hs:W.1.size<=W1.1.size) (ht:∀ b,¬ E b->b<W.1.size->W1.1[b]?=W.1[b]?):Rf W1 (fun b=>E b\/W.1.size<=b) d v:=
 fun W' h1 h2=>h W' (By hs h1) (fun b hb hl=>(h2 b (fun k=>k.elim hb (fun k=>by omega)) (Bu hl hs)).trans (ht b hb hl))
theorem Rf.row {W:Ad} {E:Nat->Prop} {t:TypeId} {sz n:Nat} {f:Nat->Nat->Dt} {a:OA} {cap:Nat} (h:Rf W E (.lst t sz n f) (V a n cap)) {i:Nat} (hi:i<n) (hz:0<sz):∃ (b off:Nat) (y:Nat->Aj),a=M (Q b off I)/\¬ E b/\(∀ q,q<sz->W.cell? (Q b (off+(i*sz+q)) I)=M (y q))/\∀ q,q<sz->Rf W E (f i q) (y q):=by
 obtain⟨b,off,y,ea,hy,_⟩:=h.rd.row hi;have hE:¬ E b:=fun k=>by
  have h1:=h {W with heap:=W.1.setIfInBounds b (J #[] t)} (by simp) (fun x hx _=>by
   show (W.1.setIfInBounds b (J #[] t))[x]?=W.1[x]?;exact Eo (by intro e;subst e;exact hx k))
  obtain⟨b',b0,y',a0,c0,_⟩:=h1.row hi;rw[ea] at a0;obtain⟨rfl,rfl⟩:b=b'/\off=b0:=by simp at a0;exact⟨a0.1,a0.2⟩
  have h2:=c0 0 hz;have hl:=A7 (hy 0 hz);simp[World.cell?,hl] at h2
 refine⟨b,off,y,ea,hE,hy,fun q hq W' h1 h2=>?_⟩;obtain⟨b',b0,y',a0,c0,d0⟩:=(h W' h1 h2).row hi;rw[ea] at a0;obtain⟨rfl,rfl⟩:b=b'/\off=b0:=by simp at a0;exact⟨a0.1,a0.2⟩
 have e1:=c0 q hq;rw[zU (h2 b hE (A7 (hy q hq))),hy q hq] at e1;rw[Ee e1];exact d0 q hq
theorem jI3 (sz:Nat) (c c2:Nat->Nat->Aj) (n m:Nat) (hz:0<sz):cL sz c n++cL sz c2 m=cL sz (fun i q=>if i<n then c i q else c2 (i-n) q) (n+m):=by
 apply Co
 intro j;by_cases hj:j<(n+m)*sz
 .have hd:j / sz<n+m:=(Db hz).2 hj;have hm:j % sz<sz:=E5 _ hz;have h2:=jU sz (fun i q=>if i<n then c i q else c2 (i-n) q) (n+m) (j / sz) (j % sz) hd hm;rw[vB] at h2;rw[h2];by_cases hn:j<n*sz
  .have a0:j / sz<n:=(Db hz).2 hn;have h1:=jU sz c n (j / sz) (j % sz) a0 hm;rw[vB] at h1;rw[Ea (by rw[qB];exact hn),h1,A6 a0]
  .have a0:n<=j / sz:=(Nat.le_div_iff_mul_le hz).2 (by omega);have h1:=jU sz c2 m (j / sz-n) (j % sz) (by omega) hm;have e:(j / sz-n)*sz+j % sz=j-n*sz:=by
    have:=@vB sz j
    rw[Nat.sub_mul];have h3:=Du sz a0;omega
   rw[e] at h1;rw[Ds (by rw[qB];omega),qB,h1,A5 (by omega)]
 .rw[Be (by rw[Fb,qB,qB,<-Eu];omega),Be (by rw[qB];omega)]
theorem jCc {w:Ad} {y:Sy} {q:Nat} {v:Aj} (h:Rd w (syD y q) v):v.oneCell'=Aw:=by
 match q,h with
 | 0,h|1,h|2,h|3,h|4,h|5,h|6,h|7,h|8,h=>have e:v=_:=h;rw[e];rfl
 | q+9,h=>obtain⟨a,c,e,_⟩:=h;rw[e];rfl
theorem jAx {sz n:Nat} {c:Nat->Nat->Aj} {u:Aj} (hz:0<sz) (h:u∈cL sz c n):∃ i q,i<n/\q<sz/\u=c i q:=by
 obtain⟨j,hj,e⟩:=D7.1 h;have a0:j<n*sz:=by rw[qB] at hj;exact hj
 have h1:=jU sz c n (j / sz) (j % sz) ((Db hz).2 a0) (E5 _ hz);rw[vB,Bj hj,e] at h1;exact⟨j / sz,j % sz,(Db hz).2 a0,E5 _ hz,Ee h1⟩
def EX (gN gW:Nat) (X:Nat->Prop) (b:Nat):Prop:=b=gN\/b=gW\/X b
structure NtE (W:Ad) (B n:Nat) (N:Nat->Nd) (zs:List Int) (m:Nat) (Y:Nat->Sy) (gN cN:Nat) (v2:Aj) (gW cW:Nat) (X:Nat->Prop):Prop where
 o:∃ c,W.ownsRow B 26 3 (V gN n cN) n (cL 3 c n)/\∀ i q,i<n->q<3->Rf W (EX gN gW X) (ndD (N i) q) (c i q)
 z:Rf W (EX gN gW X) (inD zs) v2
 y:∃ c,W.ownsRow B 31 10 (V gW m cW) m (cL 10 c m)/\∀ i q,i<m->q<10->Rf W (EX gN gW X) (syD (Y i) q) (c i q)
 d:gN≠gW
theorem NtE.of {w:Ad} {B n:Nat} {N:Nat->Nd} {zs:List Int} {m:Nat} {Y:Nat->Sy} {g1 c1 g3 c3:Nat} {v2:Aj} {F1 F2 F3 X:Nat->Prop} (h:NtO w B n N zs m Y (V g1 n c1) v2 (V g3 m c3) F1 F2 F3) (hX:∀ x,F1 x\/F2 x\/F3 x->¬ X x):NtE w B n N zs m Y g1 c1 v2 g3 c3 X:=by
 obtain⟨a1,k1,c0,G1,e1,e0,a0,g0⟩:=h.n;obtain⟨a3,k3,d0,G3,e3,f0,b0,h0⟩:=h.y;cases e1;cases e3;have f1:=a0.head _ rfl;have f3:=b0.head _ rfl;refine⟨⟨c0,e0,fun i q hi hq=>Rf.of_ow (g0 i q hi hq) (fun x hx k=>?_)⟩,Rf.of_ow h.z (fun x hx k=>?_),⟨d0,f0,fun i q hi hq=>Rf.of_ow (h0 i q hi hq) (fun x hx k=>?_)⟩,fun e=>h.d2 g1 f1 (e▸f3)⟩
 .rcases k with k|k|k
  .exact a0.apart i q _ hi hq rfl (k▸hx)
  .exact h.d2 x (a0.sub i q x hi hq hx) (k▸f3)
  .exact hX x (.inl (a0.sub i q x hi hq hx)) k
 .rcases k with k|k|k
  .exact h.d1 x (k▸f1) hx
  .exact h.d3 x hx (k▸f3)
  .exact hX x (.inr (.inl hx)) k
 .rcases k with k|k|k
  .exact h.d2 x (k▸f1) (b0.sub i q x hi hq hx)
  .exact b0.apart i q _ hi hq rfl (k▸hx)
  .exact hX x (.inr (.inr (b0.sub i q x hi hq hx))) k
theorem NtE.below {w w':Ad} {B n:Nat} {N:Nat->Nd} {zs:List Int} {m:Nat} {Y:Nat->Sy} {g1 c1 g3 c3:Nat} {v2:Aj} {X:Nat->Prop} (h:NtE w B n N zs m Y g1 c1 v2 g3 c3 X) (hb:Ab w w w'):NtE w' B n N zs m Y g1 c1 v2 g3 c3 X:=by
 obtain⟨c,h1,h2⟩:=h.o;obtain⟨cy,h3,h4⟩:=h.y;exact⟨⟨c,jE h1 hb,fun i q hi hq=>(h2 i q hi hq).below hb⟩,h.z.below hb,⟨cy,jE h3 hb,fun i q hi hq=>(h4 i q hi hq).below hb⟩,h.d⟩
theorem NtE.grow {w w':Ad} {B n:Nat} {N:Nat->Nd} {zs:List Int} {m:Nat} {Y:Nat->Sy} {g1 c1 g3 c3:Nat} {v2:Aj} {X:Nat->Prop} (h:NtE w B n N zs m Y g1 c1 v2 g3 c3 X) (hb:Ab w w w'):NtE w' B n N zs m Y g1 c1 v2 g3 c3 (fun b=>X b\/(w.1.size<=b/\b<w'.1.size)):=by
 obtain⟨c,h1,h2⟩:=h.o;obtain⟨cy,h3,h4⟩:=h.y;have up:∀ {d:Dt} {v:Aj},Rf w (EX g1 g3 X) d v->Rf w' (EX g1 g3 (fun b=>X b\/(w.1.size<=b/\b<w'.1.size))) d v:=fun r=>(r.since hb.size (fun b _ hl=>hb.block b hl)).mono (fun b k=>by
  rcases k with k|k|k|k
  .exact .inl (.inl k)
  .exact .inl (.inr (.inl k))
  .exact .inl (.inr (.inr k))
  .exact .inr k.1)
 exact⟨⟨c,jE h1 hb,fun i q hi hq=>up (h2 i q hi hq)⟩,up h.z,⟨cy,jE h3 hb,fun i q hi hq=>up (h4 i q hi hq)⟩,h.d⟩
theorem NtE.less {w:Ad} {B n:Nat} {N:Nat->Nd} {zs:List Int} {m:Nat} {Y:Nat->Sy} {g1 c1 g3 c3:Nat} {v2:Aj} {X X':Nat->Prop} (h:NtE w B n N zs m Y g1 c1 v2 g3 c3 X) (hX:∀ b,X' b->X b):NtE w B n N zs m Y g1 c1 v2 g3 c3 X':=by
 obtain⟨c,h1,h2⟩:=h.o;obtain⟨cy,h3,h4⟩:=h.y;have up:∀ b,EX g1 g3 X' b->EX g1 g3 X b:=fun b k=>k.imp id (fun k=>k.imp id (hX b))
 exact⟨⟨c,h1,fun i q hi hq=>(h2 i q hi hq).mono up⟩,h.z.mono up,⟨cy,h3,fun i q hi hq=>(h4 i q hi hq).mono up⟩,h.d⟩
theorem NtE.turn {w w':Ad} {B n:Nat} {N:Nat->Nd} {zs:List Int} {m:Nat} {Y:Nat->Sy} {g1 c1 g3 c3:Nat} {v2:Aj} {X:Nat->Prop} (h:NtE w B n N zs m Y g1 c1 v2 g3 c3 X) (hs:w.1.size<=w'.1.size) (ht:∀ b,b<w.1.size->¬ X b\/b=g1\/b=g3->w'.1[b]?=w.1[b]?):NtE w' B n N zs m Y g1 c1 v2 g3 c3 X:=by
 obtain⟨c,h1,h2⟩:=h.o;obtain⟨cy,h3,h4⟩:=h.y;have up:∀ {d:Dt} {v:Aj},Rf w (EX g1 g3 X) d v->Rf w' (EX g1 g3 X) d v:=fun r=>r.turn hs (fun b hb hl=>ht b hl (.inl (fun k=>hb (.inr (.inr k)))))
 exact⟨⟨c,JL h1 (fun x e _ hl=>by cases e;exact ht g1 hl (.inr (.inl rfl))),fun i q hi hq=>up (h2 i q hi hq)⟩,up h.z,⟨cy,JL h3 (fun x e _ hl=>by cases e;exact ht g3 hl (.inr (.inr rfl))),fun i q hi hq=>up (h4 i q hi hq)⟩,h.d⟩
theorem NtE.base {w:Ad} {B B' n:Nat} {N:Nat->Nd} {zs:List Int} {m:Nat} {Y:Nat->Sy} {g1 c1 g3 c3:Nat} {v2:Aj} {X:Nat->Prop} (h:NtE w B n N zs m Y g1 c1 v2 g3 c3 X) (hB:B'<=B):NtE w B' n N zs m Y g1 c1 v2 g3 c3 X:=by
 obtain⟨c,h1,h2⟩:=h.o;obtain⟨cy,h3,h4⟩:=h.y;exact⟨⟨c,jY h1 hB,h2⟩,h.z,⟨cy,jY h3 hB,h4⟩,h.d⟩
theorem jOw {W:Ad} {B:Nat} {t:TypeId} {sz n g cap:Nat} {c:Nat->Nat->Aj} {f:Nat->Nat->Dt} (ho:W.ownsRow B t sz (V g n cap) n (cL sz c n)) (hr:∀ i q,i<n->q<sz->Rd W (f i q) (c i q)):Rd W (.lst t sz n f) (V g n cap):=
 ⟨_,_,rfl,fun i hi=>⟨g,0,rfl,fun q hq=>⟨c i q,by rw[Bt,Br ho _ (qM hi hq)];exact jU _ _ _ _ _ hi hq,hr i q hi hq⟩⟩⟩
theorem NtE.rdN {w:Ad} {B n:Nat} {N:Nat->Nd} {zs:List Int} {m:Nat} {Y:Nat->Sy} {g1 c1 g3 c3:Nat} {v2:Aj} {X:Nat->Prop} (h:NtE w B n N zs m Y g1 c1 v2 g3 c3 X):Rd w (qR n N) (V g1 n c1):=by
 obtain⟨c,h1,h2⟩:=h.o;exact jOw h1 (fun i q hi hq=>(h2 i q hi hq).rd)
theorem NtE.rdY {w:Ad} {B n:Nat} {N:Nat->Nd} {zs:List Int} {m:Nat} {Y:Nat->Sy} {g1 c1 g3 c3:Nat} {v2:Aj} {X:Nat->Prop} (h:NtE w B n N zs m Y g1 c1 v2 g3 c3 X):Rd w (qI m Y) (V g3 m c3):=by
 obtain⟨c,h1,h2⟩:=h.y;exact jOw h1 (fun i q hi hq=>(h2 i q hi hq).rd)
theorem NtE.lt {w:Ad} {B n:Nat} {N:Nat->Nd} {zs:List Int} {m:Nat} {Y:Nat->Sy} {g1 c1 g3 c3:Nat} {v2:Aj} {X:Nat->Prop} (h:NtE w B n N zs m Y g1 c1 v2 g3 c3 X):(B<=g1/\g1<w)/\B<=g3/\g3<w:=by
 obtain⟨_,h1,_⟩:=h.o;obtain⟨_,h2,_⟩:=h.y;exact⟨A0 h1 g1 rfl,A0 h2 g3 rfl⟩
theorem jNa {P:Program} (w:Ad) (t ty:TypeId) (base:Nat) (e:TypeId) (i:TypeInfo) (z:Aj) (size b0:Nat) (ht:P.underlying t=M (.slice e)) (hi:P.info? e=M i) (hz:i.zero=M z) (h0:i.size=size) (k0:i.bytes=b0) (o0:z.cells.size=size) (n0:0<size) (g0 n d0:Nat) (xs:List Aj) (i0:w.ownsRow base e size (V g0 n d0) n xs) (ad:Al) (m c:Nat) (a0:List Aj) (hl:a0.length=m*size) (f0:∀ j u,a0[j]?=M u->w.cell? (ad.add j)=M u) (h1:∀ u∈a0,u.oneCell'=Aw) (j0:n+m<=Au) (c0:(n+m)*b0<=140737488355328) (e0:base<=w):∃ g cap w',(Builtin.append_ #[t,t] ty #[V g0 n d0,V (M ad) m c]).run P w=.ok (V (Q g 0 I) (n+m) cap) w'/\w'.ownsRow base e size (V (Q g 0 I) (n+m) cap) (n+m) (xs++a0)/\w.grownBy w' (M g0)/\(g=g0\/g=w.1.size):=by
 obtain⟨v',w',hr,h2,h3,h4,h5⟩:=run_append_own_at (P:=P) w base t ty e i z size b0 ht hi hz h0 k0 o0 n0 _ n xs i0 ad m c a0 hl f0 h1 j0 c0 e0;have m0:v'≠V I 0 0:=fun e=>by have:=h4.1 e;cases this.1
 rcases h2.2 with ⟨e,_⟩|⟨g,cap,p0,e,_⟩
 .exact Bo e m0
 .subst e;refine⟨g,cap,w',hr,h2,h3,?_⟩;rcases h5 with h5|h5
  .exact .inl (by injection h5)
  .exact .inr (by injection h5)
theorem QH {o:Oper} {a:Act} {w:Ad} {K:Act->Ad->Prop} {Q:Exit->Act->Ad->Prop} (s x:Nat)
  (ho:o.op=.call {callee:=.builtin .append,args:=#[.tmp s,.tmp x],argTypes:=#[34,34]})
  (base g0 n a0:Nat) (xs:List Aj) (hs:a.eval (.tmp s)=V g0 n a0) (c0:w.ownsRow base 31 10 (V g0 n a0) n xs)
  (ad:OA) (m c:Nat) (b0:List Aj) (hx:a.eval (.tmp x)=V ad m c) (h0:ad=I->m=0) (hl:b0.length=m*10) (e0:∀ b,ad=M b->∀ j u,b0[j]?=M u->w.cell? (b.add j)=M u) (h1:∀ u∈b0,u.oneCell'=Aw)
  (q0:n+m<=1000000) (d0:base<=w)
  (h:∀ g cap w',w'.ownsRow base 31 10 (V (Addr.mk g 0 I) (n+m) cap) (n+m) (xs++b0)->w.grownBy w' (M g0)->(g=g0\/g=w.1.size)->K (a.put o.dst (V (Addr.mk g 0 I) (n+m) cap)) w'):o.wp prog a w K Q:=by
 obtain⟨iY,k0,f0,i0,j0⟩:=Cg Tryz.infoSyZ;cases ad with
 | some b=>
  obtain⟨g,cap,w',hr,h2,h3,h4⟩:=jNa (P:=prog) w 34 o.type base 31 iY _ 10 120 Dm k0 f0 i0 j0 rfl (by omega) g0 n a0 xs c0 b m c b0 hl (e0 b rfl) h1 (by unfold Au;omega) (by omega) d0;unfold Oper.wp execOp;simp only[ho,resolve,invoke,builtin,E9,Gj,Dz,List.map_toArray,Gy,G7,hs,hx,hr];exact h g cap w' h2 h3 h4
 | none=>
  have em:=h0 rfl;subst em;have en:=List.eq_nil_of_length_eq_zero (by omega);subst en;have m0:n<=a0:=by
   rcases c0.2 with ⟨e,_⟩|⟨g,cap,o0,e,_,_,hc,_⟩
   .cases e
   .cases e;exact hc
  have hk:=h g0 a0 w (by rw[List.append_nil];exact c0) ⟨rfl,rfl,rfl,Ay _,fun _ _ _=>rfl⟩ (.inl rfl);obtain⟨p0,op,ty,t0,n0,gd⟩:=o;simp only at ho;subst ho;have r0:a.tmps[s]?.getD O=V g0 n a0:=by simpa [Act.eval] using hs
  have s0:a.tmps[x]?.getD O=V I 0 c:=by simpa [Act.eval] using hx
  go_simp
  exact hk
theorem jAt {i0:Array Oper} {c0:List Oper} {o:Oper} {a:Act} {w:Ad} {Q:Exit->Act->Ad->Prop} (j0:o.guard=I) (s x:Nat)
  (ho:o.op=.call {callee:=.builtin .append,args:=#[.tmp s,.tmp x],argTypes:=#[34,34]})
  (base g0 n b0:Nat) (xs:List Aj) (hs:a.eval (.tmp s)=V g0 n b0) (f0:w.ownsRow base 31 10 (V g0 n b0) n xs)
  (ad:OA) (m c:Nat) (a0:List Aj) (hx:a.eval (.tmp x)=V ad m c) (h0:ad=I->m=0) (hl:a0.length=m*10) (e0:∀ b,ad=M b->∀ j u,a0[j]?=M u->w.cell? (b.add j)=M u) (h1:∀ u∈a0,u.oneCell'=Aw)
  (k0:n+m<=1000000) (d0:base<=w)
  (h:∀ g cap w',w'.ownsRow base 31 10 (V (Addr.mk g 0 I) (n+m) cap) (n+m) (xs++a0)->w.grownBy w' (M g0)->(g=g0\/g=w.1.size)->wpList prog i0 Q c0 (a.put o.dst (V (Addr.mk g 0 I) (n+m) cap)) w'):wpList prog i0 Q (o::c0) a w:=
 Gw j0 fun _ hK=>QH s x ho base g0 n b0 xs hs f0 ad m c a0 hx h0 hl e0 h1 k0 d0 fun g cap w' h2 h3 h4=>hK _ _ (h g cap w' h2 h3 h4)
theorem jKa {W:Ad} {E:Nat->Prop} {m cap:Nat} {Y:Nat->Sy} {a:OA} (h:Rf W E (qI m Y) (V a m cap)):∃ c:Nat->Nat->Aj,(a=I->m=0)/\(∀ b,a=M b->∀ j u,(cL 10 c m)[j]?=M u->W.cell? (b.add j)=M u)/\(∀ b,a=M b->0<m->¬ E b.block)/\∀ i q,i<m->q<10->Rf W E (syD (Y i) q) (c i q):=by
 have h1:∀ i,∃ y:Nat->Aj,i<m->∃ b off,a=M (Q b off I)/\¬ E b/\(∀ q,q<10->W.cell? (Q b (off+(i*10+q)) I)=M (y q))/\∀ q,q<10->Rf W E (syD (Y i) q) (y q):=fun i=>by
  by_cases hi:i<m
  .obtain⟨b,off,y,h2⟩:=Rf.row h hi (by omega);exact⟨y,fun _=>⟨b,off,h2⟩⟩
  .exact⟨fun _=>O,fun k=>Bo k hi⟩
 obtain⟨c,hc⟩:=Ew h1;refine⟨c,fun e=>?_,fun b e j u hu=>?_,fun b e hm k=>?_,fun i q hi hq=>?_⟩
 .rcases Fy m with k|k
  .exact k
  .obtain⟨b,off,e2,_⟩:=hc 0 k;rw[e] at e2;cases e2
 .have hj:j<m*10:=by have:=(Ca.1 hu).1;rw[qB] at this;exact this
  obtain⟨b',off,e2,_,h3,_⟩:=hc (j / 10) (by omega);rw[e] at e2;cases e2;have h4:=jU 10 c m (j / 10) (j % 10) (by omega) (by omega);rw[vB] at h4;rw[h4] at hu;have h5:=h3 (j % 10) (by omega);rw[vB] at h5;rw[Addr.add_mid,h5];exact hu
 .obtain⟨b',off,e2,h3,_⟩:=hc 0 hm;rw[e] at e2;cases e2;exact h3 k
 .obtain⟨_,_,_,_,_,h3⟩:=hc i hi;exact h3 q hq
theorem jG5 {o:Oper} {a:Act} {w:World} {K:Act->World->Prop} {Q:Exit->Act->World->Prop} (x lo:Nat) (ho:o.op=.slice 34 (.tmp x) (some (.tmp lo)) none none) (g n cap k:Nat) (hx:a.eval (.tmp x)=.slice g n cap) (b0:a.eval (.tmp lo)=.int .i64 (k:Int)) (hk:k<=n) (hn:n<=cap) (h:∀ off,(n=k\/off=k*10)->K (a.put o.dst (.slice (Addr.mk g off none) (n-k) (cap-k))) w):o.wp prog a w K Q:=by
 obtain⟨f0,op,ty,i0,e0,gd⟩:=o;simp only at ho;subst ho;have h0:a.tmps[x]?.getD undef=.slice g n cap:=by simpa [Act.eval] using hx
 have d0:a.tmps[lo]?.getD undef=.int .i64 (k:Int):=by simpa [Act.eval] using b0
 have g0:(k:Int)<=(n:Int):=by omega
 by_cases hc:cap=k
 .have a0:=h 0 (.inl (by omega));rw[show cap-k=0 by omega,show n-k=0 by omega] at a0;have c0:n=k:=by omega
  subst hc;subst c0;go_simp
  exact a0
 .have a0:=h (k*10) (.inr rfl);go_simp
  exact a0
theorem jPa {o:Oper} {a:Act} {w:World} {K:Act->World->Prop} {Q:Exit->Act->World->Prop} (x hi:Nat) (ho:o.op=.slice 34 (.tmp x) none (some (.tmp hi)) none) (g n cap k:Nat) (hx:a.eval (.tmp x)=.slice g n cap) (a0:a.eval (.tmp hi)=.int .i64 (k:Int)) (hk:k<=cap) (h:K (a.put o.dst (.slice g k cap)) w):o.wp prog a w K Q:=by
 obtain⟨d0,op,ty,g0,c0,gd⟩:=o;simp only at ho;subst ho;have f0:a.tmps[x]?.getD undef=.slice g n cap:=by simpa [Act.eval] using hx
 have b0:a.tmps[hi]?.getD undef=.int .i64 (k:Int):=by simpa [Act.eval] using a0
 have e0:(k:Int)<=(cap:Int):=by omega
 go_simp
 exact h
theorem jDm (f:Int) (a:OA) (n c:Nat) (l:OA) (zs:List Int) (d:Nat) (e:OA) (m g:Nat) (N:Nat->Nd) (Y:Nat->Sy) (oa:OA) (mo co:Nat) (w:Ad) (h1:Rd w (qR n N) (V a n c)) (h2:jH w l zs.length zs) (h3:Rd w (qI m Y) (V e m g)) (hn:n<=1048576) (hz:zs.length<=1048576) (hm:m<=1048576) (hN:∀ i,i<n->(N i).n<=1048576/\∀ j,j<(N i).n->SlK ((N i).S j)) (hY:∀ i,i<m->SyK (Y i)) (n0:mo<=1048576) (hb:ntB f n N zs m=Av\/300<mo):Ak prog 38 #[ntV f (V a n c) (V l zs.length d) (V e m g),V oa mo co] w fun r w'=>∃ v,r=Ae v/\NtA w w' f n zs ⟨N,m,Y⟩ v:=by
 obtain⟨A,HA⟩:=nmH w.1.size;obtain⟨D,HD⟩:=nmH (w.1.size+1);obtain⟨w0,c0⟩:=nmH ((w.alloc (J #[f,V a n c,V l zs.length d,V e m g] 48)).alloc (J #[(),V I 0 0,V I 0 0,V I 0 0] 48));have RA:=xS c0 HA;have RD:=zR c0 HD;have d0:=bl2 c0;have i0:=hd d0;have HL:H (w.1.size<=D/\D<w0):=⟨by have:=HD.out;omega,RD.out.lt⟩;have KN:H _:=jDl f a n c l zs d e m g N w0 (h1.below d0) (h2.below d0) hn hz (fun i hi=>⟨(hN i hi).1,fun j hj=>((hN i hi).2 j hj).ok⟩);have KC:H (∀ W,Ab w0 w0 W->_):=fun W hW=>ZU f a n c l zs d e m g N Y W ((h1.below d0).below hW) ((h2.below d0).below hW) ((h3.below d0).below hW) hn hz hm hN hY
 obtain⟨zl,m0⟩:=nnH zs.length;unfold NtA;rw[m0.out] at KC KN RA c0 |-;cases e0:ntB f n N zs m with
 | false=>
  rw[e0] at KN;go_enter func38,ntmps38
  go_upto_region 1 with fail
  rw[<-c0.out,<-HD.out,<-HA.out];go_wp2_with (refine Bb rfl 48 _ rfl A rfl 48 #[f,V a n c,V l zl d,V e m g] (0,0) _ ?_ Bp rfl Tryz.infoNt ?_;exact RA)
  refine CM KN.out fun w1 b1=>?_
  have j0:=hd (RA.below b1 RA.lt);have f0:=RD.below b1 RD.lt;have b0:=hd b1;go_wp2_with (refine Bb rfl 48 _ rfl A rfl 48 #[f,V a n c,V l zl d,V e m g] (0,0) _ ?_ Bp rfl Tryz.infoNt ?_;exact j0)
  refine Ax (KC w1 b0) ?_;rintro r w2 ⟨g1,a2,c2,g3,F1,F2,F3,rfl,o1,h0,b2⟩;have g0:=hd (f0.below b2 f0.lt);obtain⟨w4,a0⟩:=nmH (w2.setRow D #[f,V g1 n n,V a2 zl c2,V g3 m m]);have k0:H (Row w4 D 48 #[f,V g1 n n,V a2 zl c2,V g3 m m]):=by show Row _ _ _ _;rw[a0.out];exact g0.row
  have KF:H (NtQ w4 w n N zs m Y (V g1 n n) (V a2 zl c2) (V g3 m m) F1 F2 F3/\Ab w w w4):=by
   have s0:=i0.size;have s1:=b0.size;have lD:=HL.out;refine⟨?_,by rw[a0.out];exact jF (jA i0 (jA b0 b2)) lD.1 _⟩;have q:NtQ w2 w1.1.size n N zs m Y (V g1 n n) (V a2 zl c2) (V g3 m m) F1 F2 F3:=⟨o1.n,o1.z,OwK.of o1.y,o1.d1,o1.d2,o1.d3,h0⟩;exact(q.turn (by rw[a0.out];simp) (fun x hx=>by rw[a0.out];exact Cd _ _ _ _ (by have:=(h0 x hx).1;omega))).base (by omega)
  go_wp2_with (refine Bw rfl 48 _ _ rfl D #[f,V g1 n n,V a2 zl c2,V g3 m m] rfl rfl 48 #[(),V I 0 0,V I 0 0,V I 0 0] ?_ Tryz.infoNt rfl (by simp[Aq]) ?_;exact g0;rw[<-a0.out])
  exact B7 (v:=Ai #[f,V g1 n n,V a2 zl c2,V g3 m m]) (Ck results38 _ _ D 48 _ (0,0) _ rfl k0 Bp rfl Tryz.infoNt) rfl ⟨_,rfl,g1,n,a2,c2,_,_,F1,F2,F3,rfl,KF⟩
 | true=>
  have h3:(300:Int)<(mo:Int):=by
   rcases hb with k|k
   .rw[e0] at k;cases k
   .omega
  rw[e0] at KN;go_enter func38,ntmps38
  go_upto_region 1 with fail
  rw[<-c0.out,<-HD.out,<-HA.out];go_wp2_with (refine Bb rfl 48 _ rfl A rfl 48 #[f,V a n c,V l zl d,V e m g] (0,0) _ ?_ Bp rfl Tryz.infoNt ?_;exact RA)
  refine CM KN.out fun w1 b1=>?_
  have j0:=hd (RA.below b1 RA.lt);have f0:=RD.below b1 RD.lt;have b0:=hd b1;go_wp2_with (refine Bb rfl 48 _ rfl A rfl 48 #[f,V a n c,V l zl d,V e m g] (0,0) _ ?_ Bp rfl Tryz.infoNt ?_;exact j0)
  refine Ax (KC w1 b0) ?_;rintro r w2 ⟨g1,a2,c2,g3,F1,F2,F3,rfl,o1,h0,b2⟩;have g0:=hd (f0.below b2 f0.lt);obtain⟨w4,a0⟩:=nmH (w2.setRow D #[f,V g1 n n,V a2 zl c2,V g3 m m]);have k0:H (Row w4 D 48 #[f,V g1 n n,V a2 zl c2,V g3 m m]):=by show Row _ _ _ _;rw[a0.out];exact g0.row
  have KF:H (NtQ w4 w n N zs m Y (V g1 n n) (V a2 zl c2) (V g3 m m) F1 F2 F3/\Ab w w w4):=by
   have s0:=i0.size;have s1:=b0.size;have lD:=HL.out;refine⟨?_,by rw[a0.out];exact jF (jA i0 (jA b0 b2)) lD.1 _⟩;have q:NtQ w2 w1.1.size n N zs m Y (V g1 n n) (V a2 zl c2) (V g3 m m) F1 F2 F3:=⟨o1.n,o1.z,OwK.of o1.y,o1.d1,o1.d2,o1.d3,h0⟩;exact(q.turn (by rw[a0.out];simp) (fun x hx=>by rw[a0.out];exact Cd _ _ _ _ (by have:=(h0 x hx).1;omega))).base (by omega)
  go_wp2_with (refine Bw rfl 48 _ _ rfl D #[f,V g1 n n,V a2 zl c2,V g3 m m] rfl rfl 48 #[(),V I 0 0,V I 0 0,V I 0 0] ?_ Tryz.infoNt rfl (by simp[Aq]) ?_;exact g0;rw[<-a0.out])
  exact B7 (v:=Ai #[f,V g1 n n,V a2 zl c2,V g3 m m]) (Ck results38 _ _ D 48 _ (0,0) _ rfl k0 Bp rfl Tryz.infoNt) rfl ⟨_,rfl,g1,n,a2,c2,_,_,F1,F2,F3,rfl,KF⟩
theorem jHx (f:Int) (a:OA) (n c:Nat) (l:OA) (zs:List Int) (d:Nat) (e:OA) (m g:Nat) (N:Nat->Nd) (Y:Nat->Sy) (oa:OA) (mo co:Nat) (O:Nat->Op9) (w:Ad) (h1:Rd w (qR n N) (V a n c)) (h2:jH w l zs.length zs) (h3:Rd w (qI m Y) (V e m g)) (hn:n<=1048576) (hz:zs.length<=1048576) (hm:m<=1048576) (hN:∀ i,i<n->(N i).n<=1048576/\∀ j,j<(N i).n->SlK ((N i).S j)) (hY:∀ i,i<m->SyK (Y i)) (h9:Rd w (JK mo O) (V oa mo co)) (hO:∀ i,i<mo->OpK (O i)) (k1:mo<=300) (hb:ntB f n N zs m=Aw):Ak prog 38 #[ntV f (V a n c) (V l zs.length d) (V e m g),V oa mo co] w fun r w'=>∃ v,r=Ae v/\NtA w w' f n zs (rnT f n zs O ⟨N,m,Y⟩ mo) v:=by
 obtain⟨A,HA⟩:=nmH w.1.size;obtain⟨D,HD⟩:=nmH (w.1.size+1);obtain⟨w0,c0⟩:=nmH ((w.alloc (J #[f,V a n c,V l zs.length d,V e m g] 48)).alloc (J #[(),V I 0 0,V I 0 0,V I 0 0] 48));have RA:=xS c0 HA;have RD:=zR c0 HD;have a0:=bl2 c0;have n0:=hd a0;have HL:H (w.1.size<=D/\D<w0):=⟨by have:=HD.out;omega,RD.out.lt⟩;have KN:H _:=jDl f a n c l zs d e m g N w0 (h1.below a0) (h2.below a0) hn hz (fun i hi=>⟨(hN i hi).1,fun j hj=>((hN i hi).2 j hj).ok⟩);have KH:H (∀ W,Ab w0 w0 W->_):=fun W hW=>jHp f a n c l zs d e m g N Y W ((h1.below a0).below hW) ((h2.below a0).below hW) ((h3.below a0).below hW) hn hz hm hN hY
 have K9:=hd (h9.below a0);have KG:H (NsG f n zs ⟨N,m,Y⟩):=⟨jGf hb,fun i hi=>(hN i hi).2,hY⟩;have KO:H (∀ i,i<mo->OpK (O i)):=hO;rw[hb] at KN;obtain⟨zl,v0⟩:=nnH zs.length;obtain⟨R,HR⟩:=nnH (rnT f n zs O ⟨N,m,Y⟩);have KR:H (∀ k,k<=mo->NsG f n zs (R k)):=by rw[<-HR.out];exact fun k hk=>jKy KG hO k hk
 have x0:H (R 0=⟨N,m,Y⟩):=by rw[<-HR.out];rfl
 have y0:H (∀ k,k<mo->opT f n zs (R k) (O k)=R (k+1)):=fun k hk=>by
  rw[<-jRk (KR.out k (by omega)),<-HR.out];rfl
 unfold NtA;rw[v0.out] at KH KN RA c0 |-;rw[HR.out];obtain⟨T1,m0⟩:=nnH (R mo);rw[m0.out];have j1:¬ (300:Int)<(mo:Int):=by omega
 clear h1 h2 h3 a0 hN hY hb h9 hO HR;go_enter func38,ntmps38
 go_upto_region 1 with fail
 rw[<-c0.out,<-HD.out,<-HA.out];go_wp2_with (refine Bb rfl 48 _ rfl A rfl 48 #[f,V a n c,V l zl d,V e m g] (0,0) _ ?_ Bp rfl Tryz.infoNt ?_;exact RA)
 refine CM KN.out fun w1 b1=>?_
 have z0:=hd (RA.below b1 RA.lt);have i0:Row w1 D 48 #[(),V I 0 0,V I 0 0,V I 0 0]:=RD.below b1 RD.lt;have b0:=hd b1;clear b1 KN;go_wp2_with (refine Bb rfl 48 _ rfl A rfl 48 #[f,V a n c,V l zl d,V e m g] (0,0) _ ?_ Bp rfl Tryz.infoNt ?_;exact z0)
 refine Ax (KH w1 b0) ?_;rintro r w2 ⟨Hb,gs,a2,c2,b,g3,Fs,Fl,Fw,rfl,hA,b2⟩;have a1:Row w2 D 48 #[(),V I 0 0,V I 0 0,V I 0 0]:=i0.below b2 i0.lt;have KI:H (∃ vw Fs Fw,HaK w2 w1.1.size Hb f n (R 0).N zs (V gs n n) (V a2 zl c2) b (R 0).m (R 0).Y vw Fs Fl Fw/\Ab w1.1.size w1 w2):=by
  rw[x0.out];exact⟨_,Fs,Fw,hA,b2⟩
 clear hA b2 i0 a1 KH KG;go_wp2_with fail
 go_loopw [22] (fun vi wr=>∃ k:Nat,k<=mo/\vi=Ao Ar (k:Int)/\H (∃ vw Fs Fw,HaK wr w1.1.size Hb f n (R k).N zs (V gs n n) (V a2 zl c2) b (R k).m (R k).Y vw Fs Fl Fw/\Ab w1.1.size w1 wr)) (fun vi _=>mo-(intOf vi).toNat)
 case atStart=>exact⟨0,Bi _,rfl,KI⟩
 case round=>
  obtain⟨k,hk,rfl,HI⟩:=hrel;clear KI;by_cases hlt:k<mo
  .have g1:(k:Int)<(mo:Int):=by omega
   obtain⟨bo,fo,a9,c9,eo,k0,t9⟩:=jMw (K9.below b0) hlt;subst eo;obtain⟨vw,Fs,Fw,hA,bA⟩:=HI.out;obtain⟨o,HO⟩:=nnH (O k);rw[HO.out] at k0 t9;have RO:H (wr.rangeAt bo (fo+k*13) (opC o (V a9 o.y.p.m c9)).toList):=fun j v hv=>by
    have:=k0 j v hv
    exact(bA.cell (A7 this)).trans this
   obtain⟨X,HX⟩:=nmH wr.1.size;obtain⟨w3,h0⟩:=nmH (wr.alloc (J (opC o (V a9 o.y.p.m c9)) 50));have b3:=bl1 h0;have RX:=jZ h0 HX;have f0:=hA.below b3;have e0:Ab w1.1.size w1 w3:=bA.trans (b3.mono bA.size);have KF:∀ x,x=Hb\/Fs x\/Fw x->w1.1.size<=x:=fun x hx=>by
    rcases hx with q|q|q
    .rw[q];exact f0.b.2.2
    .exact(f0.h x (.inl q)).2.2.1
    .exact(f0.h x (.inr (.inr q))).2.2.1
   have p0:H (Ak prog 67 #[Af Hb,opV o (V a9 o.y.p.m c9)] w3 fun e w'=>∃ ok,e=Ae (.bool ok)/\∃ vw Fs Fw,HaK w' w1.1.size Hb f n (R (k+1)).N zs (V gs n n) (V a2 zl c2) b (R (k+1)).m (R (k+1)).Y vw Fs Fl Fw/\Ab w1.1.size w1 w'):=by
    have:=jPs w1.1.size Hb f n zs gs n (V a2 zl c2) b (R k) vw Fs Fl Fw o a9 c9 w3 f0 (KR k hk) (by rw[<-HO.out];exact KO k hlt) (fun W hW=>t9.below (e0.trans (hW.below KF e0.size)))
    refine this.mono ?_;rintro e w' ⟨rfl,i1,t0,u0,q,t⟩;have eR:=y0 k hlt;rw[HO.out] at eR;rw[eR] at q;exact⟨_,rfl,i1,t0,u0,q,e0.trans (t.below KF e0.size)⟩
   clear hA bA f0 e0 KF t9 k0 HI b3;go_wp2_with (refine Bv rfl 50 _ rfl bo (fo+k*13) rfl (opC o (V a9 o.y.p.m c9)).toList _ ?_ Fk rfl Tryz.infoOp ?_;exact RO)
   rw[<-h0.out,<-HX.out];go_wp2_with (refine Bb rfl 50 _ rfl X rfl 50 (opC o (V a9 o.y.p.m c9)) (0,0) _ ?_ Fk rfl Tryz.infoOp ?_;exact RX)
   refine Ax p0.out ?_;rintro r w4 ⟨ok,rfl,q⟩;have HI4:=hd q;clear q p0 RO RX h0 HX;go_wp2
   go_roundw
   case rel=>exact⟨k+1,by omega,by go_num,HI4.out⟩
   case measure=>simp[intOf];omega
  .obtain rfl:k=mo:=by omega
   obtain⟨vw,Fs,Fw,g0,bA⟩:=HI.out;rw[m0.out] at g0;obtain⟨a3,c3,rfl,_⟩:=g0.y.shape;have j0:Row wr D 48 #[(),V I 0 0,V I 0 0,V I 0 0]:=(bA.block D (by have:=RD.lt;have:=b0.size;omega)).trans (RD.out.below b0.out RD.out.lt);have KQ:=hd g0;have q0:H _:=jMg w1.1.size Hb f n T1.N zs gs n (V a2 zl c2) b T1.m T1.Y (V a3 T1.m c3) Fs Fl Fw wr g0 hn;have o0:=hd bA;have g1:¬ (k:Int)<(k:Int):=by omega
   clear g0 bA HI hlt;go_wp2_with fail
   refine Ax q0.out ?_;rintro r w4 ⟨g4,rfl,o4,e1,f1,b4⟩;have r0:=hd (j0.below b4 j0.lt);obtain⟨w5,d0⟩:=nmH (w4.setRow D #[f,V g4 n n,V a2 zl c2,V a3 T1.m c3]);have c1:=rr d0 r0;have KF:H (∃ F1 F2 F3,NtQ w5 w n T1.N zs T1.m T1.Y (V g4 n n) (V a2 zl c2) (V a3 T1.m c3) F1 F2 F3/\Ab w w w5):=by
    have s0:=n0.size;have s1:=b0.size;have s3:=o0.size;have s4:=b4.size;have lD:=HL.out;have q:=KQ.out;have hq:=q.h;refine⟨_,_,_,NtQ.base (NtQ.turn (w:=w4) (B:=w1.1.size) ⟨o4,q.z.below b4,q.y.below b4,fun x hx k=>?_,fun x hx k=>?_,q.d3,fun x hx=>?_⟩ (by rw[d0.out];simp) (fun x hx=>?_)) (by omega),?_⟩
    .rcases hx with hx|hx
     .exact q.d1 x hx k
     .have:=(hq x (.inr (.inl k))).2.2.2;omega
    .rcases hx with hx|hx
     .exact q.d2 x hx k
     .have:=(hq x (.inr (.inr k))).2.2.2;omega
    .rcases hx with (hx|hx)|hx
     .have:=(hq x (.inl hx)).2.2;omega
     .omega
     .have:=(hq x (.inr hx)).2.2;omega
    .rw[d0.out];refine Cd _ _ _ _ ?_;rcases hx with (hx|hx)|hx
     .have:=(hq x (.inl hx)).2.2;omega
     .omega
     .have:=(hq x (.inr hx)).2.2;omega
    .rw[d0.out];have bb:Ab w w w4:=(jA n0 b0).trans ((o0.mono (by omega)).trans (b4.mono (by omega)));exact jF bb lD.1 _
   clear o4 e1 f1 b4 j0 KQ q0;go_wp2_with (refine Bw rfl 48 _ _ rfl D #[f,V g4 n n,V a2 zl c2,V a3 T1.m c3] rfl rfl 48 #[(),V I 0 0,V I 0 0,V I 0 0] ?_ Tryz.infoNt rfl (by simp[Aq]) ?_;exact r0;rw[<-d0.out])
   obtain⟨F1,F2,F3,kf⟩:=KF.out;exact B7 (v:=Ai #[f,V g4 n n,V a2 zl c2,V a3 T1.m c3]) (Ck results38 _ _ D 48 _ (0,0) _ rfl c1 Bp rfl Tryz.infoNt) rfl ⟨_,rfl,g4,n,a2,c2,a3,c3,F1,F2,F3,rfl,kf⟩
theorem jHw (f:Int) (a:OA) (n c:Nat) (l:OA) (zs:List Int) (d:Nat) (e:OA) (m g:Nat) (N:Nat->Nd) (Y:Nat->Sy) (oa:OA) (mo co:Nat) (O:Nat->Op9) (w:Ad) (h1:Rd w (qR n N) (V a n c)) (h2:jH w l zs.length zs) (h3:Rd w (qI m Y) (V e m g)) (hn:n<=1048576) (hz:zs.length<=1048576) (hm:m<=1048576) (hN:∀ i,i<n->(N i).n<=1048576/\∀ j,j<(N i).n->SlK ((N i).S j)) (hY:∀ i,i<m->SyK (Y i)) (h9:Rd w (JK mo O) (V oa mo co)) (hO:∀ i,i<mo->OpK (O i)) (a0:mo<=1048576):Ak prog 38 #[ntV f (V a n c) (V l zs.length d) (V e m g),V oa mo co] w fun r w'=>∃ v,r=Ae v/\NtA w w' f n zs (jGs f n zs mo O ⟨N,m,Y⟩) v:=by
 unfold jGs;by_cases h300:mo<=300
 .rw[A6 h300];cases hb:ntB f n N zs m with
  | false=>rw[jOx (T:=⟨N,m,Y⟩) hb];exact jDm f a n c l zs d e m g N Y oa mo co w h1 h2 h3 hn hz hm hN hY a0 (.inl hb)
  | true=>exact jHx f a n c l zs d e m g N Y oa mo co O w h1 h2 h3 hn hz hm hN hY h9 hO h300 hb
 .rw[A5 h300];exact jDm f a n c l zs d e m g N Y oa mo co w h1 h2 h3 hn hz hm hN hY a0 (.inr (by omega))
end Go.Proofs.YtcaejlalnjnifaaGreat
