import Derived.Test.YtcaejlalnjnifaaGreatR26
import Derived.Test.YtcaejlalnjnifaaGreatR27
set_option maxHeartbeats 8000000
set_option maxRecDepth 2000
open Go.Value renaming slice->V,pointer->Af,tuple->Ah,agg->Ai,int->Ao,oneCell'->Aq
open Option renaming none->I,some->M
open Go.RowKit renaming Hid->H,Below->Ab
open Go.Addr renaming mk->Q
open Go renaming undef->O,World->Ad,Value->Aj,Calls->Ak,maxLen->Au
open Go.Obj renaming cells->J
open Go.Ending renaming returned->Ae
open ByteArray renaming empty->Ap
open Go.IntKind renaming i64->Ar
open Bool renaming false->Av,true->Aw
open Go.Proofs.Tryz
open Go.ChangeShapes Go.WideShapes Go.ChangeAt Go.RowKit
namespace Go.Proofs.YtcaejlalnjnifaaGreat
theorem jTc {W:Ad} {B g:Nat} {y:Sy} (h:jI W B g y.p.m y.p.m y.p.S) (q:Nat) (hq:q<10):Ow W B (syD y q) ((syC y (V g y.p.m y.p.m)).toList.getD q O) (fun x=>q=9/\x=g):=by
 match q,hq with
 | 0,_|1,_|2,_|3,_|4,_|5,_|6,_|7,_|8,_=>rfl
 | 9,_=>exact xQ h (fun x e=>by cases e;exact⟨rfl,rfl⟩)
theorem jBr (B Hb:Nat) (f:Int) (vs vl vm:Aj) (n:Nat) (Y:Nat->Sy) (vw:Aj) (F:Nat->Prop) (a:OA) (m cs:Nat) (w:Ad) (h:HwK w B Hb f vs vl vm n Y vw F) (hn:n<=3000) (hm:m<=100000) (a0:3000<n+m):CS 134 #[Af Hb,V a m cs] w Av:=by
 obtain⟨aw,cw,rfl,_⟩:=h.o.shape;have x4:=h.r.cell 4;simp at x4;have hi:(3000:Int)<(n:Int)+(m:Int):=by omega
 go_enter func134,ntmps134
 go_wp2
 go_ret
 exact⟨rfl,rfl⟩
theorem QL (B Hb:Nat) (f:Int) (vs vl vm:Aj) (n:Nat) (Y:Nat->Sy) (vw:Aj) (F:Nat->Prop) (a:OA) (m cs:Nat) (Z:Nat->Sy) (w:Ad) (h:HwK w B Hb f vs vl vm n Y vw F) (e2:n+m<=3000) (hK:∀ i,i<m->SyK (Z i)) (hB:B<=w) (hF:∀ x,F x->x<w.1.size) (hR:∀ c W,c<m->Trn w W (fun x=>x=Hb\/F x)->(c=0->Ab w w W)->Rd W (qI m Z) (V a m cs)):Ak prog 134 #[Af Hb,V a m cs] w fun e w'=>e=Ae Aw/\∃ t0 F',HwK w' B Hb f vs vl vm (n+m) (fun i=>if i<n then Y i else Z (i-n)) t0 F'/\Trn w w' (fun x=>x=Hb\/F x)/\(∀ x,F' x->F x\/w.1.size<=x)/\∀ x,F' x->x<w'.1.size:=by
 obtain⟨iY,w1,i1,j1,m1⟩:=Cg Tryz.infoSyZ;obtain⟨aw,cw,rfl,_⟩:=h.o.shape;have x4:=h.r.cell 4;simp at x4;have KH:=hd h;have KR:H (∀ c W,c<m->Trn w W (fun x=>x=Hb\/F x)->(c=0->Ab w w W)->Rd W (qI m Z) (V a m cs)):=hR;have HK:H (∀ i,i<m->SyK (Z i)):=hK;have HF0:H (∀ x,F x->x<w.1.size):=hF;have hi:¬ (3000:Int)<(n:Int)+(m:Int):=by omega
 obtain⟨n2,z1⟩:=nmH (V aw n cw);clear h hR hK hF;go_enter func134,ntmps134
 go_wp2_with fail
 go_loopw [6,18] (fun v6 v18 wr=>∃ (c:Nat) (d0:Aj) (F1:Nat->Prop),v18=Ao Ar (c:Int)/\H (c<=m/\HwK wr B Hb f vs vl vm (n+c) (fun i=>if i<n then Y i else Z (i-n)) d0 F1/\Trn w wr (fun x=>x=Hb\/F x)/\(∀ x,F1 x->F x\/w.1.size<=x)/\(∀ x,F1 x->x<wr.1.size)/\(c=0->Ab w w wr))) (fun _ v18 _=>m-(intOf v18).toNat)
 case atStart=>exact⟨0,V aw n cw,F,rfl,Bi _,⟨KH.r,KH.o.congr (fun i q hi _=>by show syD (Y i) q=syD (if i<n then Y i else Z (i-n)) q;rw[A6 hi]),KH.h,KH.b⟩,Trn.refl _ _,(fun x hx=>.inl hx),HF0,fun _=>Az _ _⟩
 case round=>
  obtain⟨c,d0,F1,rfl,HI⟩:=hrel;have b2:c<=m:=HI.1;by_cases hlt:c<m
  .have a2:(c:Int)<(m:Int):=by omega
   obtain⟨bb,fb,a9,c9,rfl,RG,t9⟩:=zZ (KR c wr hlt HI.2.2.1 HI.2.2.2.2.2) hlt;obtain⟨z,Hz⟩:=nnH (Z c);have s0:=HK c hlt;rw[Hz.out] at RG t9 s0;have q1:=hd RG;obtain⟨X6,u0⟩:=nmH wr.1.size;obtain⟨wb,p0⟩:=nmH (wr.alloc (J (syC z (V a9 z.p.m c9)) 31));have e0:=bl1 p0;have rX:=(jZ p0 u0).out;obtain⟨nc,n0⟩:=nnH (n+c);obtain⟨Yc,v0⟩:=nmH (fun i=>if i<n then Y i else Z (i-n));have g0:=HI.2.1;rw[n0.out,<-v0.out] at g0;obtain⟨Yn,w0⟩:∃ x:Nat->Sy,H (x=fun i=>if i=nc then z else Yc i):=⟨_,rfl⟩;have m0:=hd g0.h;have p1:H (∀ x,F1 x->x<wb.1.size):=fun x hx=>Bu (HI.2.2.2.2.1 x hx) e0.size
   have n1:B<=wb:=by have h1:=HI.2.2.1.size;have h2:=e0.size;omega
   have y1:Hb<wb:=(g0.below e0).r.lt;have k2:nc<3000:=by have:=n0.out;omega
   have y0:H (∀ W,Ab wb wb W->OwK W B 31 10 nc (fun i=>syD (Yc i)) d0 F1):=fun W hW=>((g0.below e0).below hW).o
   have KC:H (∀ W,Ab wb wb W->(W.cell? (Q Hb 4 I)=M d0/\W.frozen? (Q Hb 4 I)=Av)/\Row W X6 31 (syC z (V a9 z.p.m c9))):=fun W hW=>by
    have h1:=((g0.below e0).below hW).r;have h2:=h1.cell 4;simp at h2;exact⟨⟨h2,h1.free 4⟩,rX.below hW rX.lt⟩
   have x0:H (∀ W,Ab wb wb W->Ak prog 130 #[syV z (V a9 z.p.m c9)] W fun e w'=>∃ g,e=Ae (syV z (V (Q g 0 I) z.p.m z.p.m))/\jI w' W.1.size (Q g 0 I) z.p.m z.p.m z.p.S/\Ab W.1.size W w'):=fun W hW=>ZV z a9 c9 W ((t9.below e0).below hW) s0
   have j0:H (HwK wb B Hb f vs vl vm nc Yc d0 F1/\Ab wr.1.size wr wb):=⟨g0.below e0,e0⟩;clear RG t9 s0 e0 rX g0;go_upto_region 6 with (refine Bv rfl 31 _ rfl bb (fb+c*10) rfl (syC z (V a9 z.p.m c9)).toList _ ?_ Ci rfl Tryz.infoSy ?_;exact q1)
   rw[<-p0.out,<-u0.out];go_wp2_with fail
   refine JP Tryz.mixed 12 [([],[11]),([],[8,11]),([1],[8,11]),([2],[8,11]),([3],[4,8,11]),([],[5,6,7,8,11]),([5],[6,7,8,11]),([6],[7,8,11]),([4,6,7],[8,11]),([0],[11]),([9],[11]),([6,7,8,10],[11])] (by kernel_rfl) (fun L A9 W=>∃ (a0:Aj) (b0:Aj) (x30:Aj),A9=⟨(List.toArray (α:=Aj) ((Af Hb)::(V (Q bb fb I) m cs)::O::O::(Av)::O::(Af X6)::(Af Hb)::(Af Hb)::(Af (Q Hb 4 I))::(V aw n cw)::((n:Int))::(V (Q bb fb I) m cs)::((m:Int))::(((n:Int)+(m:Int):Int))::(Av)::(V (Q bb fb I) m cs)::((m:Int))::((c:Int))::(Aw)::(Af (Q bb (fb+c*10) I))::(Ai #[z.k,z.f,z.t,z.r,z.p.r,z.p.k,z.p.n,z.p.i,z.p.b,V a9 z.p.m c9])::(cX (L 0) (Af Hb) u22)::(cX (L 1) (Af Hb) u23)::(cX (L 2) (Af Hb) u24)::(cX (L 3) (Af (Q Hb 4 I)) u25)::(cX (L 4) (d0) u26)::(cX (L 5) (Ai (syC z (V a9 z.p.m c9))) u27)::a0::b0::x30::(cX (L 9) (Af Hb) u31)::(cX (L 10) (Af (Q Hb 4 I)) u32)::u33::[])),[]⟩/\(L 7=Av->Ab wb wb W)/\(L 11=Av->W.cell? (Q Hb 4 I)=M d0/\W.frozen? (Q Hb 4 I)=Av)/\(L 6=Aw->L 7=Av->∃ g6,a0=Ai (syC z (V (Q g6 0 I) z.p.m z.p.m))/\jI W wb (Q g6 0 I) z.p.m z.p.m z.p.S)/\(L 7=Aw->L 8=Av->∃ g6 Y6,b0=V (Q Y6 0 I) 1 1/\Row W Y6 31 (syC z (V (Q g6 0 I) z.p.m z.p.m))/\jI W wb (Q g6 0 I) z.p.m z.p.m z.p.S/\Ab wb wb W)/\(L 8=Aw->L 11=Av->∃ F8,OwK W B 31 10 (nc+1) (fun i=>syD (Yn i)) x30 F8/\Trn wb W F1/\(∀ x,F8 x->F1 x\/wb.1.size<=x)/\∀ x,F8 x->x<W.1.size)/\(L 11=Aw->∃ W1 F8,W=W1.setCell (Q Hb 4 I) x30/\OwK W1 B 31 10 (nc+1) (fun i=>syD (Yn i)) x30 F8/\Trn wb W1 F1/\(∀ x,F8 x->F1 x\/wb.1.size<=x)/\∀ x,F8 x->x<W1.1.size)) ?_ ?_ ?_
   .exact⟨u28,u29,u30,rfl,(fun _=>jD _),(fun _=>(KC _ (jD _)).1),(fun h=>by cases h),(fun h=>by cases h),(fun h=>by cases h),(fun h=>by cases h)⟩
   .rintro a9 wx ⟨a0,b0,x30,g1,-,-,-,-,-,r0⟩;simp only[Nat.reduceLT,Dp,jJ] at g1;subst g1;replace r0:=(r0 rfl)
    obtain⟨W1,F8,a1,O8,T8,k8,o0⟩:=r0;have KN:H (HwK wx B Hb f vs vl vm (nc+1) Yn x30 F8/\Trn w wx (fun x=>x=Hb\/F x)/\(∀ x,F8 x->F x\/w.1.size<=x)/\∀ x,F8 x->x<wx.1.size):=by
     rw[a1];have t1:=(HI.2.2.1.trans (Trn.ofBelow _ j0.2));have i2:=HI.2.2.1.size;have g2:=j0.2.size;have o1:¬ F8 Hb:=fun k=>by rcases k8 Hb k with k|k;exact m0.out k;omega
     have rH:Row W1 Hb 179 #[f,vs,vl,vm,d0]:=(T8.block Hb y1 m0).trans j0.1.r;refine⟨⟨rH.set 4 _,O8.frame (fun x hx _=>Cn W1 (Q Hb 4 I) x _ (fun e=>o1 (by have e1:x=Hb:=e;rw[<-e1];exact hx))),o1,j0.1.b⟩,(t1.join (T8.mono (fun x k=>.inr k:∀ x,F1 x->x=Hb\/F1 x)) (fun x k=>?_)).trans (Trn.set _ 4 _ (.inl rfl)),fun x hx=>?_,fun x hx=>?_⟩
     .rcases k with k|k
      .exact .inl (.inl k)
      .rcases HI.out.2.2.2.1 x k with k|k
       .exact .inl (.inr k)
       .exact .inr k
     .rcases k8 x hx with k|k
      .exact HI.2.2.2.1 x k
      .exact .inr (by omega)
     .simpa using o0 x hx
    have KN2:H (c+1<=m/\HwK wx B Hb f vs vl vm (n+(c+1)) (fun i=>if i<n then Y i else Z (i-n)) x30 F8/\Trn w wx (fun x=>x=Hb\/F x)/\(∀ x,F8 x->F x\/w.1.size<=x)/\(∀ x,F8 x->x<wx.1.size)/\(c+1=0->Ab w w wx)):=by
     have e1:n+(c+1)=nc+1:=by have:=n0.out;omega
     rw[e1];refine⟨by omega,⟨KN.out.1.r,KN.out.1.o.congr (fun i q hi _=>?_),KN.1.h,KN.1.b⟩,KN.2.1,KN.2.2.1,KN.2.2.2,fun h=>by omega⟩;show syD (Yn i) q=syD (if i<n then Y i else Z (i-n)) q;rw[w0.out,v0.out,<-Hz.out];show syD (if i=nc then Z c else if i<n then Y i else Z (i-n)) q=_;have:=n0.out
     by_cases e:i=nc
     .rw[A6 e,A5 (by omega),show i-n=c by omega]
     .rw[A5 e]
    clear KN a1 O8 T8 k8 o0 y0 KC x0 j0 HI;go_wp2_with fail
    go_roundw
    case rel=>exact⟨c+1,x30,F8,by go_num,KN2⟩
    case measure=>simp[intOf];omega
   .intro q9 x1 L a9 W S f0;match q9,x1 with
    | 0,_|1,_|2,_|3,_|9,_|10,_=>
     obtain⟨a0,b0,x30,rfl,hf⟩:=f0;simp only[knT,kn,knN] at S;refine jB rfl (fun _=>rfl) fun K hK=>?_
     try simp only[S,jJ]
     go_simp
     exact hK _ _ ⟨a0,b0,x30,(by simp only[Nat.reduceBEq,Bh,Bq,jJ,S]),hf⟩
    | 4,_=>
     obtain⟨a0,b0,x30,rfl,h0,h1,h2,h3,h4,h5⟩:=f0;obtain⟨d3,e4,e8,c0,-⟩:=S;obtain⟨o4,oz⟩:=h1 c0;refine jB rfl (fun _=>rfl) fun K hK=>?_
     simp only[d3,jJ];go_simp
     exact hK _ _ ⟨a0,b0,x30,(by simp only[Nat.reduceBEq,Bh,Bq,jJ,d3]),h0,h1,h2,h3,(ab e8),(ab c0)⟩
    | 5,_=>
     obtain⟨a0,b0,x30,rfl,h0,h1,h2,h3,h4,h5⟩:=f0;obtain⟨e5,e6,e7,e8,c0,-⟩:=S;have r1:=h0 e7;have rX:=(KC W r1).2;refine jB rfl (fun _=>rfl) fun K hK=>?_
     refine Fv 31 _ rfl X6 rfl 31 (syC z (V a9 z.p.m c9)) (0,0) _ rX Ci rfl Tryz.infoSy ?_;exact hK _ _ ⟨a0,b0,x30,(by simp[Act.put,jJ]),h0,h1,(ab e6),(ab e7),(ab e8),(ab c0)⟩
    | 6,_=>
     obtain⟨a0,b0,x30,rfl,h0,h1,h2,h3,h4,h5⟩:=f0;obtain⟨d5,e6,e7,e8,c0,-⟩:=S;have q0:=h0 e7;refine jB rfl (fun _=>rfl) fun K hK=>?_
     simp only[d5,jJ];go_simp
     refine Ax (x0 W q0) ?_;rintro e w9 ⟨g6,rfl,i0,u1⟩;have f1:=jA q0 u1;exact hK _ _ ⟨Ai (syC z (V (Q g6 0 I) z.p.m z.p.m)),b0,x30,(by simp only[Nat.reduceBEq,Bh,d5,jJ]),(fun k0=>f1),(fun k0=>(KC _ f1).1),(fun k0 k1=>⟨g6,rfl,jY i0 q0.size⟩),(ab e7),(ab e8),(ab c0)⟩
    | 7,_=>
     obtain⟨a0,b0,x30,rfl,h0,h1,h2,h3,h4,h5⟩:=f0;obtain⟨d6,e7,e8,c0,-⟩:=S;have s1:=h0 e7;obtain⟨g6,rfl,i0⟩:=h2 d6 e7;have b1:Ab W.1.size W (W.alloc (J (syC z (V (Q g6 0 I) z.p.m z.p.m)) 31)):=(Az _ _).alloc (Ay _) _;have c1:=jA s1 b1;refine jB rfl (fun _=>rfl) fun K hK=>?_
     go_simp
     exact hK _ _ ⟨Ai (syC z (V (Q g6 0 I) z.p.m z.p.m)),V (Q W.1.size 0 I) 1 1,x30,(by simp only[Nat.reduceBEq,Bh]),nf,(fun k0=>(KC _ c1).1),(fun _=>nf),(fun k0 k1=>⟨g6,W.1.size,rfl,Row.new W _ _,jI.below i0 b1,c1⟩),(ab e8),(ab c0)⟩
    | 8,_=>
     obtain⟨a0,b0,x30,rfl,h0,h1,h2,h3,h4,h5⟩:=f0;obtain⟨d4,d6,d7,e8,c0,-⟩:=S;obtain⟨g6,Y6,rfl,RY,i0,hB⟩:=h3 d7 e8;obtain⟨o4,oz⟩:=h1 c0;have KW:=y0 W hB;refine jB rfl (fun _=>rfl) fun K hK=>?_
     simp only[d4,jJ];refine jN1 W _ _ 34 rfl B 31 iY (Ai zcY.toArray) 10 _ Dm w1 i1 j1 m1 rfl (by decide) d0 nc _ F1 rfl KW ⟨Y6,0,I⟩ 1 (syC z (V (M ⟨g6,0,I⟩) z.p.m z.p.m)).toList rfl rfl (Cf (t:=31) (fr:=(0,0)) RY) (by simp[Aq]) (syD z) (fun q x=>q=9/\x=g6) (fun q hq=>jTc (jY i0 n1) q hq) (fun q x _ hx hF=>by have h8:=(A0 i0 g6 rfl).1;have h9:=p1 x hF;omega) (fun q q' x _ _ hx j2=>by omega) (by omega) (by omega) (By n1 hB.size) fun v9 w9 O9 b9 T9=>?_
     have f2:=hB.size;have p4:w9.cell? (Q Hb 4 I)=M d0:=(World.cell?_of_block (T9.block Hb (by omega) m0.out)).trans o4;have pz:w9.frozen? (Q Hb 4 I)=Av:=(Cx (T9.block Hb (by omega) m0.out)).trans oz;have O8:OwK w9 B 31 10 (nc+1) (fun i=>syD (Yn i)) v9 (fun x=>(F1 x\/wb.1.size<=x)/\x<w9.1.size):=(O9.mono (fun x hx=>⟨by
      rcases hx.2 with (h|⟨q,_,h⟩)|h
      .exact .inl h
      .exact .inr (by have h8:=(A0 i0 g6 rfl).1;omega)
      .exact .inr (by omega),hx.1⟩)).congr (fun i q hi _=>by show (if i=nc then syD z else syD (Yc i)) q=syD (Yn i) q;rw[w0.out];show _=syD (if i=nc then z else Yc i) q;by_cases e:i=nc;rw[A6 e,A6 e];rw[A5 e,A5 e])
     exact hK _ _ ⟨a0,V (Q Y6 0 I) 1 1,v9,(by simp[Act.put,jJ,d4]),(ba d7),(fun k0=>⟨p4,pz⟩),(fun _=>ba d7),(fun _=>nf),(fun k0 k1=>⟨_,O8,(Trn.ofBelow _ hB).trans T9,(fun x hx=>hx.1),fun x hx=>hx.2⟩),(ab c0)⟩
    | 11,_=>
     obtain⟨a0,b0,x30,rfl,h0,h1,h2,h3,h4,h5⟩:=f0;obtain⟨d6,d7,d8,z0,c0,-⟩:=S;obtain⟨o4,oz⟩:=h1 c0;obtain⟨F8,O8,T8,k8,o0⟩:=h4 d8 c0;obtain⟨a8,c8,rfl,_⟩:=O8.shape;refine jB rfl (fun _=>rfl) fun K hK=>?_
     simp only[z0,jJ];go_simp
     exact hK _ _ ⟨a0,b0,V a8 (nc+1) c8,(by simp only[Nat.reduceBEq,Bh,z0,jJ]),(ba d7),nf,(fun _=>ba d7),(fun _=>ba d8),(fun _=>nf),(fun k0=>⟨W,F8,rfl,O8,T8,k8,o0⟩)⟩
    | n9+12,h=>exact Bo h (by omega)
  .have v1:c=m:=by omega
   subst v1;have m2:¬ ((c:Int)<(c:Int)):=by omega
   have KE:H (∃ t0 F',HwK wr B Hb f vs vl vm (n+c) (fun i=>if i<n then Y i else Z (i-n)) t0 F'/\Trn w wr (fun x=>x=Hb\/F x)/\(∀ x,F' x->F x\/w.1.size<=x)/\∀ x,F' x->x<wr.1.size):=⟨d0,F1,HI.2.1,HI.2.2.1,HI.2.2.2.1,HI.2.2.2.2.1⟩;clear HI;go_wp2
   go_ret
   exact⟨rfl,KE⟩
theorem XH (Hb:Nat) (x0 x2 x3 x4:Aj) (sa:OA) (n c:Nat) (i:Int) (w:Ad) (h:Row w Hb 179 #[x0,V sa n c,x2,x3,x4]):CS 166 #[Af Hb,i] w (decide (0<=i/\i<n)):=by
 have x1:=h.cell 1;simp at x1;by_cases h0:i≥0
 .by_cases h1:i<(n:Int)
  .rw[Bf ⟨h0,h1⟩];go_enter func166,ntmps166
   go_wp2
   go_ret
   exact⟨rfl,rfl⟩
  .rw[Bg (fun h=>h1 h.2)];go_enter func166,ntmps166
   go_wp2
   go_ret
   exact⟨rfl,rfl⟩
 .rw[Bg (fun h=>h0 h.1)];go_enter func166,ntmps166
  go_wp2
  go_ret
  exact⟨rfl,rfl⟩
theorem xG (Hb:Nat) (x0 x1 x2 x3:Aj) (sa:OA) (n c:Nat) (i:Int) (w:Ad) (h:Row w Hb 179 #[x0,x1,x2,x3,V sa n c]):CS 133 #[Af Hb,i] w (decide (0<=i/\i<n)):=by
 have x4:=h.cell 4;simp at x4;by_cases h0:i≥0
 .by_cases h1:i<(n:Int)
  .rw[Bf ⟨h0,h1⟩];go_enter func133,ntmps133
   go_wp2
   go_ret
   exact⟨rfl,rfl⟩
  .rw[Bg (fun h=>h1 h.2)];go_enter func133,ntmps133
   go_wp2
   go_ret
   exact⟨rfl,rfl⟩
 .rw[Bg (fun h=>h0 h.1)];go_enter func133,ntmps133
  go_wp2
  go_ret
  exact⟨rfl,rfl⟩
theorem XG (Hb b:Nat) (f:Int) (zs:List Int) (v1 v2 v4:Aj) (i:Int) (w:Ad) (h:Row w Hb 179 #[f,v1,v2,.map (M b),v4]) (hm:LM w b f zs):Ak prog 167 #[Af Hb,i] w fun e w'=>e=Ae (decide (i∈zs))/\w'=w.drew:=by
 obtain⟨x0,x3⟩:=h.c2 0 3;simp at x0 x3;obtain⟨c,hc,a0⟩:=jP1 (w:=w.drew) (hm.below (jD w)) i;simp only[bk] at hc;by_cases hx:i∈zs
 .have b0:=a0.2 hx;rw[Bf hx];clear hm a0 hx h;go_enter func167,ntmps167
  go_wp2
  go_region
  go_wp2
  go_ret
  exact⟨rfl,rfl⟩
 .have b0:¬ (c>0):=fun h=>hx (a0.1 h)
  rw[Bg hx];clear hm a0 hx h;go_enter func167,ntmps167
  go_wp2
  go_region
  go_wp2
  go_ret
  exact⟨D8 (fun b=>Ending.returned (.bool b)) (Bg (Int.not_lt.2 b0)),rfl⟩
structure HaK (W:Ad) (B Hb:Nat) (f:Int) (n:Nat) (N:Nat->Nd) (zs:List Int) (vs vl:Aj) (b m:Nat) (Y:Nat->Sy) (vw:Aj) (Fs Fl Fw:Nat->Prop):Prop where
 r:Row W Hb 179 #[f,vs,vl,.map (M b),vw]
 s:Ow W B (jQ9 n N f) vs Fs
 z:Ow W B (inD zs) vl Fl
 k:LM W b f zs
 y:OwK W B 31 10 m (fun i=>syD (Y i)) vw Fw
 d1:∀ x,Fs x->¬ Fl x
 d2:∀ x,Fs x->¬ Fw x
 d3:∀ x,Fl x->¬ Fw x
 h:∀ x,Fs x\/Fl x\/Fw x->x≠Hb/\x≠b/\B<=x/\x<W.1.size
 b:b≠Hb/\B<=b/\B<=Hb
theorem jHp (f:Int) (a:OA) (n c:Nat) (l:OA) (zs:List Int) (d:Nat) (e:OA) (m g:Nat) (N:Nat->Nd) (Y:Nat->Sy) (w:Ad) (h1:Rd w (qR n N) (V a n c)) (h2:jH w l zs.length zs) (h3:Rd w (qI m Y) (V e m g)) (hn:n<=1048576) (hz:zs.length<=1048576) (hm:m<=1048576) (hN:∀ i,i<n->(N i).n<=1048576/\∀ j,j<(N i).n->SlK ((N i).S j)) (hY:∀ i,i<m->SyK (Y i)):Ak prog 66 #[ntV f (V a n c) (V l zs.length d) (V e m g)] w fun r w'=>∃ Hb g1 a2 c2 b g3 Fs Fl Fw,r=Ae (Af (Q Hb 0 I))/\HaK w' w Hb f n N zs (V (Q g1 0 I) n n) (V a2 zs.length c2) b m Y (V (Q g3 0 I) m m) Fs Fl Fw/\Ab w w w':=by
 obtain⟨A,HA⟩:=nmH w.1.size;obtain⟨w0,p0⟩:=nmH (w.alloc (J #[f,V a n c,V l zs.length d,V e m g] 48));have RA:=jZ p0 HA;have n0:=bl1 p0;have c1:=hd n0;have KC:H _:=ZU f a n c l zs d e m g N Y w0 (h1.below n0) (h2.below n0) (h3.below n0) hn hz hm hN hY;obtain⟨zl,a1⟩:=nnH zs.length;rw[a1.out] at KC RA p0 hz |-;have v1:=hn;clear h1 h2 h3 n0 hN hY;go_enter func66,ntmps66
 go_wp2_with (rw[<-p0.out,<-HA.out];refine Bb rfl 48 _ rfl A rfl 48 #[f,V a n c,V l zl d,V e m g] (0,0) _ ?_ Bp rfl Tryz.infoNt ?_;exact RA)
 refine Ax KC.out ?_;rintro r w1 ⟨g1,a2,c2,g3,F1,F2,F3,rfl,hO,hF,b1⟩;obtain⟨D,HD⟩:=nmH w1.1.size;obtain⟨wz,v0⟩:=nmH (w1.alloc (J #[(),V I 0 0,V I 0 0,V I 0 0] 48));have RZ:=jZ v0 HD;obtain⟨w2,u0⟩:=nmH (wz.setRow D #[f,V (Q g1 0 I) n n,V a2 zl c2,V (Q g3 0 I) m m]);have RD:=(rr u0 RZ).out;have b2:Ab w1 w1 w2:=by rw[u0.out];exact jF (by rw[v0.out];exact(Az _ _).alloc (Ay _) _) (by rw[HD.out];exact Ay _) _
 have t1:=hd (jA c1 (jA b1 b2));have s0:=c1.size;have s1:=b1.size;have s2:=b2.size;have KD:H (∀ W,Ab w2 w2 W->Row W D 48 #[f,V (Q g1 0 I) n n,V a2 zl c2,V (Q g3 0 I) m m]):=fun W hW=>RD.below hW RD.lt
 have o1:Ow w2 w (qR n N) (V (Q g1 0 I) n n) F1:=(hO.n.base s0).below b2;have o2:Ow w2 w (inD zs) (V a2 zl c2) F2:=(hO.z.base s0).below b2;have o3:Ow w2 w (qI m Y) (V (Q g3 0 I) m m) F3:=(hO.y.base s0).below b2;have i1:H (∀ W,Ab w2 w2 W->Ak prog 74 #[ntV f (V (Q g1 0 I) n n) (V a2 zl c2) (V (Q g3 0 I) m m)] W fun e w'=>∃ g9,e=Ae (V (Q g9 0 I) n n)/\Ow w' w (jQ9 n N f) (V (Q g9 0 I) n n) (fun x=>F1 x\/x=g9)/\W.1.size<=g9/\Ab W.1.size W w'):=fun W hW=>jLe f _ n n w _ _ N F1 w2 W hW o1 (fun x hx=>by have h5:=(hF x (.inl hx)).2;have h6:=hW.size;omega) (by have h6:=hW.size;omega) v1
 have f1:H (∀ W,Ab w2 w2 W->Ak prog 131 #[ntV f (V (Q g1 0 I) n n) (V a2 zl c2) (V (Q g3 0 I) m m)] W fun e w'=>∃ b,e=Ae (.map (M b))/\LM w' b f zs/\W.1.size<=b/\Ab W.1.size W w'):=fun W hW=>by
  have o4:=(o2.below hW).rd;rw[<-a1.out] at o4 hz |-;exact jMp f _ _ a2 c2 zs W (qL.1 o4) hz
 have t0:H (∀ W1 g9 b9,Ab w2 w2 W1->Ow W1 w (jQ9 n N f) (V (Q g9 0 I) n n) (fun x=>F1 x\/x=g9)->w2.1.size<=g9->LM W1 b9 f zs->w2.1.size<=b9->HaK (W1.alloc (J #[f,V (Q g9 0 I) n n,V a2 zl c2,.map (M b9),V (Q g3 0 I) m m] 179)) w W1.1.size f n N zs (V (Q g9 0 I) n n) (V a2 zl c2) b9 m Y (V (Q g3 0 I) m m) (fun x=>F1 x\/x=g9) F2 F3/\Ab w w (W1.alloc (J #[f,V (Q g9 0 I) n n,V a2 zl c2,.map (M b9),V (Q g3 0 I) m m] 179))):=fun W1 g9 b9 hB i0 m0 g0 f0=>by
  have hA:Ab W1.1.size W1 (W1.alloc (J #[f,V (Q g9 0 I) n n,V a2 zl c2,.map (M b9),V (Q g3 0 I) m m] 179)):=(Az _ _).alloc (Ay _) _;have s3:=hB.size;have sz:(W1.alloc (J #[f,V (Q g9 0 I) n n,V a2 zl c2,.map (M b9),V (Q g3 0 I) m m] 179)).1.size=W1.1.size+1:=by simp
  have u1:=g0;obtain⟨es,ck,r1,_⟩:=u1;have lb:=(Bz.1 r1).1;have p1:∃ cs t9 fz,W1.1[g9]?=M (J cs t9 fz):=by
   obtain⟨a8,z1,c8,G8,e8,h8,_,_⟩:=i0;cases e8;rcases h8.2 with ⟨k,_⟩|⟨g',y1,f2,k1,k2,k3,k4⟩
   .cases k
   .cases k1;exact⟨_,_,_,k3⟩
  have g2:g9≠b9:=fun e=>by
   obtain⟨cs,t9,fz,h⟩:=p1;rw[e,r1] at h;cases h
  have lg:g9<W1.1.size:=by
   obtain⟨cs,t9,fz,h⟩:=p1;exact(Bz.1 h).1
  refine⟨⟨Row.new W1 _ _,i0.below hA,(o2.below hB).below hA,g0.below hA,OwK.of ((o3.below hB).below hA),fun x hx=>?_,fun x hx=>?_,hO.d3,fun x hx=>?_,by omega,by omega,by omega⟩,jA t1.out (jA hB hA)⟩
  .rcases hx with hx|rfl
   .exact hO.d1 x hx
   .exact fun k=>by have:=(hF x (.inr (.inl k))).2;omega
  .rcases hx with hx|rfl
   .exact hO.d2 x hx
   .exact fun k=>by have:=(hF x (.inr (.inr k))).2;omega
  .rw[sz];rcases hx with (hx|rfl)|hx|hx
   .have:=hF x (.inl hx);omega
   .omega
   .have:=hF x (.inr (.inl hx));omega
   .have:=hF x (.inr (.inr hx));omega
 clear RD b2 o1 o2 o3 hO hF b1 s0 s1 s2 hz;go_upto_region 2 with (first|(rw[<-v0.out,<-HD.out];refine Bw rfl 48 _ _ rfl D #[f,V (M ⟨g1,0,I⟩) n n,V a2 zl c2,V (M ⟨g3,0,I⟩) m m] rfl rfl 48 #[(),V I 0 0,V I 0 0,V I 0 0] ?_ Tryz.infoNt rfl (by simp[Aq]) ?_;exact RZ;rw[<-u0.out]))
 refine JP Tryz.mixed 13 [([],[11]),([0],[1,11]),([],[2,3,11]),([2],[3,10,11]),([],[11]),([4],[5,11]),([],[6,7,11]),([6],[7,10,11]),([],[11]),([8],[9,11]),([1,3,5,7,9],[10,11]),([3,7,10],[11,12]),([3,7,10,11],[12])] (by kernel_rfl) (fun L A9 W=>∃ (x9:Aj) (c0:Aj) (b0:Aj),A9=⟨#[Ai #[f,V a n c,V l zl d,V e m g],Af A,cX (L 12) (b0) (Af I),Af D,Ai #[f,V a n c,V l zl d,V e m g],Ai #[f,V (Q g1 0 I) n n,V a2 zl c2,V (Q g3 0 I) m m],cX (L 0) (Af D) O,cX (L 1) f O,cX (L 2) (Ai #[f,V (Q g1 0 I) n n,V a2 zl c2,V (Q g3 0 I) m m]) O,x9,cX (L 4) (Af (Q D 2 I)) O,cX (L 5) (V a2 zl c2) O,cX (L 6) (Ai #[f,V (Q g1 0 I) n n,V a2 zl c2,V (Q g3 0 I) m m]) O,c0,cX (L 8) (Af (Q D 3 I)) O,cX (L 9) (V (Q g3 0 I) m m) O,cX (L 10) (Ai #[f,x9,V a2 zl c2,c0,V (Q g3 0 I) m m]) O,b0],[]⟩/\(L 11=Av->Ab w2 w2 W)/\(L 3=Aw->L 11=Av->∃ g9,x9=V (Q g9 0 I) n n/\Ow W w (jQ9 n N f) (V (Q g9 0 I) n n) (fun x=>F1 x\/x=g9)/\w2.1.size<=g9)/\(L 7=Aw->L 11=Av->∃ b9,c0=.map (M b9)/\LM W b9 f zs/\w2.1.size<=b9)/\(L 11=Aw->∃ W1 g9 b9,W=W1.alloc (J #[f,V (Q g9 0 I) n n,V a2 zl c2,.map (M b9),V (Q g3 0 I) m m] 179)/\b0=Af (Q W1.1.size 0 I)/\Ab w2 w2 W1/\(Ow W1 w (jQ9 n N f) (V (Q g9 0 I) n n) (fun x=>F1 x\/x=g9)/\w2.1.size<=g9)/\LM W1 b9 f zs/\w2.1.size<=b9)) ?_ ?_ ?_
 .exact⟨O,O,O,rfl,(fun _=>jD _),(fun h=>by cases h),(fun h=>by cases h),(fun h=>by cases h)⟩
 .rintro a9 wx ⟨x9,c0,b0,n1,-,-,-,z0⟩;simp only[Nat.reduceLT,Dp,jJ] at n1;subst n1;replace z0:=(z0 rfl)
  obtain⟨W1,g9,b9,m1,rfl,hB,⟨i0,m0⟩,g0,f0⟩:=z0;have KF:H (HaK wx w W1.1.size f n N zs (V (Q g9 0 I) n n) (V a2 zl c2) b9 m Y (V (Q g3 0 I) m m) (fun x=>F1 x\/x=g9) F2 F3/\Ab w w wx):=by
   rw[m1];exact t0 W1 g9 b9 hB i0 m0 g0 f0
  clear m1 hB i0 g0 t0 KD i1 f1;go_wp2_with fail
  go_ret
  exact⟨_,_,_,_,_,_,_,_,_,rfl,KF.1,KF.2⟩
 .intro q9 x1 L a9 W S e0;match q9,x1 with
  | 0,_|4,_|8,_=>
   obtain⟨x9,c0,b0,rfl,hf⟩:=e0;simp only[knT,kn,knN] at S;refine jB rfl (fun _=>rfl) fun K hK=>?_
   go_simp
   exact hK _ _ ⟨x9,c0,b0,(by simp only[Nat.reduceBEq,Bh,Bq,jJ]),hf⟩
  | 1,_=>
   obtain⟨x9,c0,b0,rfl,h0,h1,h2,h3⟩:=e0;obtain⟨d0,e1,a0,-⟩:=S;have hB:=h0 a0;have o0:=(KD W hB).cell 0;simp at o0;refine jB rfl (fun _=>rfl) fun K hK=>?_
   simp only[d0,jJ];go_simp
   exact hK _ _ ⟨x9,c0,b0,(by simp only[Nat.reduceBEq,Bh,Bq,jJ,d0]),h0,h1,h2,(ab a0)⟩
  | 2,_=>
   obtain⟨x9,c0,b0,rfl,h0,h1,h2,h3⟩:=e0;obtain⟨e2,e3,a0,-⟩:=S;have hB:=h0 a0;have rD:=KD W hB;refine jB rfl (fun _=>rfl) fun K hK=>?_
   refine Fv 48 _ rfl D rfl 48 #[f,V (M ⟨g1,0,I⟩) n n,V a2 zl c2,V (M ⟨g3,0,I⟩) m m] (0,0) _ rD Bp rfl Tryz.infoNt ?_;exact hK _ _ ⟨x9,c0,b0,(by simp[Act.put,jJ]),h0,(ab e3),h2,(ab a0)⟩
  | 3,_=>
   obtain⟨x9,c0,b0,rfl,h0,h1,h2,h3⟩:=e0;obtain⟨d2,e3,r0,a0,-⟩:=S;have j0:=h0 a0;refine jB rfl (fun _=>rfl) fun K hK=>?_
   simp only[d2,jJ];go_simp
   refine Ax (i1 W j0) ?_;rintro e w9 ⟨g9,rfl,i0,m0,f0⟩;have y0:=jA j0 f0;exact hK _ _ ⟨V (Q g9 0 I) n n,c0,b0,(by simp only[Nat.reduceBEq,Bh,jJ,jIo,d2,r0]),(fun k0=>y0),(fun k0 k1=>⟨g9,rfl,i0,by have:=j0.size;omega⟩),(fun k0 k1=>by obtain⟨b5,q1,q2,q3⟩:=h2 (show L 7=Aw from k0) (show L 11=Av from k1);exact⟨b5,q1,q2.below f0,q3⟩),(ab a0)⟩
  | 5,_=>
   obtain⟨x9,c0,b0,rfl,h0,h1,h2,h3⟩:=e0;obtain⟨d4,e5,a0,-⟩:=S;have hB:=h0 a0;have o0:=(KD W hB).cell 2;simp at o0;refine jB rfl (fun _=>rfl) fun K hK=>?_
   simp only[d4,jJ];go_simp
   exact hK _ _ ⟨x9,c0,b0,(by simp only[Nat.reduceBEq,Bh,Bq,jJ,d4]),h0,h1,h2,(ab a0)⟩
  | 6,_=>
   obtain⟨x9,c0,b0,rfl,h0,h1,h2,h3⟩:=e0;obtain⟨e6,e7,a0,-⟩:=S;have hB:=h0 a0;have rD:=KD W hB;refine jB rfl (fun _=>rfl) fun K hK=>?_
   refine Fv 48 _ rfl D rfl 48 #[f,V (M ⟨g1,0,I⟩) n n,V a2 zl c2,V (M ⟨g3,0,I⟩) m m] (0,0) _ rD Bp rfl Tryz.infoNt ?_;exact hK _ _ ⟨x9,c0,b0,(by simp[Act.put,jJ]),h0,h1,(ab e7),(ab a0)⟩
  | 7,_=>
   obtain⟨x9,c0,b0,rfl,h0,h1,h2,h3⟩:=e0;obtain⟨d6,e7,r0,a0,-⟩:=S;have j0:=h0 a0;refine jB rfl (fun _=>rfl) fun K hK=>?_
   simp only[d6,jJ];go_simp
   refine Ax (f1 W j0) ?_;rintro e w9 ⟨b9,rfl,g0,m0,f0⟩;have y0:=jA j0 f0;exact hK _ _ ⟨x9,.map (M b9),b0,(by simp only[Nat.reduceBEq,Bh,jJ,jIo,d6,r0]),(fun k0=>y0),(fun k0 k1=>by obtain⟨g5,q1,q2,q3⟩:=h1 (show L 3=Aw from k0) (show L 11=Av from k1);exact⟨g5,q1,q2.below f0,q3⟩),(fun k0 k1=>⟨b9,rfl,g0,by have:=j0.size;omega⟩),(ab a0)⟩
  | 9,_=>
   obtain⟨x9,c0,b0,rfl,h0,h1,h2,h3⟩:=e0;obtain⟨d8,e9,a0,-⟩:=S;have hB:=h0 a0;have o0:=(KD W hB).cell 3;simp at o0;refine jB rfl (fun _=>rfl) fun K hK=>?_
   simp only[d8,jJ];go_simp
   exact hK _ _ ⟨x9,c0,b0,(by simp only[Nat.reduceBEq,Bh,Bq,jJ,d8]),h0,h1,h2,(ab a0)⟩
  | 10,_=>
   obtain⟨x9,c0,b0,rfl,h0,h1,h2,h3⟩:=e0;obtain⟨d1,d3,d5,d7,d9,r0,a0,-⟩:=S;obtain⟨g9,rfl,_⟩:=h1 d3 a0;obtain⟨b9,rfl,_⟩:=h2 d7 a0;refine jB rfl (fun _=>rfl) fun K hK=>?_
   simp only[d1,d5,d9,jJ];go_simp
   exact hK _ _ ⟨V (Q g9 0 I) n n,.map (M b9),b0,(by simp only[Nat.reduceBEq,Bh,Bq,jJ,d1,d5,d9]),h0,h1,h2,(ab a0)⟩
  | 11,_=>
   obtain⟨x9,c0,b0,rfl,h0,h1,h2,h3⟩:=e0;obtain⟨d3,d7,q0,a0,j1,-⟩:=S;have hB:=h0 a0;obtain⟨g9,rfl,i0,m0⟩:=h1 d3 a0;obtain⟨b9,rfl,g0,f0⟩:=h2 d7 a0;refine jB rfl (fun _=>rfl) fun K hK=>?_
   simp only[q0,jJ];go_simp
   exact hK _ _ ⟨V (Q g9 0 I) n n,.map (M b9),Af (Q W.1.size 0 I),(by simp only[Nat.reduceBEq,Bh,jJ,jIo,q0,j1]),nf,(fun _=>nf),(fun _=>nf),(fun k0=>⟨W,g9,b9,rfl,rfl,hB,⟨i0,m0⟩,g0,f0⟩)⟩
  | 12,_=>
   obtain⟨x9,c0,b0,rfl,h0,h1,h2,h3⟩:=e0;obtain⟨d3,d7,q0,x0,j1,-⟩:=S;refine jB rfl (fun _=>rfl) fun K hK=>?_
   go_simp
   exact hK _ _ ⟨x9,c0,b0,(by simp only[Nat.reduceBEq,Bh,Bq,jJ,q0]),(ba x0),(fun _=>ba x0),(fun _=>ba x0),h3⟩
  | n9+13,h=>exact Bo h (by omega)
theorem jMg (B Hb:Nat) (f:Int) (n:Nat) (N:Nat->Nd) (zs:List Int) (gs cs:Nat) (vl:Aj) (b m:Nat) (Y:Nat->Sy) (vw:Aj) (Fs Fl Fw:Nat->Prop) (w:Ad) (h:HaK w B Hb f n N zs (V gs n cs) vl b m Y vw Fs Fl Fw) (hn:n<=1048576):Ak prog 68 #[Af Hb] w fun e w'=>∃ g,e=Ae (ntV f (V (Q g 0 I) n n) vl vw)/\Ow w' B (qR n N) (V (Q g 0 I) n n) (fun x=>Fs x\/x=g)/\w.1.size<=g/\g<w'.1.size/\Ab w w w':=by
 obtain⟨i0,hi,z1,f2,g2⟩:=Cg Tryz.infoNdZ2;obtain⟨a2,c2,rfl⟩:=h.z.rd.shape;obtain⟨a3,c3,rfl,_⟩:=h.y.shape;obtain⟨zl,n1⟩:=nnH zs.length;rw[n1.out] at h |-;obtain⟨a',cap,cc,G,e0,ho,hs,hr⟩:=h.s;cases e0;have KO:=hd ho;have KS:H (Sep gs n 5 G Fs/\∀ i q,i<n->q<5->Ow w B (stD (N i) i f q) (cc i q) (G i q)):=⟨hs,hr⟩;have KV:H (∀ k,k<n->∃ an cn,cc k 0=Ao Ar (N k).i/\cc k 1=Ao Ar (N k).f/\cc k 2=V an (N k).n cn/\cc k 3=Ao Ar (k:Int)/\cc k 4=Ao Ar f):=fun k hk=>by
  have h2:Ow w B (qH (N k).n (N k).S) (cc k 2) (G k 2):=hr k 2 hk (by omega);obtain⟨an,cn,e2⟩:=h2.rd.shape;exact⟨an,cn,hr k 0 hk (by omega),hr k 1 hk (by omega),e2,hr k 3 hk (by omega),hr k 4 hk (by omega)⟩
 have KH:H (Row w Hb 179 #[f,V gs n cs,V a2 zl c2,.map (M b),V a3 m c3]/\B<=w/\∀ x,Fs x->x<w.1.size):=⟨h.r,by have:=h.b.2.2;have:=h.r.lt;omega,fun x hx=>(h.h x (.inl hx)).2.2.2⟩;have lH:=h.r.lt;obtain⟨D,HD⟩:=nmH w.1.size;obtain⟨w0,f0⟩:=nmH (w.alloc (J #[(),V I 0 0,V I 0 0,V I 0 0] 48));have RD:=jZ f0 HD;have a1:=bl1 f0;have g0:=hd a1;obtain⟨g,HG⟩:=nmH w0.1.size;have x1:=(h.r.below a1 lH).cell 1;simp at x1;have m1:=x1;rw[f0.out] at m1;clear h a1 ho hs hr;go_enter func68,ntmps68
 go_wp2_with (at_make;rw[<-f0.out,<-HD.out];refine Cv _ rfl _ _ 46 rfl w0 26 i0 (Ai zcN.toArray) 3 underlying46 hi z1 f2 Ar Ar _ _ n rfl rfl rfl rfl (by rw[g2];omega) (by unfold Au;omega) (Ay _) ?_;intro w1 c0 b0;have hb1:Ab w0 w0 w1:=(Az _ _).grown b0 (Ay _) (by simp);have y1:=(hb1.cell (p:=Q Hb 1 I) (by have:=g0.size;show Hb<_;omega)).trans x1)
 have j1:w1.ownsRow w0 26 3 (V (Q g 0 I) n n) n (cL 3 (fun _ q=>zcN.getD q O) n):=by
  have e:(madeCells (Ai zcN.toArray).cells (n*3)).toList=cL 3 (fun _ q=>zcN.getD q O) n:=xH (zs:=zcN) (by simp[zcN]);rw[e] at c0;rw[HG.out];exact c0
 rw[<-HG.out];have KO1:=hd j1;clear c0 b0 j1 m1;go_loopw [17] (fun vi wr=>∃ k:Nat,k<=n/\vi=Ao Ar (k:Int)/\H (∃ y,wr.ownsRow w0 26 3 (V (Q g 0 I) n n) n (cL 3 y n)/\∀ i,i<k->∀ q,q<3->y i q=cc i q)/\Ab w0 w0 wr) (fun vi _=>n-(intOf vi).toNat)
 case atStart=>exact⟨0,Bi _,rfl,⟨_,KO1,fun i hi=>Bo hi (Bk _)⟩,hb1⟩
 case round=>
  obtain⟨k,hk,rfl,HY,a0⟩:=hrel;clear KO1 hb1 y1 x1;by_cases hlt:k<n
  .have j2:(k:Int)<(n:Int):=by omega
   obtain⟨an,cn,v0,v1,v2,v3,v4⟩:=KV k hlt;have R1:H (wr.rangeAt gs (k*5) [Ao Ar (N k).i,Ao Ar (N k).f,V an (N k).n cn,(k:Int),f]):=fun j v hv=>by
    have hj:j<5:=by
     rcases Fz j 5 with h|h
     .exact h
     .rw[Be (by simpa using h)] at hv;cases hv
    have e1:w.cell? (Q gs (k*5+j) I)=M v:=by
     rw[Br KO.out _ (qM hlt hj),jU _ _ _ _ _ hlt hj];match j,hj with
     | 0,_=>rw[v0];simpa using hv
     | 1,_=>rw[v1];simpa using hv
     | 2,_=>rw[v2];simpa using hv
     | 3,_=>rw[v3];simpa using hv
     | 4,_=>rw[v4];simpa using hv
    exact((jA g0 a0).cell (A7 e1)).trans e1
   obtain⟨X,HX⟩:=nmH wr.1.size;obtain⟨w2,r0⟩:=nmH (wr.alloc (J #[Ao Ar (N k).i,Ao Ar (N k).f,V an (N k).n cn,(k:Int),f] 124));have b2:=bl1 r0;have RX:=(jZ r0 HX).out;have o1:=hd RX.mid;obtain⟨y,d0,o0⟩:=HY.out;have n0:=jE d0 b2;have TH:H (w2.there g (k*3) 3):=by
    intro j hj;refine⟨?_,B0 n0 _⟩;rw[Br n0 _ (qM hlt hj),jU _ _ _ _ _ hlt hj];rfl
   obtain⟨w3,t0⟩:=nmH (w2.setCells g (k*3) [Ao Ar (N k).i,Ao Ar (N k).f,V an (N k).n cn]);have HY3:H (∃ y,w3.ownsRow w0 26 3 (V (Q g 0 I) n n) n (cL 3 y n)/\∀ i,i<k+1->∀ q,q<3->y i q=cc i q):=by
    rw[t0.out];have:=qJ hlt [Ao Ar (N k).i,Ao Ar (N k).f,V an (N k).n cn] 0 w2 y rfl n0
    rw[Cp] at this;refine⟨_,this,fun i hi q hq=>?_⟩;by_cases e:i=k
    .subst e;match q,hq with
     | 0,_=>simp[v0]
     | 1,_=>simp[v1]
     | 2,_=>simp[v2]
    .simp only[e,false_and,Dj];exact o0 i (by omega) q hq
   have i1:w0.1.size<=g:=by rw[HG.out];exact Ay _
   have KB3:H (Ab w0 w0 w3):=by show Ab _ _ _;rw[t0.out];exact jR (jA a0 b2) i1 _ _
   clear HY d0 n0 b2 RX a0 o0 i1 KV;go_wp2_with (first|(refine Bv rfl 124 _ rfl gs (k*5) rfl [Ao Ar (N k).i,Ao Ar (N k).f,V an (N k).n cn,(k:Int),f] _ ?_ Fd rfl Tryz.infoSt ?_;exact R1)|(rw[<-r0.out,<-HX.out];refine Bv rfl 26 _ rfl X 0 rfl [Ao Ar (N k).i,Ao Ar (N k).f,V an (N k).n cn] _ ?_ Ch rfl Tryz.infoNd ?_;exact o1)|(refine C7 rfl 26 _ _ rfl g (k*3) #[Ao Ar (N k).i,Ao Ar (N k).f,V an (N k).n cn] rfl rfl ?_ Tryz.infoNd (by simp[Aq]) ?_;exact TH;rw[<-t0.out]))
   go_roundw
   case rel=>exact⟨k+1,by omega,by go_num,HY3,KB3.out⟩
   case measure=>simp[intOf];omega
  .obtain rfl:k=n:=by omega
   have m2:¬ ((k:Int)<(k:Int)):=by omega
   have sD:=RD.lt;have j0:=jA g0 a0;have RH:Row wr.drew Hb 179 #[f,V gs k cs,V a2 zl c2,.map (M b),V a3 m c3]:=(KH.1.below j0 lH).below (jD wr) (KH.1.below j0 lH).lt;obtain⟨z0,z2,z4⟩:=RH.c3 0 2 4;simp at z0 z2 z4;have u0:Row wr D 48 #[(),V I 0 0,V I 0 0,V I 0 0]:=RD.below a0 RD.lt;have x0:=hd (u0.below (jD wr) u0.lt);have q0:H (Row (wr.drew.setRow D #[f,V (Q g 0 I) k k,V a2 zl c2,V a3 m c3]) D 48 #[f,V (Q g 0 I) k k,V a2 zl c2,V a3 m c3]/\Ow (wr.drew.setRow D #[f,V (Q g 0 I) k k,V a2 zl c2,V a3 m c3]) B (qR k N) (V (Q g 0 I) k k) (fun x=>Fs x\/x=g)/\w.1.size<=g/\g<(wr.drew.setRow D #[f,V (Q g 0 I) k k,V a2 zl c2,V a3 m c3]).1.size/\Ab w w (wr.drew.setRow D #[f,V (Q g 0 I) k k,V a2 zl c2,V a3 m c3])):=by
    obtain⟨y,d0,o0⟩:=HY.out;obtain⟨hs,hr⟩:=KS.out;have sg:=A0 d0 g rfl;have s0:=g0.size;have i2:=HD.out;have bW:Ab w w (wr.drew.setRow D #[f,V (Q g 0 I) k k,V a2 zl c2,V a3 m c3]):=jF (jA j0 (jD wr)) (by omega) _;have n2:(wr.drew.setRow D #[f,V (Q g 0 I) k k,V a2 zl c2,V a3 m c3]).1.size=wr.1.size:=by simp[World.setRow]
    refine⟨x0.row,?_,by omega,by omega,bW⟩;have s1:(wr.drew.setRow D #[f,V (Q g 0 I) k k,V a2 zl c2,V a3 m c3]).ownsRow B 26 3 (V (Q g 0 I) k k) k (cL 3 y k):=by
     have h7:=jY d0 (show B<=w0.1.size by have:=KH.2.1;omega);refine⟨h7.1,?_⟩;rcases h7.2 with h'|⟨g',b1,q1,k1,k2,k3,k4⟩
     .exact .inl h'
     .refine .inr ⟨g',b1,q1,k1,k2,?_,k4⟩;cases k1;exact(Cd _ _ _ _ (by omega)).trans k3
    refine⟨_,_,y,fun i q x=>if q<3 then G i q x else False,rfl,s1,?_,fun i q hi hq=>?_⟩
    .refine⟨fun x hx=>.inr (by cases hx;rfl),fun i q x hi hq hx=>?_,fun i q x hi hq hx k=>?_,fun i q i' q' x hi hq r1 t1 h1 h2=>?_⟩
     .rw[A6 hq] at hx;exact .inl (hs.sub i q x hi (by omega) hx)
     .cases hx;rw[A6 hq] at k;have h5:g<w.1.size:=KH.2.2 _ (hs.sub i q _ hi (by omega) k);omega
     .rw[A6 hq] at h1;rw[A6 t1] at h2;exact hs.each i q i' q' x hi (by omega) r1 (by omega) h1 h2
    .rw[o0 i hi q hq];refine Ow.mono (F:=G i q) ?_ (fun x hx=>by show if q<3 then G i q x else False;rw[A6 hq];exact hx);have h6:=(hr i q hi (by omega)).below bW;match q,hq,h6 with
     | 0,_,h6|1,_,h6|2,_,h6=>exact h6
   clear HY a0 j0 RH u0 KO KS KV KH;go_upto_region 7 with fail
   refine JP Tryz.mixed 15 [([],[0,14]),([0],[1,14]),([1],[2,14]),([2],[3,14]),([],[4,14]),([],[5,14]),([5],[6,14]),([6],[7,14]),([7],[8,14]),([],[9,14]),([9],[10,14]),([10],[11,14]),([11],[12,14]),([3,4,8,12],[13,14]),([13],[14])] (by kernel_rfl) (fun L A9 W=>A9=⟨(List.toArray (α:=Aj) ((Af Hb)::O::(Af D)::(V (Q g 0 I) k k)::u4::u5::(Af Hb)::(Af Hb)::(Af (Q Hb 1 I))::(V gs k cs)::((k:Int))::(V (Q g 0 I) k k)::(Af Hb)::(Af Hb)::(Af (Q Hb 1 I))::(V gs k cs)::((k:Int))::((k:Int))::(Av)::u19::u20::u21::u22::u23::u24::u25::u26::u27::(cX (L 0) (Af Hb) O)::(cX (L 1) (Af Hb) O)::(cX (L 2) (Af Hb) O)::(cX (L 3) f O)::(cX (L 4) (V (Q g 0 I) k k) O)::(cX (L 5) (Af Hb) O)::(cX (L 6) (Af Hb) O)::(cX (L 7) (Af (Q Hb 2 I)) O)::(cX (L 8) (V a2 zl c2) O)::(cX (L 9) (Af Hb) O)::(cX (L 10) (Af Hb) O)::(cX (L 11) (Af (Q Hb 4 I)) O)::(cX (L 12) (V a3 m c3) O)::(cX (L 13) (Ai #[f,V (Q g 0 I) k k,V a2 zl c2,V a3 m c3]) O)::[])),[]⟩/\(L 14=Av->W=wr.drew)/\(L 14=Aw->W=wr.drew.setRow D #[f,V (Q g 0 I) k k,V a2 zl c2,V a3 m c3])) ?_ ?_ ?_
   .exact⟨rfl,(fun _=>rfl),(fun h=>by cases h)⟩
   .rintro a9 wx ⟨g1,-,m0⟩;simp only[Nat.reduceLT,Dp,jJ] at g1;subst g1;replace m0:=(m0 rfl)
    have KE:H (Row wx D 48 #[f,V (Q g 0 I) k k,V a2 zl c2,V a3 m c3]/\Ow wx B (qR k N) (V (Q g 0 I) k k) (fun x=>Fs x\/x=g)/\w.1.size<=g/\g<wx.1.size/\Ab w w wx):=by rw[m0];exact q0
    clear m0 q0 x0;go_wp2_with fail
    exact B7 (v:=Ai #[f,V (Q g 0 I) k k,V a2 zl c2,V a3 m c3]) (by
     obtain⟨p0,p1,p2,p3⟩:=KE.1.c4 0 1 2 3;simp at p0 p1 p2 p3;simp[results,results68,go_sem,p0,p1,p2,p3]) rfl ⟨g,rfl,KE.2⟩
   .intro q9 u1 L a9 W S f1;match q9,u1 with
    | 0,_|1,_|2,_|3,_|4,_|5,_|6,_|7,_|8,_|9,_|10,_|11,_|12,_|13,_=>
     obtain⟨rfl,h0,h1⟩:=f1;simp only[knT,kn,knN] at S;have y0:L 14=Av:=by simp only[S]
     obtain rfl:=h0 y0;refine jB rfl (fun _=>rfl) fun K hK=>?_
     try simp only[S,jJ]
     go_simp
     exact hK _ _ ⟨(by simp only[Nat.reduceBEq,Bh,Bq,jJ,S]),h0,h1⟩
    | 14,_=>
     obtain⟨rfl,h0,h1⟩:=f1;obtain⟨c1,y0,-⟩:=S;obtain rfl:=h0 y0;refine jB rfl (fun _=>rfl) fun K hK=>?_
     simp only[c1,jJ];refine wp_store_row 48 _ _ rfl D #[f,V (M ⟨g,0,I⟩) k k,V a2 zl c2,V a3 m c3] rfl rfl 48 #[(),V I 0 0,V I 0 0,V I 0 0] x0 Tryz.infoNt rfl (by simp[Aq]) ?_;exact hK _ _ ⟨(by simp[Act.put,jJ,c1]),nf,(fun k0=>rfl)⟩
    | n9+15,h=>exact Bo h (by omega)
theorem HaK.hw {W:Ad} {B Hb:Nat} {f:Int} {n:Nat} {N:Nat->Nd} {zs:List Int} {vs vl:Aj} {b m:Nat} {Y:Nat->Sy} {vw:Aj} {Fs Fl Fw:Nat->Prop} (h:HaK W B Hb f n N zs vs vl b m Y vw Fs Fl Fw):HwK W B Hb f vs vl (.map (M b)) m Y vw Fw:=
 ⟨h.r,h.y,fun k=>(h.h Hb (.inr (.inr k))).1 rfl,h.b.2.2⟩
theorem HaK.sent {W W':Ad} {B Hb:Nat} {f:Int} {n:Nat} {N:Nat->Nd} {zs:List Int} {vs vl:Aj} {b m m':Nat} {Y Y':Nat->Sy} {vw b0:Aj} {Fs Fl Fw F':Nat->Prop} (h:HaK W B Hb f n N zs vs vl b m Y vw Fs Fl Fw) (hk:HwK W' B Hb f vs vl (.map (M b)) m' Y' b0 F') (ht:Trn W W' (fun x=>x=Hb\/Fw x)) (hF:∀ x,F' x->Fw x\/W.1.size<=x) (hL:∀ x,F' x->x<W'.1.size):HaK W' B Hb f n N zs vs vl b m' Y' b0 Fs Fl F':=by
 have lb:b<W:=by
  obtain⟨es,ck,e,_⟩:=h.k;exact(Bz.1 e).1
 have s1:=ht.size;have lH:=h.r.lt;have a0:=h.b;have nb:¬ (b=Hb\/Fw b):=fun k=>by
  rcases k with k|k
  .exact a0.1 k
  .exact(h.h b (.inr (.inr k))).2.1 rfl
 have ns:∀ x,Fs x->¬ (x=Hb\/Fw x):=fun x hx k=>by
  rcases k with k|k
  .exact(h.h x (.inl hx)).1 k
  .exact h.d2 x hx k
 have nl:∀ x,Fl x->¬ (x=Hb\/Fw x):=fun x hx k=>by
  rcases k with k|k
  .exact(h.h x (.inr (.inl hx))).1 k
  .exact h.d3 x hx k
 refine⟨hk.r,h.s.frame fun x hx hl=>ht.block x hl (ns x hx),h.z.frame fun x hx hl=>ht.block x hl (nl x hx),?_,hk.o,h.d1,fun x hx k=>?_,fun x hx k=>?_,fun x hx=>?_,a0⟩
 .obtain⟨es,ck,e,hl⟩:=h.k;exact⟨es,ck,(ht.block b lb nb).trans e,hl⟩
 .rcases hF x k with k|k
  .exact h.d2 x hx k
  .have:=(h.h x (.inl hx)).2.2.2;omega
 .rcases hF x k with k|k
  .exact h.d3 x hx k
  .have:=(h.h x (.inr (.inl hx))).2.2.2;omega
 .rcases hx with hx|hx|hx
  .have:=h.h x (.inl hx);exact⟨this.1,this.2.1,this.2.2.1,by omega⟩
  .have:=h.h x (.inr (.inl hx));exact⟨this.1,this.2.1,this.2.2.1,by omega⟩
  .have h9:=hL x hx;rcases hF x hx with k|k
   .have:=h.h x (.inr (.inr k));exact⟨this.1,this.2.1,this.2.2.1,h9⟩
   .exact⟨by omega,by omega,by omega,h9⟩
theorem HaK.below {W W':Ad} {B Hb:Nat} {f:Int} {n:Nat} {N:Nat->Nd} {zs:List Int} {vs vl:Aj} {b m:Nat} {Y:Nat->Sy} {vw:Aj} {Fs Fl Fw:Nat->Prop} (h:HaK W B Hb f n N zs vs vl b m Y vw Fs Fl Fw) (hb:Ab W W W'):HaK W' B Hb f n N zs vs vl b m Y vw Fs Fl Fw:=
 h.sent (h.hw.below hb) (Trn.ofBelow _ hb) (fun _ hx=>.inl hx) (fun x hx=>Bu (h.h x (.inr (.inr hx))).2.2.2 hb.size)
theorem HaK.ways {W:Ad} {B Hb:Nat} {f:Int} {n:Nat} {N:Nat->Nd} {zs:List Int} {vs vl:Aj} {b m:Nat} {Y Y':Nat->Sy} {vw:Aj} {Fs Fl Fw:Nat->Prop} (h:HaK W B Hb f n N zs vs vl b m Y vw Fs Fl Fw) (e:∀ i,i<m->Y i=Y' i):HaK W B Hb f n N zs vs vl b m Y' vw Fs Fl Fw:=
 ⟨h.r,h.s,h.z,h.k,h.y.congr (fun i q hi _=>by show syD (Y i) q=syD (Y' i) q;rw[e i hi]),h.d1,h.d2,h.d3,h.h,h.b⟩
abbrev wyS (m:Nat) (Y Z:Nat->Sy) (i:Nat):Sy:=if i<m then Y i else Z (i-m)
theorem jHm (B Hb:Nat) (f:Int) (n:Nat) (N:Nat->Nd) (zs:List Int) (vs vl:Aj) (b m:Nat) (Y:Nat->Sy) (vw:Aj) (Fs Fl Fw:Nat->Prop) (s:BA) (w:Ad) (h:HaK w B Hb f n N zs vs vl b m Y vw Fs Fl Fw) (hs:s.size<=1048576) (hm:m<=3000) (hK:∀ i,i<brN s f->SyK (brS s f i)) (hN:brN s f<=100000):Ak prog 136 #[Af Hb,s] w fun e w'=>∃ c0 f0,e=Ae (brB s f&&decide (m+brN s f<=3000))/\HaK w' B Hb f n N zs vs vl b (if brB s f&&decide (m+brN s f<=3000) then m+brN s f else m) (wyS m Y (brS s f)) c0 Fs Fl f0/\Trn w w' (fun x=>x=Hb\/Fw x):=by
 have x0:=h.r.cell 0;simp at x0;have a0:H _:=jI2 s f w hs;have KH:=hd h;obtain⟨bb,d0⟩:=nnH (brB s f);obtain⟨nb,b0⟩:=nnH (brN s f);rw[d0.out,b0.out] at a0;rw[b0.out] at hK hN;rw[d0.out,b0.out];cases bb with
 | false=>
  rw[Bool.false_and,A5 (by decide)];go_enter func136,ntmps136
  go_wp2_with fail
  refine Ax a0.out ?_;rintro e w1 ⟨g,cap,rfl,hO,hb⟩;have h1:=KH.below hb;have s1:=hb.size;have KE:H (HaK w1 B Hb f n N zs vs vl b m (wyS m Y (brS s f)) vw Fs Fl Fw/\Trn w w1 (fun x=>x=Hb\/Fw x)):=⟨h1.ways (fun i hi=>by show _=if i<m then Y i else _;rw[A6 hi]),Trn.ofBelow _ hb⟩;go_wp2
  go_ret
  exact⟨_,_,rfl,KE.1,KE.2⟩
 | true=>
  rw[Gx];by_cases hnm:m+nb<=3000
  .rw[Bf hnm,A6 rfl];go_enter func136,ntmps136
   go_wp2_with fail
   refine Ax a0.out ?_;rintro e w1 ⟨g,cap,rfl,hO,hb⟩;have h1:=KH.below hb;have s1:=hb.size;have KS:H _:=QL B Hb f vs vl (.map (M b)) m Y vw Fw g nb cap (brS s f) w1 h1.hw hnm hK (by have:=h1.b.2.2;have:=h1.r.lt;omega) (fun x hx=>(h1.h x (.inr (.inr hx))).2.2.2) (fun c W _ hW _=>((hO.frame fun x hx hl=>hW.block x hl (fun k=>by
    have h5:=hx.1;rcases k with k|k
    .have:=KH.r.lt;omega
    .have:=(KH.h x (.inr (.inr k))).2.2.2;omega)).rd))
   have e0:H (HaK w1 B Hb f n N zs vs vl b m Y vw Fs Fl Fw/\Ab w w w1):=⟨h1,hb⟩;go_wp2_with fail
   refine Ax KS.out ?_;rintro e w2 ⟨rfl,c0,F',i0,t2,g0,h0⟩;have KE:H (HaK w2 B Hb f n N zs vs vl b (m+nb) (wyS m Y (brS s f)) c0 Fs Fl F'/\Trn w w2 (fun x=>x=Hb\/Fw x)):=⟨e0.1.sent i0 t2 g0 h0,(Trn.ofBelow _ e0.2).trans t2⟩;go_wp2
   go_ret
   exact⟨_,_,rfl,KE.1,KE.2⟩
  .rw[Bg hnm,A5 (by decide)];go_enter func136,ntmps136
   go_wp2_with fail
   refine Ax a0.out ?_;rintro e w1 ⟨g,cap,rfl,hO,hb⟩;have h1:=KH.below hb;have s1:=hb.size;have KS:H _:=jBr B Hb f vs vl (.map (M b)) m Y vw Fw g nb cap w1 h1.hw hm hN (by omega);have KE:H (HaK w1 B Hb f n N zs vs vl b m (wyS m Y (brS s f)) vw Fs Fl Fw/\Trn w w1 (fun x=>x=Hb\/Fw x)):=⟨h1.ways (fun i hi=>by show _=if i<m then Y i else _;rw[A6 hi]),Trn.ofBelow _ hb⟩;go_wp2_with fail
   refine Ax KS.out ?_;rintro e w2 ⟨rfl,rfl⟩;go_wp2
   go_ret
   exact⟨_,_,rfl,KE.1,KE.2⟩
theorem jLm {W:Ad} {X:Nat} {y:Sy} {a9:OA} {c9:Nat} (h:Row W X 31 (syC y (V a9 y.p.m c9))) (ht:jL W a9 y.p.m y.p.S):Rd W (qI 1 (fun _=>y)) (V X 1 1):=by
 refine⟨_,_,rfl,fun i hi=>⟨X,0,rfl,fun q hq=>?_⟩⟩;obtain rfl:i=0:=by omega
 rw[show 0+(0*10+q)=q by omega];match q,hq with
 | 0,_=>exact⟨_,(h.cell 0).trans rfl,rfl⟩
 | 1,_=>exact⟨_,(h.cell 1).trans rfl,rfl⟩
 | 2,_=>exact⟨_,(h.cell 2).trans rfl,rfl⟩
 | 3,_=>exact⟨_,(h.cell 3).trans rfl,rfl⟩
 | 4,_=>exact⟨_,(h.cell 4).trans rfl,rfl⟩
 | 5,_=>exact⟨_,(h.cell 5).trans rfl,rfl⟩
 | 6,_=>exact⟨_,(h.cell 6).trans rfl,rfl⟩
 | 7,_=>exact⟨_,(h.cell 7).trans rfl,rfl⟩
 | 8,_=>exact⟨_,(h.cell 8).trans rfl,rfl⟩
 | 9,_=>exact⟨_,(h.cell 9).trans rfl,XX.2 ht⟩
theorem jMf (B Hb:Nat) (f:Int) (n:Nat) (N:Nat->Nd) (zs:List Int) (sa:OA) (sc:Nat) (vl:Aj) (b m:Nat) (Y:Nat->Sy) (vw:Aj) (Fs Fl Fw:Nat->Prop) (y:Sy) (a9:OA) (c9:Nat) (w:Ad) (h:HaK w B Hb f n N zs (V sa n sc) vl b m Y vw Fs Fl Fw) (hm:m<=3000) (hK:SyK y) (hT:∀ W,Trn w W (fun x=>x=Hb\/Fw x)->jL W a9 y.p.m y.p.S):Ak prog 135 #[Af Hb,syV y (V a9 y.p.m c9)] w fun e w'=>∃ d0 q0,e=Ae (decide (y.f∈zs/\(0<=y.t/\y.t<n)/\m<3000))/\HaK w' B Hb f n N zs (V sa n sc) vl b (if y.f∈zs/\(0<=y.t/\y.t<n)/\m<3000 then m+1 else m) (wyS m Y (fun _=>y)) d0 Fs Fl q0/\Trn w w' (fun x=>x=Hb\/Fw x):=by
 obtain⟨X,HX⟩:=nmH w.1.size;obtain⟨w0,a0⟩:=nmH (w.alloc (J (syC y (V a9 y.p.m c9)) 31));have R0:=(jZ a0 HX).out;have b0:=bl1 a0;have h0:=h.below b0;obtain⟨wd,j0⟩:=nmH w0.drew;have g0:Ab w0 w0 wd:=by rw[j0.out];exact jD w0
 have bd:Ab w w wd:=jA b0 g0;have hd:=h0.below g0;have RX:Row wd X 31 (syC y (V a9 y.p.m c9)):=R0.below g0 R0.lt;have KR:H (Row wd X 31 (syC y (V a9 y.p.m c9))):=RX;have i0:=XG Hb b f zs _ _ _ y.f w0 h0.r h0.k;rw[<-j0.out] at i0;have KL:H _:=i0;have c0:H _:=XH Hb _ _ _ _ sa n sc y.t wd hd.r;have KE:H (HaK wd B Hb f n N zs (V sa n sc) vl b m (wyS m Y (fun _=>y)) vw Fs Fl Fw/\Trn w wd (fun x=>x=Hb\/Fw x)):=⟨hd.ways (fun i hi=>by show _=if i<m then Y i else _;rw[A6 hi]),Trn.ofBelow _ bd⟩;obtain⟨X2,f0⟩:=nmH wd.1.size;obtain⟨w2,e0⟩:=nmH (wd.alloc (J (syC y (V a9 y.p.m c9)) 31));have R2:=(jZ e0 f0).out;have b2:=bl1 e0;have bw:=jA bd b2;have h2:=hd.below b2;have k0:H (HaK w2 B Hb f n N zs (V sa n sc) vl b m (wyS m Y (fun _=>y)) vw Fs Fl Fw/\Trn w w2 (fun x=>x=Hb\/Fw x)):=⟨h2.ways (fun i hi=>by show _=if i<m then Y i else _;rw[A6 hi]),Trn.ofBelow _ bw⟩;have K2:H (HaK w2 B Hb f n N zs (V sa n sc) vl b m Y vw Fs Fl Fw/\Ab w w w2):=⟨h2,bw⟩;have r0:H (¬ m<3000->CS 134 #[Af Hb,V X2 1 1] w2 Av):=fun k=>jBr B Hb f _ vl (.map (M b)) m Y vw Fw X2 1 1 w2 h2.hw hm (by omega) (by omega)
 have s0:H (m<3000->Ak prog 134 #[Af Hb,V X2 1 1] w2 fun e w'=>e=Ae Aw/\∃ d0 F',HwK w' B Hb f (V sa n sc) vl (.map (M b)) (m+1) (fun i=>if i<m then Y i else y) d0 F'/\Trn w2 w' (fun x=>x=Hb\/Fw x)/\(∀ x,F' x->Fw x\/w2.1.size<=x)/\∀ x,F' x->x<w'.1.size):=fun k=>QL B Hb f _ vl (.map (M b)) m Y vw Fw X2 1 1 (fun _=>y) w2 h2.hw (by omega) (fun _ _=>hK) (by have:=h2.b.2.2;have:=h2.r.lt;omega) (fun x hx=>(h2.h x (.inr (.inr hx))).2.2.2) (fun c W _ hW _=>jLm ((hW.block X2 R2.lt (fun k=>by
   have e2:=f0.out;have l0:=hd.r.lt;rcases k with k|k
   .omega
   .have:=(hd.h X2 (.inr (.inr k))).2.2.2;omega)).trans R2) (hT W ((Trn.ofBelow _ bw).trans hW)))
 have x1:=R0.cell 1;have x2:=RX.cell 2;simp at x1 x2;have t0:=x1;rw[a0.out] at t0;clear i0 g0 h h0 hd h2 R0 RX R2 b0 bd b2 bw hT;by_cases c1:y.f∈zs
 .by_cases c2:0<=y.t/\y.t<n
  .by_cases c3:m<3000
   .rw[Bf ⟨c1,c2,c3⟩,A6 ⟨c1,c2,c3⟩];rw[Bf c1] at KL;rw[Bf c2] at c0;go_enter func135,ntmps135
    go_wp2_with fail
    rw[<-a0.out,<-HX.out];refine Ax KL.out ?_;rintro e w1 ⟨rfl,rfl⟩;go_wp2_with fail
    refine Ax c0.out ?_;rintro e w1 ⟨rfl,rfl⟩;obtain⟨p0,p1,p3,p4,p5,p6⟩:=KR.c6 0 1 3 4 5 6;obtain⟨p7,p8,p9⟩:=KR.c3 7 8 9;simp at p0 p1 p3 p4 p5 p6 p7 p8 p9;go_wp2_with fail
    rw[<-e0.out,<-f0.out];refine Ax (s0 c3) ?_;rintro e w3 ⟨rfl,d0,F',o0,t3,m0,n0⟩;have KF:H (HaK w3 B Hb f n N zs (V sa n sc) vl b (m+1) (wyS m Y (fun _=>y)) d0 Fs Fl F'/\Trn w w3 (fun x=>x=Hb\/Fw x)):=⟨K2.1.sent o0 t3 m0 n0,(Trn.ofBelow _ K2.2).trans t3⟩;clear o0 t3 m0 n0;go_wp2
    go_ret
    exact⟨_,_,rfl,KF.1,KF.2⟩
   .rw[Bg (fun k=>c3 k.2.2),A5 (fun k=>c3 k.2.2)];rw[Bf c1] at KL;rw[Bf c2] at c0;go_enter func135,ntmps135
    go_wp2_with fail
    rw[<-a0.out,<-HX.out];refine Ax KL.out ?_;rintro e w1 ⟨rfl,rfl⟩;go_wp2_with fail
    refine Ax c0.out ?_;rintro e w1 ⟨rfl,rfl⟩;obtain⟨p0,p1,p3,p4,p5,p6⟩:=KR.c6 0 1 3 4 5 6;obtain⟨p7,p8,p9⟩:=KR.c3 7 8 9;simp at p0 p1 p3 p4 p5 p6 p7 p8 p9;go_wp2_with fail
    rw[<-e0.out,<-f0.out];refine Ax (r0 c3) ?_;rintro e w3 ⟨rfl,rfl⟩;go_wp2
    go_ret
    exact⟨_,_,rfl,k0.1,k0.2⟩
  .rw[Bg (fun k=>c2 k.2.1),A5 (fun k=>c2 k.2.1)];rw[Bf c1] at KL;rw[Bg c2] at c0;go_enter func135,ntmps135
   go_wp2_with fail
   rw[<-a0.out,<-HX.out];refine Ax KL.out ?_;rintro e w1 ⟨rfl,rfl⟩;go_wp2_with fail
   refine Ax c0.out ?_;rintro e w1 ⟨rfl,rfl⟩;go_wp2
   go_ret
   exact⟨_,_,rfl,KE.1,KE.2⟩
 .rw[Bg (fun k=>c1 k.1),A5 (fun k=>c1 k.1)];rw[Bg c1] at KL;go_enter func135,ntmps135
  go_wp2_with fail
  rw[<-a0.out,<-HX.out];refine Ax KL.out ?_;rintro e w1 ⟨rfl,rfl⟩;go_wp2
  go_ret
  exact⟨_,_,rfl,KE.1,KE.2⟩
theorem jJk (B Hb:Nat) (f:Int) (n:Nat) (N:Nat->Nd) (zs:List Int) (vs vl:Aj) (b m:Nat) (Y:Nat->Sy) (vw:Aj) (Fs Fl Fw:Nat->Prop) (i:Int) (w:Ad) (h:HaK w B Hb f n N zs vs vl b m Y vw Fs Fl Fw) (hi:¬ (0<=i/\i<m)):CS 132 #[Af Hb,i] w Av:=by
 obtain⟨a3,c3,rfl,_⟩:=h.y.shape;have KO:=xG Hb _ _ _ _ a3 m c3 i w h.r;rw[Bg hi] at KO;have a0:H _:=KO;go_enter func132,ntmps132
 go_wp2_with fail
 refine Ax a0.out ?_;rintro e w1 ⟨rfl,rfl⟩;go_wp2
 go_ret
 exact⟨rfl,rfl⟩
theorem jHo (B Hb:Nat) (f:Int) (n:Nat) (N:Nat->Nd) (zs:List Int) (sa:OA) (sc:Nat) (vl:Aj) (b m:Nat) (Y:Nat->Sy) (vw:Aj) (Fs Fl Fw:Nat->Prop) (a7:Nat) (w:Ad) (h:HaK w B Hb f n N zs (V sa n sc) vl b m Y vw Fs Fl Fw) (hm:m<=3000) (ha:a7<m) (k0:¬ (0<=(Y a7).t/\(Y a7).t<n)\/(Y a7).t∈zs):Ak prog 132 #[Af Hb,(a7:Int)] w fun e w'=>e=Ae Aw/\∃ a0,HaK w' B Hb f n N zs (V sa n sc) vl b (m-1) (fun i=>if i<a7 then Y i else Y (i+1)) a0 Fs Fl Fw/\Trn w w' (fun x=>x=Hb\/Fw x):=by
 obtain⟨a3,c3,rfl,_⟩:=h.y.shape;have g0:=xG Hb _ _ _ _ a3 m c3 (a7:Int) w h.r;rw[Bf ⟨by omega,by omega⟩] at g0;have KO:H _:=g0;obtain⟨bb,fb,a9,c9,rfl,RG,t9⟩:=zZ h.y.rd ha;obtain⟨y,Hy⟩:=nnH (Y a7);rw[Hy.out] at RG k0;have i0:=hd RG;obtain⟨X,HX⟩:=nmH w.1.size;obtain⟨w0,c0⟩:=nmH (w.alloc (J (syC y (V a9 y.p.m c9)) 31));have R0:=(jZ c0 HX).out;have b0:=bl1 c0;have h0:=h.below b0;obtain⟨wd,f0⟩:=nmH w0.drew;have j0:Ab w0 w0 wd:=by rw[f0.out];exact jD w0
 have e0:=XG Hb b f zs _ _ _ y.t w0 h0.r h0.k;rw[<-f0.out] at e0;have d0:=XH Hb _ _ _ _ sa n sc y.t w0 h0.r;have KT:H (∀ W,Ab w0 w0 W->Ak prog 168 #[Af Hb,(a7:Int)] W fun e w'=>e=Ae (Ah #[])/\∃ a0,HaK w' B Hb f n N zs (V sa n sc) vl b (m-1) (fun i=>if i<a7 then Y i else Y (i+1)) a0 Fs Fl Fw/\Trn w w' (fun x=>x=Hb\/Fw x)):=fun W hW=>by
  have h1:=h0.below hW;refine(jC2 B Hb f _ vl (.map (M b)) m Y _ Fw a7 W h1.hw ha hm).mono ?_;rintro e w' ⟨rfl,a0,hk,t⟩;exact⟨rfl,a0,h1.sent hk t (fun _ hx=>.inl hx) (fun x hx=>Bu (h1.h x (.inr (.inr hx))).2.2.2 t.size),(Trn.ofBelow _ (jA b0 hW)).trans t⟩
 have x4:=h.r.cell 4;have x2:=R0.cell 2;simp at x4 x2;have n0:=(j0.cell (p:=Q X 2 I) R0.lt).trans x2;have KB:=hd j0;have m0:(a7:Int)<(m:Int):=by omega
 by_cases c1:0<=y.t/\y.t<n
 .have c2:=k0.resolve_left (fun k=>k c1);rw[Bf c1] at d0;rw[Bf c2] at e0;have KL:H _:=e0;have KS:H _:=d0;go_enter func132,ntmps132
  go_wp2_with fail
  refine Ax KO.out ?_;rintro e w1 ⟨rfl,rfl⟩;go_wp2_with (refine Bv rfl 31 _ rfl bb (fb+a7*10) rfl (syC y (V a9 y.p.m c9)).toList _ ?_ Ci rfl Tryz.infoSy ?_;exact i0)
  rw[<-c0.out,<-HX.out];go_wp2_with fail
  refine Ax KS.out ?_;rintro e w1 ⟨rfl,rfl⟩;go_wp2_with fail
  refine Ax KL.out ?_;rintro e w1 ⟨rfl,rfl⟩;go_wp2_with fail
  refine Ax (KT _ KB) ?_;rintro e w3 ⟨rfl,a0,hk⟩;have KF:H _:=hk;go_wp2
  go_ret
  exact⟨rfl,a0,KF⟩
 .rw[Bg c1] at d0;have KS:H _:=d0;go_enter func132,ntmps132
  go_wp2_with fail
  refine Ax KO.out ?_;rintro e w1 ⟨rfl,rfl⟩;go_wp2_with (refine Bv rfl 31 _ rfl bb (fb+a7*10) rfl (syC y (V a9 y.p.m c9)).toList _ ?_ Ci rfl Tryz.infoSy ?_;exact i0)
  rw[<-c0.out,<-HX.out];go_wp2_with fail
  refine Ax KS.out ?_;rintro e w1 ⟨rfl,rfl⟩;go_wp2_with fail
  refine Ax (KT _ (Az _ _)) ?_;rintro e w3 ⟨rfl,a0,hk⟩;have KF:H _:=hk;go_wp2
  go_ret
  exact⟨rfl,a0,KF⟩
theorem HaK.seated {W:Ad} {B Hb:Nat} {f:Int} {n:Nat} {N:Nat->Nd} {zs:List Int} {gs cs:Nat} {vl:Aj} {b m:Nat} {Y:Nat->Sy} {vw:Aj} {Fs Fl Fw:Nat->Prop} (h:HaK W B Hb f n N zs (V gs n cs) vl b m Y vw Fs Fl Fw) {k:Nat} (hk:k<n) (d:Nd) (v:Aj) (F1:Nat->Prop) (ho:Ow W B (qH d.n d.S) v F1) (hF:∀ x,F1 x->¬ Fs x/\¬ Fl x/\¬ Fw x/\x≠Hb/\x≠b/\B<=x/\x<W.1.size):HaK (W.setCells gs (k*5) [d.i,d.f,v,(k:Int),f]) B Hb f n (fun i=>if i=k then d else N i) zs (V gs n cs) vl b m Y vw (fun x=>Fs x\/F1 x) Fl Fw:=by
 have b0:Fs gs:=by
  obtain⟨a,cap,c,G,e,ho,hs,hr⟩:=h.s;cases e;exact hs.head _ rfl
 have hg:=h.h gs (.inl b0);have sz:(W.setCells gs (k*5) [d.i,d.f,v,(k:Int),f]).1.size=W.1.size:=jQ _ _ _ _;have a0:∀ x,x≠gs->(W.setCells gs (k*5) [d.i,d.f,v,(k:Int),f]).1[x]?=W.1[x]?:=fun x hx=>jG gs _ _ W x hx
 have hp:=h.s.putRow hk [d.i,d.f,v,(k:Int),f] rfl (stD d k f) (fun q x=>q=2/\F1 x) (fun q hq=>by
  match q,hq with
  | 0,_|1,_|3,_|4,_=>rfl
  | 2,_=>exact Ow.mono ho fun x hx=>⟨rfl,hx⟩) (fun q x _ hx=>(hF x hx.2).1) (fun q q' x _ _ h1 h2=>h1.1.trans h2.1.symm)
 refine⟨(a0 Hb (fun e=>hg.1 e.symm)).trans h.r,(hp.congr (fun i q _ _=>?_)).mono (fun x hx=>?_),h.z.frame fun x hx _=>a0 x (fun e=>h.d1 gs b0 (e▸hx)),?_,h.y.frame fun x hx _=>a0 x (fun e=>h.d2 gs b0 (e▸hx)),fun x hx=>?_,fun x hx=>?_,h.d3,fun x hx=>?_,h.b⟩
 .by_cases e:i=k
  .subst e;simp
  .simp[e]
 .rcases hx with hx|⟨_,_,_,hx⟩
  .exact .inl hx
  .exact .inr hx
 .obtain⟨es,ck,e,hl⟩:=h.k;exact⟨es,ck,(a0 b (fun e=>hg.2.1 e.symm)).trans e,hl⟩
 .rcases hx with hx|hx
  .exact h.d1 x hx
  .exact(hF x hx).2.1
 .rcases hx with hx|hx
  .exact h.d2 x hx
  .exact(hF x hx).2.2.1
 .rw[sz];rcases hx with (hx|hx)|hx
  .exact h.h x (.inl hx)
  .exact(hF x hx).2.2.2
  .exact h.h x (.inr hx)
structure Ns where
 N:Nat->Nd
 m:Nat
 Y:Nat->Sy
def QK (a:Nat) (Y:Nat->Sy) (i:Nat):Sy:=if i<a then Y i else Y (i+1)
noncomputable def hdN (d:Nd) (y:Sy):Nd:=⟨d.i,d.f,nhN d.i d.f d.n d.S y,nhS d.i d.f d.n d.S y⟩
noncomputable def hdM (d:Nd) (y:Sy):Nat:=nhM d.i d.f d.n d.S y
noncomputable def hdY (d:Nd) (y:Sy):Nat->Sy:=nhY d.i d.f d.n d.S y
def ToP (n:Nat) (zs:List Int) (t:Int):Prop:=(0<=t/\t<n)/\t∉zs
instance (n:Nat) (zs:List Int) (t:Int):Decidable (ToP n zs t):=by unfold ToP;infer_instance
noncomputable def hrT (n:Nat) (zs:List Int) (T:Ns) (a:Nat):Ns:=
 if ToP n zs (T.Y a).t then ⟨fun i=>if i=(T.Y a).t.toNat then hdN (T.N (T.Y a).t.toNat) (T.Y a) else T.N i,T.m-1+hdM (T.N (T.Y a).t.toNat) (T.Y a),wyS (T.m-1) (QK a T.Y) (hdY (T.N (T.Y a).t.toNat) (T.Y a))⟩
 else ⟨T.N,T.m-1,QK a T.Y⟩
structure NsG (f:Int) (n:Nat) (zs:List Int) (T:Ns):Prop where
 t:NtP f n T.N zs T.m
 k:∀ i,i<n->∀ j,j<(T.N i).n->SlK ((T.N i).S j)
 y:∀ i,i<T.m->SyK (T.Y i)
theorem NsG.nd {f:Int} {n:Nat} {zs:List Int} {T:Ns} (h:NsG f n zs T) {i:Nat} (hi:i<n):NdP (T.N i).i (T.N i).f (T.N i).n (T.N i).S/\(T.N i).i=(i:Int)/\(T.N i).f=f/\(T.N i).n<=40:=by
 obtain⟨_,_,_,_,_,h6⟩:=h.t;have h7:=h6 i hi;exact⟨h7.2.2,h7.1,h7.2.1,h7.2.2.2.1⟩
theorem NsG.nh {f:Int} {n:Nat} {zs:List Int} {T:Ns} (h:NsG f n zs T) {i:Nat} (hi:i<n) {y:Sy} (hy:SyK y):NhB (T.N i).n (T.N i).S y:=
 ⟨by have:=(h.nd hi).2.2.2;omega,h.k i hi,hy.r,hy.m,hy.pr,hy.pb,hy.tx⟩
theorem NsG.n10 {f:Int} {n:Nat} {zs:List Int} {T:Ns} (h:NsG f n zs T):n<=10/\zs.length<=3/\T.m<=3000/\(1<=f/\f<=3):=by
 obtain⟨h1,h2,h3,_,h5,_⟩:=h.t;exact⟨by omega,by omega,h5,h1⟩
theorem jOi {id f:Int} {n:Nat} {S:Nat->Sl} {y:Sy} (h:NdP id f n S) (hr:y.r.size<=1048576) {i:Nat} (hi:i<nhM id f n S y):SyK (nhY id f n S y i):=by
 have hs:=jP9 h hi;have hp:(nhY id f n S y i).p=⟨Ap,0,0,0,Ap,0,fun _=>Ap⟩:=by
  cases eb:nhB id f n S y with
  | false=>simp only[nhM,eb] at hi;exact Bo hi (by simp)
  | true=>simp only[nhY,eb,C0];rw[jGa];rfl
 refine⟨by rw[hs.2.1];exact hr,?_,?_,?_,?_⟩ <;> rw[hp]
 .simp
 .simp
 .simp
 .intro j hj;exact Bo hj (Bk j)
theorem jOj {id f:Int} {n:Nat} {S:Nat->Sl} {y:Sy} (h:NdP id f n S):nhM id f n S y<=10:=by
 have hf:=ZG h.1;have hn:=vM hf;cases eb:nhB id f n S y with
 | false=>simp only[nhM,eb];simp
 | true=>
  have eM:nhM id f n S y=hvM id f (slF S y.r n) (plN S y.r n) y:=by simp only[nhM,eb,C0]
  rw[eM];unfold hvM;split <;> split <;> omega
theorem jHa {m:Nat} {Y Z:Nat->Sy} {i:Nat} (h:i<m):wyS m Y Z i=Y i:=A6 h
theorem jG9 {m:Nat} {Y Z:Nat->Sy} {i:Nat} (h:¬ i<m):wyS m Y Z i=Z (i-m):=A5 h
theorem jCd {m k:Nat} {Y Z:Nat->Sy} (h1:∀ i,i<m->SyK (Y i)) (h2:∀ i,i<k->SyK (Z i)):∀ i,i<m+k->SyK (wyS m Y Z i):=fun i hi=>by
 by_cases e:i<m
 .rw[jHa e];exact h1 i e
 .rw[jG9 e];exact h2 _ (by omega)
theorem jLl {m a:Nat} {Y:Nat->Sy} (h1:∀ i,i<m->SyK (Y i)) (ha:a<m):∀ i,i<m-1->SyK (QK a Y i):=fun i hi=>by
 unfold QK;split
 .exact h1 i (by omega)
 .exact h1 _ (by omega)
theorem jRq {f:Int} {n:Nat} {zs:List Int} {T:Ns} (h:NsG f n zs T) {a:Nat} (ha:a<T.m) (hm:(hrT n zs T a).m<=3000):NsG f n zs (hrT n zs T a):=by
 obtain⟨h1,h2,h3,h4,h5,h6⟩:=h.t;unfold hrT at hm |-;by_cases ht:ToP n zs (T.Y a).t
 .rw[A6 ht] at hm |-;have a0:(T.Y a).t.toNat<n:=by have:=ht.1;omega
  have hd:=h.nd a0;have hy:=h.y a ha;refine⟨⟨h1,h2,h3,h4,hm,fun i hi=>?_⟩,fun i hi j hj=>?_,jCd (jLl h.y ha) (fun i hi=>jOi hd.1 hy.r hi)⟩
  .show (if i=_ then hdN _ _ else T.N i).i=(i:Int)/\(if i=_ then hdN _ _ else T.N i).f=f/\NdP (if i=_ then hdN _ _ else T.N i).i (if i=_ then hdN _ _ else T.N i).f (if i=_ then hdN _ _ else T.N i).n (if i=_ then hdN _ _ else T.N i).S;by_cases e:i=(T.Y a).t.toNat
   .rw[A6 e];subst e;exact⟨hd.2.1,hd.2.2.1,jS6 hd.1⟩
   .rw[A5 e];exact h6 i hi
  .change j<(if i=_ then hdN _ _ else T.N i).n at hj
   show SlK ((if i=_ then hdN _ _ else T.N i).S j);by_cases e:i=(T.Y a).t.toNat
   .rw[A6 e] at hj |-;exact jR1 (h.nh a0 hy) j hj
   .rw[A5 e] at hj |-;exact h.k i hi j hj
 .rw[A5 ht] at hm |-;exact⟨⟨h1,h2,h3,h4,by show T.m-1<=3000;omega,h6⟩,h.k,jLl h.y ha⟩
structure Op9 where
 k:Int
 a:Int
 y:Sy
 s:BA
structure OpK (o:Op9):Prop where
 y:SyK o.y
 s:o.s.size<=1048576
def OpP (f:Int) (n:Nat) (zs:List Int) (T:Ns) (o:Op9):Prop:=
 (o.k=0/\(0<=o.a/\o.a<T.m)/\(hrT n zs T o.a.toNat).m<=3000)\/(o.k=1/\(0<=o.a/\o.a<T.m)/\T.m<3000)\/(o.k=2/\o.y.f∈zs/\(0<=o.y.t/\o.y.t<n)/\T.m<3000)\/(o.k=3/\brB o.s f=Aw/\T.m+brN o.s f<=3000)
noncomputable def opB (f:Int) (n:Nat) (zs:List Int) (T:Ns) (o:Op9):Bool:=@decide (OpP f n zs T o) (Classical.propDecidable _)
theorem jKe {f:Int} {n:Nat} {zs:List Int} {T:Ns} {o:Op9} (h:OpP f n zs T o):opB f n zs T o=Aw:=by unfold opB;exact @Bf _ (Classical.propDecidable _) h
theorem jGh {f:Int} {n:Nat} {zs:List Int} {T:Ns} {o:Op9} (h:¬ OpP f n zs T o):opB f n zs T o=Av:=by unfold opB;exact @Bg _ (Classical.propDecidable _) h
theorem jOn {f:Int} {n:Nat} {zs:List Int} {T:Ns} {o:Op9} (h:opB f n zs T o=Aw):OpP f n zs T o:=by
 rcases G5 (OpP f n zs T o) with k|k
 .exact k
 .rw[jGh k] at h;cases h
noncomputable def nxT (f:Int) (n:Nat) (zs:List Int) (T:Ns) (o:Op9):Ns:=
 if o.k=0 then hrT n zs T o.a.toNat
 else if o.k=1 then ⟨T.N,T.m+1,wyS T.m T.Y (fun _=>T.Y o.a.toNat)⟩
 else if o.k=2 then ⟨T.N,T.m+1,wyS T.m T.Y (fun _=>o.y)⟩
 else ⟨T.N,T.m+brN o.s f,wyS T.m T.Y (brS o.s f)⟩
noncomputable def opT (f:Int) (n:Nat) (zs:List Int) (T:Ns) (o:Op9):Ns:=if opB f n zs T o then nxT f n zs T o else T
theorem jCu {s:BA} {f:Int}:(∀ i,i<brN s f->SyK (brS s f i))/\brN s f<=10:=by
 unfold brN;cases e:brB s f with
 | false=>exact⟨fun i hi=>Bo hi (Bk i),by simp⟩
 | true=>
  have hf:=jSx e;have hn:=vM hf;refine⟨fun i hi=>?_,by rw[A6 rfl];omega⟩;rw[A6 rfl] at hi;have:=jL8 e (i:=i) (by omega) (fun _=>slR Ap)
  exact⟨this.r,this.pr,this.pb,this.m,this.ps⟩
theorem jR2 {f:Int} {n:Nat} {zs:List Int} {T:Ns} {o:Op9} (h:NsG f n zs T) (ho:OpK o) (hp:OpP f n zs T o):NsG f n zs (nxT f n zs T o):=by
 obtain⟨h1,h2,h3,h4,h5,h6⟩:=h.t;unfold nxT;rcases hp with ⟨e,ha,hm⟩|⟨e,ha,hm⟩|⟨e,ha,hb,hm⟩|⟨e,hb,hm⟩
 .rw[A6 e];exact jRq h (by omega) hm
 .rw[A5 (by omega),A6 e];exact⟨⟨h1,h2,h3,h4,by show T.m+1<=3000;omega,h6⟩,h.k,jCd h.y (fun _ _=>h.y _ (by omega))⟩
 .rw[A5 (by omega),A5 (by omega),A6 e];exact⟨⟨h1,h2,h3,h4,by show T.m+1<=3000;omega,h6⟩,h.k,jCd h.y (fun _ _=>ho.y)⟩
 .rw[A5 (by omega),A5 (by omega),A5 (by omega)];exact⟨⟨h1,h2,h3,h4,hm,h6⟩,h.k,jCd h.y jCu.1⟩
theorem jOo {f:Int} {n:Nat} {zs:List Int} {T:Ns} {o:Op9} (h:NsG f n zs T) (ho:OpK o):NsG f n zs (opT f n zs T o):=by
 unfold opT;cases e:opB f n zs T o with
 | false=>exact h
 | true=>exact jR2 h ho (jOn e)
end Go.Proofs.YtcaejlalnjnifaaGreat
