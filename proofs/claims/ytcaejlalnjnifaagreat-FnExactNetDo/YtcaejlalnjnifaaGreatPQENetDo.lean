/- For every input: the function NetDo of the program answers as its model does, whatever its net and its op are; it leaves both as they were, and its answer owns its memory. No condition. Written by mkend.py. -/
import Derived.Test.YtcaejlalnjnifaaGreatP55
set_option maxHeartbeats 8000000
set_option maxRecDepth 2000
open Go.Value renaming slice->V,pointer->Af,string->Ag,tuple->Ah,agg->Ai,int->Ao,oneCell'->Aq
open Option renaming none->I,some->M
open Go.RowKit renaming Hid->H,Below->Ab
open Go.Addr renaming mk->Q
open Go renaming undef->O,World->Ad,Value->Aj,Calls->Ak
open Go.Obj renaming cells->J
open Go.Ending renaming returned->Ae
open ByteArray renaming empty->Ap
open Go.IntKind renaming i64->Ar
open Bool renaming false->Av,true->Aw
open Go.Proofs.Tryz
namespace Go.Proofs.YtcaejlalnjnifaaGreat
set_option maxRecDepth 2000
open Go.ChangeShapes Go.WideShapes Go.ChangeAt Go.RowKit
structure NdF (w4:Ad) (X P bg G:Nat) (f:Int) (n m mm:Nat) (zs:List Int) (o:Op9) (g1 g2 g3 gO h1 k1:Nat) (b2:OA) (k2:Nat) (b3:OA) (k3:Nat) (NQ:Nat->Nd) (ZQ:List Int) (YQ:Nat->Sy) (W:Ad):Prop where
 bw:Ab w4 w4 W
 rx:Row W X 48 #[f,V g1 n n,V g2 zs.length zs.length,V g3 m m]
 rp:Row W P 50 (opC o (V gO o.y.p.m o.y.p.m))
 rg:Row W G 48 #[f,V h1 n k1,V b2 zs.length k2,V b3 mm k3]
 og:∃ F1 F2 F3:Nat->Prop,NtQ W bg n NQ ZQ mm YQ (V h1 n k1) (V b2 zs.length k2) (V b3 mm k3) F1 F2 F3/\∀ x,F1 x\/F2 x\/F3 x->bg<=x/\x<G
section
variable {w4 W W':World} {X P bg G:Nat} {f:Int} {n m mm:Nat} {zs:List Int} {o:Op9} {g1 g2 g3 gO h1 k1:Nat} {b2:Option Addr} {k2:Nat} {b3:Option Addr} {k3:Nat} {NQ NS:Nat->Nd} {ZQ ZS:List Int} {YQ YS:Nat->Sy}
theorem NdF.below (h:NdF w4 X P bg G f n m mm zs o g1 g2 g3 gO h1 k1 b2 k2 b3 k3 NQ ZQ YQ W) (hb:Ab W W W'):NdF w4 X P bg G f n m mm zs o g1 g2 g3 gO h1 k1 b2 k2 b3 k3 NQ ZQ YQ W':=by
 obtain⟨F1,F2,F3,q,hl⟩:=h.og;exact⟨jA h.bw hb,h.rx.below hb h.rx.lt,h.rp.below hb h.rp.lt,h.rg.below hb h.rg.lt,F1,F2,F3,q.below hb,hl⟩
theorem NdF.turnX {F:Nat->Prop} (h:NdF w4 X P bg G f n m mm zs o g1 g2 g3 gO h1 k1 b2 k2 b3 k3 NQ ZQ YQ W) (ht:Trn W W' F) (hF:∀ g,F g->w4.1.size<=g/\g<bg/\g≠X/\g≠P) (hG:bg<=G):NdF w4 X P bg G f n m mm zs o g1 g2 g3 gO h1 k1 b2 k2 b3 k3 NQ ZQ YQ W':=by
 obtain⟨F1,F2,F3,q,hl⟩:=h.og;refine⟨h.bw.trans (ht.below (fun g k=>(hF g k).1) h.bw.size),(ht.block X h.rx.lt (fun k=>(hF X k).2.2.1 rfl)).trans h.rx,(ht.block P h.rp.lt (fun k=>(hF P k).2.2.2 rfl)).trans h.rp,(ht.block G h.rg.lt (fun k=>by have:=(hF G k).2.1;omega)).trans h.rg,F1,F2,F3,q.turn ht.size (fun x hx=>ht.block x (q.f x hx).2 (fun k=>?_)),hl⟩;have h1:=hl x hx;have h2:=(hF x k).2.1;omega
theorem NdF.turnG {F1 F2 F3:Nat->Prop} (h:NdF w4 X P bg G f n m mm zs o g1 g2 g3 gO h1 k1 b2 k2 b3 k3 NQ ZQ YQ W) (ht:Trn W W' (fun x=>F1 x\/F2 x\/F3 x)) (hF:∀ x,F1 x\/F2 x\/F3 x->bg<=x/\x<G) (q:NtQ W' bg n NS ZS mm YS (V h1 n k1) (V b2 zs.length k2) (V b3 mm k3) F1 F2 F3) (hb:w4.1.size<=bg) (hX:X<bg) (hP:P<bg):NdF w4 X P bg G f n m mm zs o g1 g2 g3 gO h1 k1 b2 k2 b3 k3 NS ZS YS W':=
 ⟨h.bw.trans (ht.below (fun g k=>by have:=hF g k;omega) h.bw.size),(ht.block X h.rx.lt (fun k=>by have:=hF X k;omega)).trans h.rx,(ht.block P h.rp.lt (fun k=>by have:=hF P k;omega)).trans h.rp,(ht.block G h.rg.lt (fun k=>by have:=hF G k;omega)).trans h.rg,F1,F2,F3,q,hF⟩
end
theorem walk_FnExactNetDo (f:Int) (a:OA) (n c:Nat) (l:OA) (zs:List Int) (d:Nat) (e:OA) (m g:Nat) (N:Nat->Nd) (Y:Nat->Sy) (o:Op9) (a9:OA) (c9:Nat) (w:Ad) (w0:jNp w a n c l zs e m g N Y) (w1:jK w a9 o.y.p.m o.y.p.S/\jR4 o):CB 5 #[Ai #[f,V a n c,V l zs.length d,V e m g],Ai (opC o (V a9 o.y.p.m c9))] w Aw:=by
 have hT:=w0;obtain⟨h9,f7⟩:=w1;clear w0;have KA:Hid (∀ W,Ab w w W->jNp W a n c l zs e m g N Y):=fun W hW=>⟨hT.rn.below hW,hT.rl.below hW,hT.ry.below hW,hT.hn,hT.hl,hT.hm,hT.bn,hT.by'⟩
 have m5:Hid (∀ W,Ab w w W->jK W a9 o.y.p.m o.y.p.S):=fun W hW=>h9.below hW
 obtain⟨B1,p3⟩:=nmH w.1.size;obtain⟨B2,s3⟩:=nmH (w.1.size+1);obtain⟨w0,f1⟩:=nmH ((w.alloc (J #[f,V a n c,V l zs.length d,V e m g] 63)).alloc (J (opC o (V a9 o.y.p.m c9)) 68));have p1:=zP f1 p3;have z2:=JO f1 s3;have j7:=bl2 f1;have x3:=hd j7;have KZ:=hd (jNc f a n c l zs d e m g N Y 1048576 w0 (KA _ j7) (by omega));clear j7 hT h9;by_cases h0:wtT n N zs m Y<=1048576
 case neg=>
  rw[qD h0] at KZ;clear h0;go_enter func5,ntmps5
  go_upto_region 2 with fail
  rw[<-f1.out,<-s3.out,<-p3.out];go_wp2_with (refine Bg rfl 63 _ rfl B1 rfl 63 #[f,V a n c,V l zs.length d,V e m g] (0,0) _ ?_ Eh rfl Tryz.infoNtL2 ?_;exact p1)
  refine Ax KZ.out ?_;rintro e' w1 ⟨rfl,b1⟩;go_wp2
  go_ret
  exact⟨rfl,jA x3 b1⟩
 obtain⟨j0,v1⟩:∃ q,1048576-wtT n N zs m Y=q:=⟨_,rfl⟩;rw[qF h0,v1] at KZ;have r9:¬ ((j0:Int)<0):=by omega
 have f4:Hid (∀ W,Ab w w W->CB 27 #[Ai (opC o (V a9 o.y.p.m c9)),(j0:Int)] W (szN j0 (wtO o))):=fun W hW=>jNd o a9 c9 j0 W (m5 _ hW) f7 (by omega)
 by_cases h1:wtO o<=j0
 case neg=>
  rw[qD h1] at f4;clear h0 h1 v1 f7;go_enter func5,ntmps5
  go_upto_region 2 with fail
  rw[<-f1.out,<-s3.out,<-p3.out];go_wp2_with (refine Bg rfl 63 _ rfl B1 rfl 63 #[f,V a n c,V l zs.length d,V e m g] (0,0) _ ?_ Eh rfl Tryz.infoNtL2 ?_;exact p1)
  refine Ax KZ.out ?_;rintro e' w1 ⟨rfl,b1⟩;have f3:=hd (z2.below b1 z2.lt);have i3:=hd (jA x3 b1);clear b1 KZ p1 z2 f1 x3;go_upto_region 5 with fail
  go_wp2_with (refine Bg rfl 68 _ rfl B2 rfl 68 (opC o (V a9 o.y.p.m c9)) (0,0) _ ?_ E5 rfl Tryz.infoOpL ?_;exact f3)
  refine Ax (f4 _ i3) ?_;rintro e' w2 ⟨rfl,b2⟩;go_wp2
  go_ret
  exact⟨rfl,jA i3 b2⟩
 obtain⟨n0,v2⟩:∃ q,j0-wtO o=q:=⟨_,rfl⟩;rw[qF h1,v2] at f4;have s9:¬ ((n0:Int)<0):=by omega
 obtain⟨hQ,hW⟩:=jBe h0;have i7:=jGx h0;have hO:OpK o:=jSs (by omega);have h7:∀ i,i<n->(N i).n<=1048576/\∀ j,j<(N i).n->SlK ((N i).S j):=fun i hi=>⟨(hQ i hi).n,(hQ i hi).k⟩
 have s0:=jSe (f:=f) h0 hO;obtain⟨NW,a5⟩:=nnH ((doT f n zs ⟨N,m,Y⟩ o).N);obtain⟨mm,z4⟩:=nnH ((doT f n zs ⟨N,m,Y⟩ o).m);obtain⟨YW,k5⟩:=nnH ((doT f n zs ⟨N,m,Y⟩ o).Y);obtain⟨ob,p6⟩:=nnH (doB f n zs ⟨N,m,Y⟩ o);rw[a5.out,z4.out,k5.out] at s0;obtain⟨mx,o6⟩:=nnH (mq3 n N zs m Y);obtain⟨mp,k8⟩:=nnH (mx+o.y.p.m);obtain⟨mq,n6⟩:=nnH (mq3 n NW zs mm YW);have an:mx<=400000000:=by rw[<-o6.out];exact hW.kq
 have s5:o.y.p.m<=1048576:=hO.y.m;have o5:Hid (∀ W,jNp W a n c l zs e m g N Y->Ak prog 28 #[Ai #[f,V a n c,V l zs.length d,V e m g]] W fun r w'=>∃ g1 g2 g3,r=Ae (ntV f (V (Q g1 0 I) n n) (V (Q g2 0 I) zs.length zs.length) (V (Q g3 0 I) m m))/\(∃ F1 F2 F3,NtO w' W.1.size n N zs m Y (V (Q g1 0 I) n n) (V (Q g2 0 I) zs.length zs.length) (V (Q g3 0 I) m m) F1 F2 F3/\∀ x,F1 x\/F2 x\/F3 x->W.1.size<=x/\x<w'.1.size)/\Ab W.1.size W w'):=fun W s0=>by
  refine(jNi f a n c l zs d e m g N Y W s0 hW.kn hW.kN hW.kz hW.km hW.kY).mono ?_;rintro r w' ⟨g1,g2,g3,rfl,F1,F2,F3,o1,o2,o3,d1,d2,d3,bb⟩;obtain⟨G1,G2,G3,q,hd⟩:=NtO.cut (⟨o1,o2,o3,d1,d2,d3⟩:NtO w' W.1.size n N zs m Y _ _ _ F1 F2 F3);exact⟨g1,g2,g3,rfl,⟨G1,G2,G3,q,hd⟩,bb⟩
 have p5:Hid (∀ W,jK W a9 o.y.p.m o.y.p.S->Ak prog 29 #[Ai (opC o (V a9 o.y.p.m c9))] W fun r w'=>∃ g,r=Ae (opV o (V (Q g 0 I) o.y.p.m o.y.p.m))/\Ow w' W.1.size (txD o.y.p.m o.y.p.S) (V (Q g 0 I) o.y.p.m o.y.p.m) (fun x=>x=g)/\W.1.size<=g/\g<w'.1.size/\Ab W.1.size W w'):=fun W h=>jNj o a9 c9 W h s5
 have aj:Hid (∀ g1 g2 g3 g9 W,Rd W (qS n N) (V (Q g1 0 I) n n)/\jH W (Q g2 0 I) zs.length zs/\Rd W (qJ m Y) (V (Q g3 0 I) m m)->jK W (Q g9 0 I) o.y.p.m o.y.p.S->Ak prog 19 #[ntV f (V (Q g1 0 I) n n) (V (Q g2 0 I) zs.length zs.length) (V (Q g3 0 I) m m),opV o (V (Q g9 0 I) o.y.p.m o.y.p.m)] W fun r w'=>∃ uA a0 uB c0 uC b0,r=Ae (Ah #[ntV f (V uA n a0) (V uB zs.length c0) (V uC mm b0),ob])/\NtR w' (fun b=>b<W.1.size) n NW zs mm YW (V uA n a0) (V uB zs.length c0) (V uC mm b0)/\Ab W.1.size W w'):=fun g1 g2 g3 g9 W h k=>by
  have:=jHx f (Q g1 0 I) n n (Q g2 0 I) zs zs.length (Q g3 0 I) m m N Y o (Q g9 0 I) o.y.p.m W h.1 h.2.1 h.2.2 hW.kn hW.kz hW.km h7 i7 k hO
  rw[a5.out,z4.out,k5.out,p6.out] at this;refine this.mono ?_;rintro r w' ⟨j1,c1,j2,c2,j3,c3,rfl,q,bb⟩;exact⟨_,_,_,_,_,_,rfl,q.rf,bb⟩
 have t8:Hid (∀ g1 g2 g3 g9 W,Rd W (qS n N) (V (Q g1 0 I) n n)/\jH W (Q g2 0 I) zs.length zs/\Rd W (qJ m Y) (V (Q g3 0 I) m m)->jK W (Q g9 0 I) o.y.p.m o.y.p.S->Ak prog 18 #[ntV f (V (Q g1 0 I) n n) (V (Q g2 0 I) zs.length zs.length) (V (Q g3 0 I) m m),opV o (V (Q g9 0 I) o.y.p.m o.y.p.m)] W fun r w'=>∃ h1 k1 b2 k2 b3 k3,r=Ae (Ah #[ntV f (V (Q h1 0 I) n k1) (V b2 zs.length k2) (V b3 mm k3),ob])/\(∃ F1 F2 F3,NtQ w' W.1.size n NW zs mm YW (V (Q h1 0 I) n k1) (V b2 zs.length k2) (V b3 mm k3) F1 F2 F3)/\Ab W.1.size W w'):=fun g1 g2 g3 g9 W h k=>by
  have:=jJw f (Q g1 0 I) n n (Q g2 0 I) zs zs.length (Q g3 0 I) m m N Y o (Q g9 0 I) o.y.p.m W h.1 h.2.1 h.2.2 hW.kn hW.kz hW.km h7 i7 k hO
  unfold NtA at this;rw[a5.out,z4.out,k5.out,p6.out] at this;refine this.mono ?_;rintro r w' ⟨v,rfl,j1,c1,a2,c2,a3,c3,F1,F2,F3,rfl,q,bb⟩;exact⟨_,_,_,_,_,_,rfl,⟨F1,F2,F3,q⟩,bb⟩
 have ac:Hid (∀ g1 g2 g3 g9 W,Rd W (qS n N) (V (Q g1 0 I) n n)/\jH W (Q g2 0 I) zs.length zs/\Rd W (qJ m Y) (V (Q g3 0 I) m m)->jK W (Q g9 0 I) o.y.p.m o.y.p.S->Ak prog 18 #[ntV f (V (Q g1 0 I) n n) (V (Q g2 0 I) zs.length zs.length) (V (Q g3 0 I) m m),opV o (V (Q g9 0 I) o.y.p.m o.y.p.m)] W fun r w'=>∃ uA a0 uB c0 uC b0,r=Ae (Ah #[ntV f (V uA n a0) (V uB zs.length c0) (V uC mm b0),ob])/\NtR w' (fun b=>b<W.1.size) n NW zs mm YW (V uA n a0) (V uB zs.length c0) (V uC mm b0)/\Ab W.1.size W w'):=fun g1 g2 g3 g9 W h k=>by
  refine(t8 g1 g2 g3 g9 W h k).mono ?_;rintro r w' ⟨j1,c1,b2,c2,b3,c3,rfl,⟨F1,F2,F3,q⟩,bb⟩;exact⟨_,_,_,_,_,_,rfl,q.rf,bb⟩
 have z9:Hid (∀ a1 c1 a2 c2 a3 c3 b1 k1 b2 k2 b3 k3 W,(Rd W (qS n N) (V a1 n c1)/\jH W a2 zs.length zs/\Rd W (qJ m Y) (V a3 m c3))->(Rd W (qS n N) (V b1 n k1)/\jH W b2 zs.length zs/\Rd W (qJ m Y) (V b3 m k3))->CB 30 #[ntV f (V a1 n c1) (V a2 zs.length c2) (V a3 m c3),ntV f (V b1 n k1) (V b2 zs.length k2) (V b3 m k3)] W Aw):=fun a1 c1 a2 c2 a3 c3 b1 k1 b2 k2 b3 k3 W h1 h2=>jCv f a1 b1 n c1 k1 a2 b2 zs c2 k2 a3 b3 m c3 k3 N Y W h1.1 h2.1 h1.2.1 h2.2.1 h1.2.2 h2.2.2 hW.kn hW.kN hW.kz hW.km hW.kY
 have r8:Hid (∀ a1 c1 a2 c2 a3 c3 b1 k1 b2 k2 b3 k3 W,(Rd W (qS n NW) (V a1 n c1)/\jH W a2 zs.length zs/\Rd W (qJ mm YW) (V a3 mm c3))->(Rd W (qS n NW) (V b1 n k1)/\jH W b2 zs.length zs/\Rd W (qJ mm YW) (V b3 mm k3))->CB 30 #[ntV f (V a1 n c1) (V a2 zs.length c2) (V a3 mm c3),ntV f (V b1 n k1) (V b2 zs.length k2) (V b3 mm k3)] W Aw):=fun a1 c1 a2 c2 a3 c3 b1 k1 b2 k2 b3 k3 W h1 h2=>jCv f a1 b1 n c1 k1 a2 b2 zs c2 k2 a3 b3 mm c3 k3 NW YW W h1.1 h2.1 h1.2.1 h2.2.1 h1.2.2 h2.2.2 s0.kn s0.kN s0.kz s0.km s0.kY
 have x9:Hid (∀ a1 c1 a2 c2 W,jK W a1 o.y.p.m o.y.p.S->jK W a2 o.y.p.m o.y.p.S->CB 31 #[opV o (V a1 o.y.p.m c1),opV o (V a2 o.y.p.m c2)] W Aw):=fun a1 c1 a2 c2 W h1 h2=>jIy o a1 a2 c1 c2 W h1 h2 s5
 have ag:Hid (∀ B a1 c1 a2 c2 a3 c3 F1 F2 F3 W,NtO W B n N zs m Y (V a1 n c1) (V a2 zs.length c2) (V a3 m c3) F1 F2 F3->Ak prog 32 #[ntV f (V a1 n c1) (V a2 zs.length c2) (V a3 m c3),(1:Int)] W fun r w'=>r=Ae (mx:Int)/\Trn W w' (fun x=>F1 x\/F2 x\/F3 x)):=fun B a1 c1 a2 c2 a3 c3 F1 F2 F3 W h=>by
  have:=jHj f B n N zs m Y a1 a2 a3 c1 c2 c3 F1 F2 F3 W h hW
  rw[o6.out] at this;exact this.mono fun r w' k=>⟨k.1,k.2.2⟩
 have af:Hid (∀ B v F W,Ow W B (txD o.y.p.m o.y.p.S) v F->Ak prog 33 #[opV o v,(mx:Int)] W fun r w'=>r=Ae (mp:Int)/\Trn W w' F):=fun B v F W h=>jEs o B v mx mp F W h s5 (by omega) k8.out
 have ae:Hid (∀ B a1 c1 a2 c2 a3 c3 F1 F2 F3 W,NtQ W B n NW zs mm YW (V a1 n c1) (V a2 zs.length c2) (V a3 mm c3) F1 F2 F3->Ak prog 32 #[ntV f (V a1 n c1) (V a2 zs.length c2) (V a3 mm c3),(1:Int)] W fun r w'=>r=Ae (mq:Int)/\NtQ w' B n (XQ 1 NW) (jV (mq1 n NW) zs.length) mm (zF (mq2 n NW zs) YW) (V a1 n c1) (V a2 zs.length c2) (V a3 mm c3) F1 F2 F3/\Trn W w' (fun x=>F1 x\/F2 x\/F3 x)):=fun B a1 c1 a2 c2 a3 c3 F1 F2 F3 W h=>by
  have:=jEr f B n NW zs mm YW a1 a2 a3 c1 c2 c3 F1 F2 F3 W h s0
  rw[n6.out] at this;exact this
 have aa:Hid (∀ a1 c1 a2 c2 a3 c3 W,Rd W (qS n (XQ 1 NW)) (V a1 n c1)->jH W a2 zs.length (jV (mq1 n NW) zs.length)->Rd W (qJ mm (zF (mq2 n NW zs) YW)) (V a3 mm c3)->CB 34 #[ntV f (V a1 n c1) (V a2 zs.length c2) (V a3 mm c3),(1:Int)] W (mq:Int)):=fun a1 c1 a2 c2 a3 c3 W k1 k2 k3=>by
  have:=jHf f n NW zs mm YW a1 a2 a3 c1 c2 c3 W k1 k2 k3 ⟨s0.kn,s0.kN,s0.kz,s0.km,s0.kY,s0.kq⟩
  rw[n6.out] at this;exact this
 have np:¬ ((mp:Int)<0):=by omega
 have nq:¬ ((mq:Int)<0):=by omega
 have ar:((mq:Int) !=(mq:Int))=Av:=by simp
 have aq:(ob !=ob)=Av:=by cases ob <;> rfl
 clear h0 h1 v1 v2 hQ hW i7 s0 o6 k8 n6 f7 hO h7 a5 z4 k5 p6 an s5;go_enter func5,ntmps5
 go_upto_region 2 with fail
 rw[<-f1.out,<-s3.out,<-p3.out];go_wp2_with (refine Bg rfl 63 _ rfl B1 rfl 63 #[f,V a n c,V l zs.length d,V e m g] (0,0) _ ?_ Eh rfl Tryz.infoNtL2 ?_;exact p1)
 refine Ax KZ.out ?_;rintro e' w1 ⟨rfl,b1⟩;have t6:=hd (p1.below b1 p1.lt);have f3:=hd (z2.below b1 z2.lt);have i3:=hd (jA x3 b1);clear b1 KZ p1 z2 f1 x3 p3 s3;go_upto_region 5 with fail
 go_wp2_with (refine Bg rfl 68 _ rfl B2 rfl 68 (opC o (V a9 o.y.p.m c9)) (0,0) _ ?_ E5 rfl Tryz.infoOpL ?_;exact f3)
 refine Ax (f4 _ i3) ?_;rintro e' w2 ⟨rfl,b2⟩;have w3:=hd (t6.below b2 t6.lt);have v3:=hd (f3.below b2 f3.lt);have n5:=hd (jA i3 b2);clear b2 t6 f3 i3 f4 r9;go_upto_region 8 with fail
 clear s9;go_cut [6,7] from 27 to 34 (fun v6 v7 wx=>Hid (∃ E uA a0 uB c0 uC b0,v6=Af (Q E 0 I)/\v7=.bool ob/\Row wx E 48 #[f,V uA n a0,V uB zs.length c0,V uC mm b0]/\NtR wx (fun _=>False) n NW zs mm YW (V uA n a0) (V uB zs.length c0) (V uC mm b0)/\Ab w2 w2 wx))
 case first=>
  refine JE Tryz.mixed 11 [([],[0,1,4,9]),([0],[1,4,5,6,7,9,10]),([],[2,3,4,9]),([2],[3,4,5,6,7,9,10]),([1,3],[4,5,6,7,9,10]),([1,3,4],[9]),([1,3,4,5],[9]),([1,3,4,5],[]),([],[8,9]),([1,3,4,6,8],[9]),([1,3,4,7],[])] (by kernel_rfl) (fun L A9 W=>∃ (x6:Nat) (gA:Nat) (gB:Nat) (gC:Nat) (gQ:Nat) (uA:OA) (a0:Nat) (uB:OA) (c0:Nat) (uC:OA) (b0:Nat),A9=⟨(List.toArray (α:=Aj) ((Ai #[f,V a n c,V l zs.length d,V e m g])::(Ai (opC o (V a9 o.y.p.m c9)))::(Af B1)::(Af B2)::(Av)::((n0:Int))::(cX (L 8) (Af x6) O)::(cX (L 10) ob O)::O::O::O::O::O::O::O::O::O::(Ai #[f,V a n c,V l zs.length d,V e m g])::((1048576:Int))::((j0:Int))::((j0:Int))::((decide ((j0:Int)<0)))::(Ai (opC o (V a9 o.y.p.m c9)))::((j0:Int))::((n0:Int))::((n0:Int))::((decide ((n0:Int)<0)))::(cX (L 5) (Ah #[Ai #[f,V uA n a0,V uB zs.length c0,V uC mm b0],ob]) O)::(cX (L 0) (Ai #[f,V a n c,V l zs.length d,V e m g]) O)::(cX (L 1) (Ai #[f,V gA n n,V gB zs.length zs.length,V gC m m]) O)::(cX (L 2) (Ai (opC o (V a9 o.y.p.m c9))) O)::(cX (L 3) (Ai (opC o (V gQ o.y.p.m o.y.p.m))) O)::(cX (L 4) (Ah #[Ai #[f,V uA n a0,V uB zs.length c0,V uC mm b0],ob]) O)::(cX (L 6) (Ai #[f,V uA n a0,V uB zs.length c0,V uC mm b0]) O)::(cX (L 7) ob O)::O::O::O::O::O::O::O::O::O::O::O::O::O::O::O::O::O::O::O::O::O::O::O::O::O::O::O::O::O::O::O::O::O::O::O::O::O::O::O::O::O::O::O::O::O::O::O::O::O::O::O::O::O::O::O::O::O::O::O::O::O::O::O::O::O::O::O::O::O::O::O::O::O::O::O::O::O::O::O::O::O::O::O::O::[])),[]⟩/\(Ab w2 w2 W)/\(L 1=Aw->L 4=Av->Rd W (qS n N) (V gA n n)/\jH W gB zs.length zs/\Rd W (qJ m Y) (V gC m m))/\(L 3=Aw->L 4=Av->jK W gQ o.y.p.m o.y.p.S)/\(L 8=Aw->L 9=Av->Row W x6 48 #[(),V I 0 0,V I 0 0,V I 0 0]/\w2.1.size<=x6)/\(L 9=Aw->Row W x6 48 #[f,V uA n a0,V uB zs.length c0,V uC mm b0])/\(L 4=Aw->NtR W (fun b=>L 8=Aw/\b=x6) n NW zs mm YW (V uA n a0) (V uB zs.length c0) (V uC mm b0))) ?_ ?_ ?_
  .exact⟨0,0,0,0,0,I,0,I,0,I,0,rfl,jD _,(fun h=>by cases h),(fun h=>by cases h),(fun h=>by cases h),(fun h=>by cases h),(fun h=>by cases h)⟩
  .rintro a9 wx ⟨x6,gA,gB,gC,gQ,uA,a0,uB,c0,uC,b0,j4,k7,-,-,-,t1,u1⟩;simp only[Nat.reduceLT,Dn,jJ] at j4;subst j4;replace t1:=(t1 rfl)
   replace u1:NtR wx (fun _=>False) n NW zs mm YW (V uA n a0) (V uB zs.length c0) (V uC mm b0):=(u1 rfl).mono (fun _ k=>k.elim)
   go_wp2_with fail
   go_meet
   exact⟨x6,uA,a0,uB,c0,uC,b0,rfl,rfl,t1,u1,k7⟩
  .intro q9 l7 L a9 W S o0;match q9,l7 with
   | 5,_|6,_|7,_|10,_=>
    obtain⟨x6,gA,gB,gC,gQ,uA,a0,uB,c0,uC,b0,rfl,hf⟩:=o0;simp only[knT,kn,knN] at S;refine jB rfl (fun _=>rfl) fun K hK=>?_
    simp only[S,jJ];go_simp
    exact hK _ _ ⟨x6,gA,gB,gC,gQ,uA,a0,uB,c0,uC,b0,(by simp only[Nat.reduceBEq,Be,Bp,jJ,S]),hf⟩
   | 0,_=>
    obtain⟨x6,gA,gB,gC,gQ,uA,a0,uB,c0,uC,b0,rfl,h0,h1,h2,h3,h4,h5⟩:=o0;obtain⟨e0,e1,e4,e9,-⟩:=S;refine jB rfl (fun _=>rfl) fun K hK=>?_
    refine Ev 63 _ rfl B1 rfl 63 #[f,V a n c,V l zs.length d,V e m g] (0,0) _ (w3.below h0 w3.lt) Eh rfl Tryz.infoNtL2 ?_;exact hK _ _ ⟨x6,gA,gB,gC,gQ,uA,a0,uB,c0,uC,b0,(by simp[Act.put,jJ]),h0,(ab e1),h2,h3,(ab e9),(ab e4)⟩
   | 1,_=>
    obtain⟨x6,gA,gB,gC,gQ,uA,a0,uB,c0,uC,b0,rfl,h0,h1,h2,h3,h4,h5⟩:=o0;obtain⟨d0,e1,e4,e5,e6,e7,e9,u0,-⟩:=S;refine jB rfl (fun _=>rfl) fun K hK=>?_
    simp only[d0,jJ];go_simp
    refine Ax (o5 W (KA W (jA n5 h0))) ?_;rintro r w9 ⟨gA,gB,gC,rfl,⟨_,_,_,q9,_⟩,b9⟩;exact hK _ _ ⟨x6,gA,gB,gC,gQ,uA,a0,uB,c0,uC,b0,(by simp only[Nat.reduceBEq,Be,Bp,jJ,jCr,d0,e4,e5,e6,e7,u0]),(jA h0 b9),(fun k0 k1=>⟨q9.n.rd,qK.1 q9.z.rd,q9.y.rd⟩),(fun k0 k1=>(h2 (show L 3=Aw from k0) (show L 4=Av from k1)).below b9),(fun k0 k1=>by have q:=h3 (show L 8=Aw from k0) (show L 9=Av from k1);exact⟨q.1.below b9 q.1.lt,q.2⟩),(ab e9),(ab e4)⟩
   | 2,_=>
    obtain⟨x6,gA,gB,gC,gQ,uA,a0,uB,c0,uC,b0,rfl,h0,h1,h2,h3,h4,h5⟩:=o0;obtain⟨e2,e3,e4,e9,-⟩:=S;refine jB rfl (fun _=>rfl) fun K hK=>?_
    refine Ev 68 _ rfl B2 rfl 68 (opC o (V a9 o.y.p.m c9)) (0,0) _ (v3.below h0 v3.lt) E5 rfl Tryz.infoOpL ?_;exact hK _ _ ⟨x6,gA,gB,gC,gQ,uA,a0,uB,c0,uC,b0,(by simp[Act.put,jJ]),h0,h1,(ab e3),h3,(ab e9),(ab e4)⟩
   | 3,_=>
    obtain⟨x6,gA,gB,gC,gQ,uA,a0,uB,c0,uC,b0,rfl,h0,h1,h2,h3,h4,h5⟩:=o0;obtain⟨d2,e3,e4,e5,e6,e7,e9,u0,-⟩:=S;refine jB rfl (fun _=>rfl) fun K hK=>?_
    simp only[d2,jJ];go_simp
    refine Ax (p5 W (m5 W (jA n5 h0))) ?_;rintro r w9 ⟨gQ,rfl,q9,_,_,b9⟩;exact hK _ _ ⟨x6,gA,gB,gC,gQ,uA,a0,uB,c0,uC,b0,(by simp only[Nat.reduceBEq,Be,Bp,jJ,jCr,d2,e4,e5,e6,e7,u0]),(jA h0 b9),(fun k0 k1=>by have q:=h1 (show L 1=Aw from k0) (show L 4=Av from k1);exact⟨q.1.below b9,q.2.1.below b9,q.2.2.below b9⟩),(fun k0 k1=>zW.1 q9.rd),(fun k0 k1=>by have q:=h3 (show L 8=Aw from k0) (show L 9=Av from k1);exact⟨q.1.below b9 q.1.lt,q.2⟩),(ab e9),(ab e4)⟩
   | 4,_=>
    obtain⟨x6,gA,gB,gC,gQ,uA,a0,uB,c0,uC,b0,rfl,h0,h1,h2,h3,h4,h5⟩:=o0;obtain⟨d1,d3,e4,e5,e6,e7,e9,u0,-⟩:=S;refine jB rfl (fun _=>rfl) fun K hK=>?_
    simp only[d1,d3,jJ];go_simp
    refine Ax (aj gA gB gC gQ W (h1 d1 e4) (h2 d3 e4)) ?_;rintro r w9 ⟨yA,g8,yB,h8,yC,i8,rfl,q9,b9⟩;exact hK _ _ ⟨x6,gA,gB,gC,gQ,yA,g8,yB,h8,yC,i8,(by simp only[Nat.reduceBEq,Be,Bp,jJ,jCr,d1,d3,e5,e6,e7,u0]),(jA h0 b9),(fun _=>nf),(fun _=>nf),(fun k0 k1=>by have q:=h3 (show L 8=Aw from k0) (show L 9=Av from k1);exact⟨q.1.below b9 q.1.lt,q.2⟩),(ab e9),(fun k0=>q9.mono (fun b k=>by rw[k.2];exact(h3 k.1 e9).1.lt))⟩
   | 8,_=>
    obtain⟨x6,gA,gB,gC,gQ,uA,a0,uB,c0,uC,b0,rfl,h0,h1,h2,h3,h4,h5⟩:=o0;obtain⟨e8,e9,-⟩:=S;refine jB rfl (fun _=>rfl) fun K hK=>?_
    go_simp
    exact hK _ _ ⟨W.1.size,gA,gB,gC,gQ,uA,a0,uB,c0,uC,b0,(by simp only[Nat.reduceBEq,Be,Bp,jJ]),(h0.alloc h0.size _),(fun k0 k1=>by have q:=h1 (show L 1=Aw from k0) (show L 4=Av from k1);have b9:=(Az W.1.size W).alloc (Ay _) (J #[(),V I 0 0,V I 0 0,V I 0 0] 48);exact⟨q.1.below b9,q.2.1.below b9,q.2.2.below b9⟩),(fun k0 k1=>(h2 (show L 3=Aw from k0) (show L 4=Av from k1)).below ((Az W.1.size W).alloc (Ay _) _)),(fun k0 k1=>⟨Row.new W _ _,h0.size⟩),(ab e9),(fun k0=>((h5 (show L 4=Aw from k0)).since ((Az W.1.size W).alloc (Ay _) _)).mono (fun b k=>.inr (by have:=k.2;omega)))⟩
   | 9,_=>
    obtain⟨x6,gA,gB,gC,gQ,uA,a0,uB,c0,uC,b0,rfl,h0,h1,h2,h3,h4,h5⟩:=o0;obtain⟨d1,d3,d4,d6,d8,e9,-⟩:=S;obtain⟨r6,l6⟩:=h3 d8 e9;refine jB rfl (fun _=>rfl) fun K hK=>?_
    simp only[d8,d6,jJ];refine Gx 48 _ _ rfl x6 #[f,V uA n a0,V uB zs.length c0,V uC mm b0] rfl rfl 48 #[(),V I 0 0,V I 0 0,V I 0 0] r6 Tryz.infoNt rfl (by simp[Aq]) ?_;exact hK _ _ ⟨x6,gA,gB,gC,gQ,uA,a0,uB,c0,uC,b0,(by simp[Act.put,jJ,d8,d6]),(jG h0 l6 _),(fun _=>ba d4),(fun _=>ba d4),(fun _=>nf),(fun k0=>r6.row),(fun k0=>(h5 (show L 4=Aw from k0)).setRow ⟨d8,rfl⟩ _)⟩
   | n9+11,h=>exact Bo h (by omega)
 obtain⟨E,uA,a0,uB,c0,uC,b0,rfl,rfl,hE,hR,hb⟩:=hcut.out;obtain⟨w4,ao⟩:∃ x,x=wc:=⟨_,rfl⟩;subst ao;have d5:Row w4 B1 63 #[f,V a n c,V l zs.length d,V e m g]:=w3.below hb w3.lt;have s6:Row w4 B2 68 (opC o (V a9 o.y.p.m c9)):=v3.below hb v3.lt;have z3:=hd (jA n5 hb);have KE:Hid (∀ W,Ab w4 w4 W->Row W E 48 #[f,V uA n a0,V uB zs.length c0,V uC mm b0]/\Row W B1 63 #[f,V a n c,V l zs.length d,V e m g]/\Row W B2 68 (opC o (V a9 o.y.p.m c9))/\(Rd W (qS n NW) (V uA n a0)/\jH W uB zs.length zs/\Rd W (qJ mm YW) (V uC mm b0))/\jNp W a n c l zs e m g N Y/\jK W a9 o.y.p.m o.y.p.S):=fun W hW=>⟨hE.below hW hE.lt,d5.below hW d5.lt,s6.below hW s6.lt,⟨(hR.below hW).n.rd,qK.1 (hR.below hW).z.rd,(hR.below hW).y.rd⟩,KA _ (jA z3 hW),m5 _ (jA z3 hW)⟩
 have m8:=hd d5;have z8:Hid _:=o5 w4 (KA _ z3);clear hcut hE hR hb d5 s6 w3 v3 n5;go_wp2_with (refine Bg rfl 63 _ rfl B1 rfl 63 #[f,V a n c,V l zs.length d,V e m g] (0,0) _ ?_ Eh rfl Tryz.infoNtL2 ?_;exact m8)
 refine Ax z8.out ?_;rintro e' w5 ⟨g1,g2,g3,rfl,⟨X1,X2,X3,O5,l9⟩,b5⟩;obtain⟨X,HX⟩:=nmH w5.1.size;obtain⟨w6,f5⟩:=nmH (w5.alloc (J #[f,V (Q g1 0 I) n n,V (Q g2 0 I) zs.length zs.length,V (Q g3 0 I) m m] 48));have d7:=bl1 f5;have a4:=hd (jA b5 d7);have i5:=jZ f5 HX;have u8:=hd (O5.below d7);have m6:Hid (∀ x,X1 x\/X2 x\/X3 x->w4.1.size<=x/\x<X):=fun x hx=>by rw[HX.out];exact l9 x hx
 have l8:=hd ((KE _ a4).2.2.1);have d9:Hid _:=p5 w6 (KE _ a4).2.2.2.2.2;clear b5 d7 O5 l9 m8 z8;go_wp2_with (rw[<-f5.out,<-HX.out];refine Bg rfl 68 _ rfl B2 rfl 68 (opC o (V a9 o.y.p.m c9)) (0,0) _ ?_ E5 rfl Tryz.infoOpL ?_;exact l8)
 refine Ax d9.out ?_;rintro e' w7 ⟨gO,rfl,O7,ak,am,b7⟩;obtain⟨P,HP⟩:=nmH w7.1.size;obtain⟨w8,g5⟩:=nmH (w7.alloc (J (opC o (V gO o.y.p.m o.y.p.m)) 50));obtain⟨bg,t3⟩:=nnH w8.1.size;have s1:=bl1 g5;have r5:Ab w6 w6 w8:=jA b7 s1;have j5:=hd (i5.below r5 i5.lt);have u3:=jZ g5 HP;have n8:=hd (jA a4 r5);have b4:=hd (u8.below r5);have z6:Hid (∃ B,Ow w8 B (txD o.y.p.m o.y.p.S) (V gO o.y.p.m o.y.p.m) (fun x=>x=gO)):=⟨_,O7.below s1⟩;have x2:Hid ((∀ x,X1 x\/X2 x\/X3 x->w4.1.size<=x/\x<bg/\x≠X/\x≠P)/\(∀ x,x=gO->w4.1.size<=x/\x<bg/\x≠X/\x≠P)/\X<bg/\P<bg/\w4.1.size<=bg/\(∀ x,X1 x\/X2 x\/X3 x->¬ x=gO)):=by
  have l1:=i5.lt;have l2:=HP.out;have l3:P<bg:=by rw[<-t3.out];exact u3.lt
  have l4:=b7.size;have l5:=a4.size;refine⟨fun x k=>?_,fun x k=>?_,by omega,l3,by omega,fun x k=>?_⟩
  .have k1:=m6 x k;omega
  .have k1:x=gO:=k;omega
  .have k1:=m6 x k;omega
 have o8:Hid _:=t8 g1 g2 g3 gO w8 ⟨b4.n.rd,qK.1 b4.z.rd,b4.y.rd⟩ (by obtain⟨B,q⟩:=z6.out;exact zW.1 q.rd);clear b7 s1 r5 O7 ak am i5 a4 u8 l8 d9 m6 f5 HX;go_wp2_with (first|((try rw[<-g5.out,<-HP.out]);refine Bg rfl 48 _ rfl X rfl 48 #[f,V (M ⟨g1,0,I⟩) n n,V (M ⟨g2,0,I⟩) zs.length zs.length,V (M ⟨g3,0,I⟩) m m] (0,0) _ ?_ Bu rfl Tryz.infoNt ?_;exact j5)|(refine Bg rfl 50 _ rfl P rfl 50 (opC o (V gO o.y.p.m o.y.p.m)) (0,0) _ ?_ Fo rfl Tryz.infoOp ?_;exact u3))
 refine Ax o8.out ?_;rintro e' w9 ⟨h1,k1,b2,k2,b3,k3,rfl,⟨F1,F2,F3,O9⟩,b9⟩;obtain⟨G,HG⟩:=nmH w9.1.size;obtain⟨p0,u2⟩:=nmH (w9.alloc (J #[f,V (Q h1 0 I) n k1,V b2 zs.length k2,V b3 mm k3] 48));have i4:=bl1 u2;have x0:Ab w8 w8 p0:=jA b9 i4;have t0:Hid (NdF w4 X P bg G f n m mm zs o g1 g2 g3 gO h1 k1 b2 k2 b3 k3 NW zs YW p0):=by
  refine⟨jA n8 x0,j5.below x0 j5.lt,u3.below x0 u3.lt,by rw[u2.out,HG.out];exact Row.new w9 _ _,F1,F2,F3,?_,fun x hx=>⟨by rw[<-t3.out];exact(O9.f x hx).1,by rw[HG.out];exact(O9.f x hx).2⟩⟩;have:=O9.below i4
  rw[t3.out] at this;exact this
 have j8:Hid (bg<=G):=by show bg<=G;rw[<-t3.out,HG.out];exact b9.size
 have i1:=hd (b4.below x0);have v0:Hid (∃ B,Ow p0 B (txD o.y.p.m o.y.p.S) (V gO o.y.p.m o.y.p.m) (fun x=>x=gO)):=by obtain⟨B,q⟩:=z6.out;exact⟨B,q.below x0⟩
 have p8:Hid (∀ W,NdF w4 X P bg G f n m mm zs o g1 g2 g3 gO h1 k1 b2 k2 b3 k3 NW zs YW W->CB 30 #[ntV f (V (Q h1 0 I) n k1) (V b2 zs.length k2) (V b3 mm k3),ntV f (V uA n a0) (V uB zs.length c0) (V uC mm b0)] W Aw):=fun W hF=>by
  obtain⟨_,_,_,q,_⟩:=hF.og;exact r8 _ _ _ _ _ _ _ _ _ _ _ _ W ⟨q.n.rd,qK.1 q.z.rd,q.y.rd⟩ (KE _ hF.bw).2.2.2.1
 have h6:Hid _:=(KE _ t0.bw).1;clear b9 i4 x0 O9 j5 u3 n8 b4 z6 o8 t3 g5 HP;go_wp2_with (first|((try rw[<-u2.out,<-HG.out]);refine Bg rfl 48 _ rfl G rfl 48 #[f,V (M ⟨h1,0,I⟩) n k1,V b2 zs.length k2,V b3 mm k3] (0,0) _ ?_ Bu rfl Tryz.infoNt ?_;exact t0.rg)|(refine Bg rfl 48 _ rfl E rfl 48 #[f,V uA n a0,V uB zs.length c0,V uC mm b0] (0,0) _ ?_ Bu rfl Tryz.infoNt ?_;exact h6))
 refine Ax (p8 _ t0) ?_;rintro e' w9 ⟨rfl,b9⟩;have F9:=hd (t0.below b9);have c4:=hd (i1.below b9);have x8:Hid (∃ B,Ow w9 B (txD o.y.p.m o.y.p.S) (V gO o.y.p.m o.y.p.m) (fun x=>x=gO)):=by obtain⟨B,q⟩:=v0.out;exact⟨B,q.below b9⟩
 clear b9 t0 i1 v0 u2 HG h6;go_upto_region 14 with fail
 go_cut [58] from 54 to 58 (fun v wx=>Hid (v=.bool Av/\Ab w9 w9 wx))
 case first=>
  have RB:=(KE _ F9.bw).2.1;have RX:=F9.rx;have x1:=RB.cell 0;have z1:=RB.cell 1;have f2:=RB.cell 2;have i2:=RB.cell 3;have n2:=RX.cell 0;have p2:=RX.cell 1;have s2:=RX.cell 2;have t2:=RX.cell 3;simp at x1 n2 z1 p2 f2 s2 i2 t2;have lB:=RB.lt;have lX:=RX.lt;have a7:Hid _:=o5 w9.drew (KE w9.drew (Cy F9.bw 1)).2.2.2.2.1;have ah:Hid (∀ W,Ab w9 w9 W->Rd W (qS n N) (V (Q g1 0 I) n n)/\jH W (Q g2 0 I) zs.length zs/\Rd W (qJ m Y) (V (Q g3 0 I) m m)):=fun W hW=>⟨c4.n.rd.below hW,(qK.1 c4.z.rd).below hW,c4.y.rd.below hW⟩
  have KS:Hid (∀ W,Ab w9 w9 W->(W.cell? B1=M (Ao Ar f)/\W.cell? (Q B1 1 I)=M (V a n c)/\W.cell? (Q B1 2 I)=M (V l zs.length d)/\W.cell? (Q B1 3 I)=M (V e m g))/\W.cell? X=M (Ao Ar f)/\W.cell? (Q X 1 I)=M (V (Q g1 0 I) n n)/\W.cell? (Q X 2 I)=M (V (Q g2 0 I) zs.length zs.length)/\W.cell? (Q X 3 I)=M (V (Q g3 0 I) m m)):=fun W hW=>⟨⟨(hW.cell (p:=B1) lB).trans x1,(hW.cell (p:=Q B1 1 I) lB).trans z1,(hW.cell (p:=Q B1 2 I) lB).trans f2,(hW.cell (p:=Q B1 3 I) lB).trans i2⟩,(hW.cell (p:=X) lX).trans n2,(hW.cell (p:=Q X 1 I) lX).trans p2,(hW.cell (p:=Q X 2 I) lX).trans s2,(hW.cell (p:=Q X 3 I) lX).trans t2⟩
  clear RB RX x1 n2 z1 p2 f2 s2 i2 t2;obtain⟨⟨q0,q1,q2,q3⟩,y0,y1,y2,y3⟩:=KS w9 (Az _ _);have hdr:Ab w9 w9 w9.drew:=jD w9;go_region_held3 (fun w'=>(w'.cell? (Q B1 0 I)=M (Ao Ar f)/\w'.cell? (Q B1 1 I)=M (V a n c)/\w'.cell? (Q B1 2 I)=M (V l zs.length d)/\w'.cell? (Q B1 3 I)=M (V e m g))/\w'.cell? (Q X 0 I)=M (Ao Ar f)/\w'.cell? (Q X 1 I)=M (V (Q g1 0 I) n n)/\w'.cell? (Q X 2 I)=M (V (Q g2 0 I) zs.length zs.length)/\w'.cell? (Q X 3 I)=M (V (Q g3 0 I) m m)) (exact KS.out _ (by with_reducible assumption)) ((first|(go_at_call 28;refine Ax (a7.out) ?_;rintro e' v7 ⟨j1,j2,j3,rfl,⟨_,_,_,O7,_⟩,g4⟩;have b7:=jC g4;clear g4;have u6:Hid (Rd v7 (qS n N) (V j1 n n)/\jH v7 j2 zs.length zs/\Rd v7 (qJ m Y) (V j3 m m)):=⟨O7.n.rd,qK.1 O7.z.rd,O7.y.rd⟩;clear O7)|(guard_hyp b7;go_at_call 30;refine Ax (z9.out _ _ _ _ _ _ _ _ _ _ _ _ _ (ah.out _ b7) u6.out) ?_;rintro e' v8 ⟨rfl,b8⟩;have s1:=jA b7 b8;clear b8)))
  all_goals
   go_wp2_with fail
   go_meet
   exact⟨rfl,s1⟩
 obtain⟨rfl,bc⟩:=hcut.out;obtain⟨p0,m9⟩:∃ x,x=wc:=⟨_,rfl⟩;subst m9;have t0:=hd (F9.below bc);have i1:=hd (c4.below bc);have v0:Hid (∃ B,Ow p0 B (txD o.y.p.m o.y.p.S) (V gO o.y.p.m o.y.p.m) (fun x=>x=gO)):=by obtain⟨B,q⟩:=x8.out;exact⟨B,q.below bc⟩
 clear hcut bc F9 c4 x8;go_upto_region 16 with fail
 go_cut [63] from 59 to 63 (fun v wx=>Hid (v=.bool Av/\Ab p0 p0 wx))
 case first=>
  have RB:=(KE _ t0.bw).2.2.1;have RX:=t0.rp;have x1:=RB.cell 0;have z1:=RB.cell 1;have f2:=RB.cell 2;have i2:=RB.cell 3;have m7:=RB.cell 4;have n7:=RB.cell 5;have o7:=RB.cell 6;have p7:=RB.cell 7;have r7:=RB.cell 8;have s7:=RB.cell 9;have k4:=RB.cell 10;have m4:=RB.cell 11;have n4:=RB.cell 12;have n2:=RX.cell 0;have p2:=RX.cell 1;have s2:=RX.cell 2;have t2:=RX.cell 3;have t7:=RX.cell 4;have u7:=RX.cell 5;have x7:=RX.cell 6;have z7:=RX.cell 7;have a8:=RX.cell 8;have f8:=RX.cell 9;have p4:=RX.cell 10;have r4:=RX.cell 11;have s4:=RX.cell 12;simp at x1 n2 z1 p2 f2 s2 i2 t2 m7 t7 n7 u7 o7 x7 p7 z7 r7 a8 s7 f8 k4 p4 m4 r4 n4 s4;have lB:=RB.lt;have lX:=RX.lt;have a7:Hid _:=p5 p0.drew (KE p0.drew (Cy t0.bw 1)).2.2.2.2.2;have ai:Hid (jK p0 gO o.y.p.m o.y.p.S):=by obtain⟨B,q⟩:=v0.out;exact zW.1 q.rd
  have KS:Hid (∀ W,Ab p0 p0 W->(W.cell? B2=M (Ao Ar o.k)/\W.cell? (Q B2 1 I)=M (Ao Ar o.a)/\W.cell? (Q B2 2 I)=M (Ao Ar o.y.k)/\W.cell? (Q B2 3 I)=M (Ao Ar o.y.f)/\W.cell? (Q B2 4 I)=M (Ao Ar o.y.t)/\W.cell? (Q B2 5 I)=M (Ag o.y.r)/\W.cell? (Q B2 6 I)=M (Ag o.y.p.r)/\W.cell? (Q B2 7 I)=M (Ao Ar o.y.p.k)/\W.cell? (Q B2 8 I)=M (Ao Ar o.y.p.n)/\W.cell? (Q B2 9 I)=M (Ao Ar o.y.p.i)/\W.cell? (Q B2 10 I)=M (Ag o.y.p.b)/\W.cell? (Q B2 11 I)=M (V a9 o.y.p.m c9)/\W.cell? (Q B2 12 I)=M (Ag o.s))/\W.cell? P=M (Ao Ar o.k)/\W.cell? (Q P 1 I)=M (Ao Ar o.a)/\W.cell? (Q P 2 I)=M (Ao Ar o.y.k)/\W.cell? (Q P 3 I)=M (Ao Ar o.y.f)/\W.cell? (Q P 4 I)=M (Ao Ar o.y.t)/\W.cell? (Q P 5 I)=M (Ag o.y.r)/\W.cell? (Q P 6 I)=M (Ag o.y.p.r)/\W.cell? (Q P 7 I)=M (Ao Ar o.y.p.k)/\W.cell? (Q P 8 I)=M (Ao Ar o.y.p.n)/\W.cell? (Q P 9 I)=M (Ao Ar o.y.p.i)/\W.cell? (Q P 10 I)=M (Ag o.y.p.b)/\W.cell? (Q P 11 I)=M (V gO o.y.p.m o.y.p.m)/\W.cell? (Q P 12 I)=M (Ag o.s)):=fun W hW=>⟨⟨(hW.cell (p:=B2) lB).trans x1,(hW.cell (p:=Q B2 1 I) lB).trans z1,(hW.cell (p:=Q B2 2 I) lB).trans f2,(hW.cell (p:=Q B2 3 I) lB).trans i2,(hW.cell (p:=Q B2 4 I) lB).trans m7,(hW.cell (p:=Q B2 5 I) lB).trans n7,(hW.cell (p:=Q B2 6 I) lB).trans o7,(hW.cell (p:=Q B2 7 I) lB).trans p7,(hW.cell (p:=Q B2 8 I) lB).trans r7,(hW.cell (p:=Q B2 9 I) lB).trans s7,(hW.cell (p:=Q B2 10 I) lB).trans k4,(hW.cell (p:=Q B2 11 I) lB).trans m4,(hW.cell (p:=Q B2 12 I) lB).trans n4⟩,(hW.cell (p:=P) lX).trans n2,(hW.cell (p:=Q P 1 I) lX).trans p2,(hW.cell (p:=Q P 2 I) lX).trans s2,(hW.cell (p:=Q P 3 I) lX).trans t2,(hW.cell (p:=Q P 4 I) lX).trans t7,(hW.cell (p:=Q P 5 I) lX).trans u7,(hW.cell (p:=Q P 6 I) lX).trans x7,(hW.cell (p:=Q P 7 I) lX).trans z7,(hW.cell (p:=Q P 8 I) lX).trans a8,(hW.cell (p:=Q P 9 I) lX).trans f8,(hW.cell (p:=Q P 10 I) lX).trans p4,(hW.cell (p:=Q P 11 I) lX).trans r4,(hW.cell (p:=Q P 12 I) lX).trans s4⟩
  clear RB RX x1 n2 z1 p2 f2 s2 i2 t2 m7 t7 n7 u7 o7 x7 p7 z7 r7 a8 s7 f8 k4 p4 m4 r4 n4 s4;obtain⟨⟨q0,q1,q2,q3,q4,q5,q6,q7,q8,q9,au,av,aw⟩,y0,y1,y2,y3,y4,y5,y6,y7,y8,y9,bf,bh,bi⟩:=KS p0 (Az _ _);have hdr:Ab p0 p0 p0.drew:=jD p0;go_region_held3 (fun w'=>(w'.cell? (Q B2 0 I)=M (Ao Ar o.k)/\w'.cell? (Q B2 1 I)=M (Ao Ar o.a)/\w'.cell? (Q B2 2 I)=M (Ao Ar o.y.k)/\w'.cell? (Q B2 3 I)=M (Ao Ar o.y.f)/\w'.cell? (Q B2 4 I)=M (Ao Ar o.y.t)/\w'.cell? (Q B2 5 I)=M (Ag o.y.r)/\w'.cell? (Q B2 6 I)=M (Ag o.y.p.r)/\w'.cell? (Q B2 7 I)=M (Ao Ar o.y.p.k)/\w'.cell? (Q B2 8 I)=M (Ao Ar o.y.p.n)/\w'.cell? (Q B2 9 I)=M (Ao Ar o.y.p.i)/\w'.cell? (Q B2 10 I)=M (Ag o.y.p.b)/\w'.cell? (Q B2 11 I)=M (V a9 o.y.p.m c9)/\w'.cell? (Q B2 12 I)=M (Ag o.s))/\w'.cell? (Q P 0 I)=M (Ao Ar o.k)/\w'.cell? (Q P 1 I)=M (Ao Ar o.a)/\w'.cell? (Q P 2 I)=M (Ao Ar o.y.k)/\w'.cell? (Q P 3 I)=M (Ao Ar o.y.f)/\w'.cell? (Q P 4 I)=M (Ao Ar o.y.t)/\w'.cell? (Q P 5 I)=M (Ag o.y.r)/\w'.cell? (Q P 6 I)=M (Ag o.y.p.r)/\w'.cell? (Q P 7 I)=M (Ao Ar o.y.p.k)/\w'.cell? (Q P 8 I)=M (Ao Ar o.y.p.n)/\w'.cell? (Q P 9 I)=M (Ao Ar o.y.p.i)/\w'.cell? (Q P 10 I)=M (Ag o.y.p.b)/\w'.cell? (Q P 11 I)=M (V gO o.y.p.m o.y.p.m)/\w'.cell? (Q P 12 I)=M (Ag o.s)) (exact KS.out _ (by with_reducible assumption)) ((first|(go_at_call 29;refine Ax (a7.out) ?_;rintro e' v7 ⟨j1,rfl,O7,_,_,g4⟩;have b7:=jC g4;clear g4;have u6:Hid (jK v7 j1 o.y.p.m o.y.p.S):=zW.1 O7.rd;clear O7)|(guard_hyp b7;go_at_call 31;refine Ax (x9.out _ o.y.p.m _ o.y.p.m _ (ai.out.below b7) u6.out) ?_;rintro e' v8 ⟨rfl,b8⟩;have s1:=jA b7 b8;clear b8)))
  all_goals
   go_wp2_with fail
   go_meet
   exact⟨rfl,s1⟩
 obtain⟨rfl,bc⟩:=hcut.out;obtain⟨t9,o9⟩:∃ x,x=wc:=⟨_,rfl⟩;subst o9;have j6:=hd (t0.below bc);have a6:Hid _:=ag w4 _ n _ zs.length _ m X1 X2 X3 t9 (i1.below bc);have g6:Hid (∃ B,Ow t9 B (txD o.y.p.m o.y.p.S) (V gO o.y.p.m o.y.p.m) (fun x=>x=gO)):=by obtain⟨B,q⟩:=v0.out;exact⟨B,q.below bc⟩
 clear hcut bc t0 i1 v0;go_upto_region 19 with fail
 go_wp2_with (refine Bg rfl 48 _ rfl X rfl 48 #[f,V (M ⟨g1,0,I⟩) n n,V (M ⟨g2,0,I⟩) zs.length zs.length,V (M ⟨g3,0,I⟩) m m] (0,0) _ ?_ Bu rfl Tryz.infoNt ?_;exact j6.rx)
 refine Ax a6.out ?_;rintro e' u9 ⟨rfl,c7⟩;have k6:=hd (j6.turnX c7 x2.1 j8);have b6:Hid (Ak prog 33 #[opV o (V gO o.y.p.m o.y.p.m),(mx:Int)] u9 fun r w'=>r=Ae (mp:Int)/\NdF w4 X P bg G f n m mm zs o g1 g2 g3 gO h1 k1 b2 k2 b3 k3 NW zs YW w'):=by
  obtain⟨B,q⟩:=g6.out;refine(af B _ _ u9 (q.turned c7 (fun g h1 h2=>x2.2.2.2.2.2 g h2 h1))).mono ?_;rintro r w' ⟨rfl,t⟩;exact⟨rfl,k6.turnX t x2.2.1 j8⟩
 clear c7 j6 a6 g6;go_upto_region 20 with fail
 go_wp2_with (refine Bg rfl 50 _ rfl P rfl 50 (opC o (V gO o.y.p.m o.y.p.m)) (0,0) _ ?_ Fo rfl Tryz.infoOp ?_;exact k6.rp)
 refine Ax b6.out ?_;rintro e' ax ⟨rfl,t5⟩;have z0:=hd t5;have n1:=(KE _ z0.bw).1;have r0:=z0.rg.cell 0;have r1:=z0.rg.cell 1;have r2:=z0.rg.cell 2;have r3:=z0.rg.cell 3;have m0:=n1.cell 0;have m1:=n1.cell 1;have m2:=n1.cell 2;have m3:=n1.cell 3;simp at r0 r1 r2 r3 m0 m1 m2 m3;clear t5 k6 b6 n1;go_wp2_with fail
 refine Ax (p8 _ z0) ?_;rintro e' v9 ⟨rfl,f9⟩;have t4:=hd (z0.below f9);clear f9 z0 r0 r1 r2 r3 m0 m1 m2 m3;have f6:Hid (Ak prog 32 #[ntV f (V (Q h1 0 I) n k1) (V b2 zs.length k2) (V b3 mm k3),(1:Int)] v9 fun r w'=>r=Ae (mq:Int)/\NdF w4 X P bg G f n m mm zs o g1 g2 g3 gO h1 k1 b2 k2 b3 k3 (XQ 1 NW) (jV (mq1 n NW) zs.length) (zF (mq2 n NW zs) YW) w'):=by
  obtain⟨F1,F2,F3,q,hl⟩:=t4.og;refine(ae bg _ k1 _ k2 _ k3 F1 F2 F3 v9 q).mono ?_;rintro r w' ⟨rfl,q',t'⟩;exact⟨rfl,t4.turnG t' hl q' x2.2.2.2.2.1 x2.2.2.1 x2.2.2.2.1⟩
 have s8:Hid (∀ W,NdF w4 X P bg G f n m mm zs o g1 g2 g3 gO h1 k1 b2 k2 b3 k3 (XQ 1 NW) (jV (mq1 n NW) zs.length) (zF (mq2 n NW zs) YW) W->CB 34 #[ntV f (V (Q h1 0 I) n k1) (V b2 zs.length k2) (V b3 mm k3),(1:Int)] W (mq:Int)):=fun W hF=>by
  obtain⟨_,_,_,q,_⟩:=hF.og;exact aa _ k1 _ k2 _ k3 W q.n.rd (jKl q.z.rd) q.y.rd
 go_upto_region 24 with fail
 go_wp2_with (refine Bg rfl 48 _ rfl G rfl 48 #[f,V (M ⟨h1,0,I⟩) n k1,V b2 zs.length k2,V b3 mm k3] (0,0) _ ?_ Bu rfl Tryz.infoNt ?_;exact t4.rg)
 refine Ax f6.out ?_;rintro e' ay ⟨rfl,u5⟩;have u4:=hd u5;clear u5 t4 f6;go_upto_region 26 with fail
 go_wp2_with (refine Bg rfl 48 _ rfl G rfl 48 #[f,V (M ⟨h1,0,I⟩) n k1,V b2 zs.length k2,V b3 mm k3] (0,0) _ ?_ Bu rfl Tryz.infoNt ?_;exact u4.rg)
 refine Ax (s8 _ u4) ?_;rintro e' o4 ⟨rfl,i9⟩;have n3:=hd (u4.below i9);have x5:=hd ((KE _ n3.bw).2.1);have v5:=hd ((KE _ n3.bw).2.2.1);have z5:=hd (jA z3 n3.bw);clear i9 u4;go_upto_region 31 with fail
 go_cut [15,16] from 94 to 101 (fun v6 v7 wx=>Hid (∃ E uA a0 uB c0 uC b0,v6=Af (Q E 0 I)/\v7=.bool ob/\Row wx E 48 #[f,V uA n a0,V uB zs.length c0,V uC mm b0]/\NtR wx (fun _=>False) n NW zs mm YW (V uA n a0) (V uB zs.length c0) (V uC mm b0)/\Ab o4 o4 wx))
 case first=>
  refine JE Tryz.mixed 11 [([],[0,1,4,9]),([0],[1,4,5,6,7,9,10]),([],[2,3,4,9]),([2],[3,4,5,6,7,9,10]),([1,3],[4,5,6,7,9,10]),([1,3,4],[9]),([1,3,4,5],[9]),([1,3,4,5],[]),([],[8,9]),([1,3,4,6,8],[9]),([1,3,4,7],[])] (by kernel_rfl) (fun L A9 W=>∃ (x6:Nat) (gA:Nat) (gB:Nat) (gC:Nat) (gQ:Nat) (sA:OA) (f0:Nat) (sB:OA) (g0:Nat) (sC:OA) (i0:Nat),A9=⟨(List.toArray (α:=Aj) ((Ai #[f,V a n c,V l zs.length d,V e m g])::(Ai (opC o (V a9 o.y.p.m c9)))::(Af B1)::(Af B2)::(Av)::((n0:Int))::(Af (Q E 0 I))::(ob)::(Af X)::(Af P)::(Af G)::(ob)::((mp:Int))::((mq:Int))::((mq:Int))::(cX (L 8) (Af x6) O)::(cX (L 10) ob O)::(Ai #[f,V a n c,V l zs.length d,V e m g])::((1048576:Int))::((j0:Int))::((j0:Int))::((decide ((j0:Int)<0)))::(Ai (opC o (V a9 o.y.p.m c9)))::((j0:Int))::((n0:Int))::((n0:Int))::((decide ((n0:Int)<0)))::u27::u28::u29::u30::u31::u32::u33::u34::(Ai #[f,V a n c,V l zs.length d,V e m g])::(ntV f (V (Q g1 0 I) n n) (V (Q g2 0 I) zs.length zs.length) (V (Q g3 0 I) m m))::(Ai (opC o (V a9 o.y.p.m c9)))::(opV o (V gO o.y.p.m o.y.p.m))::(Ah #[ntV f (V (Q h1 0 I) n k1) (V b2 zs.length k2) (V b3 mm k3),ob])::(Ai #[f,V (Q g1 0 I) n n,V (Q g2 0 I) zs.length zs.length,V (Q g3 0 I) m m])::(Ai (opC o (V gO o.y.p.m o.y.p.m)))::(Ah #[ntV f (V (Q h1 0 I) n k1) (V b2 zs.length k2) (V b3 mm k3),ob])::(ntV f (V (Q h1 0 I) n k1) (V b2 zs.length k2) (V b3 mm k3))::(ob)::(Ai #[f,V (Q h1 0 I) n k1,V b2 zs.length k2,V b3 mm k3])::(Ai #[f,V uA n a0,V uB zs.length c0,V uC mm b0])::(Aw)::(Av)::(Av)::(ob)::(ob)::(Av)::(Av)::u54::u55::u56::u57::(Av)::u59::u60::u61::u62::(Av)::(Ai #[f,V (Q g1 0 I) n n,V (Q g2 0 I) zs.length zs.length,V (Q g3 0 I) m m])::((1:Int))::((mx:Int))::(Ai (opC o (V gO o.y.p.m o.y.p.m)))::((mx:Int))::((mp:Int))::((mp:Int))::((decide ((mp:Int)<0)))::((decide ((mp:Int)<0)))::(Ai #[f,V (Q h1 0 I) n k1,V b2 zs.length k2,V b3 mm k3])::(Ai #[f,V uA n a0,V uB zs.length c0,V uC mm b0])::(Aw)::(Av)::((decide ((mp:Int)<0)))::((decide ((mp:Int)<0)))::(ob)::(ob)::(Av)::((decide ((mp:Int)<0)))::(Ai #[f,V (Q h1 0 I) n k1,V b2 zs.length k2,V b3 mm k3])::((1:Int))::((mq:Int))::(Ai #[f,V (Q h1 0 I) n k1,V b2 zs.length k2,V b3 mm k3])::((1:Int))::((mq:Int))::((mq:Int))::((decide ((mq:Int)<0)))::((mq:Int))::((mq:Int))::(Av)::(cX (L 5) (Ah #[Ai #[f,V sA n f0,V sB zs.length g0,V sC mm i0],ob]) O)::(cX (L 0) (Ai #[f,V a n c,V l zs.length d,V e m g]) O)::(cX (L 1) (Ai #[f,V gA n n,V gB zs.length zs.length,V gC m m]) O)::(cX (L 2) (Ai (opC o (V a9 o.y.p.m c9))) O)::(cX (L 3) (Ai (opC o (V gQ o.y.p.m o.y.p.m))) O)::(cX (L 4) (Ah #[Ai #[f,V sA n f0,V sB zs.length g0,V sC mm i0],ob]) O)::(cX (L 6) (Ai #[f,V sA n f0,V sB zs.length g0,V sC mm i0]) O)::(cX (L 7) ob O)::O::O::O::O::O::O::O::O::O::O::O::O::O::O::O::O::O::[])),[]⟩/\(Ab o4 o4 W)/\(L 1=Aw->L 4=Av->Rd W (qS n N) (V gA n n)/\jH W gB zs.length zs/\Rd W (qJ m Y) (V gC m m))/\(L 3=Aw->L 4=Av->jK W gQ o.y.p.m o.y.p.S)/\(L 8=Aw->L 9=Av->Row W x6 48 #[(),V I 0 0,V I 0 0,V I 0 0]/\o4.1.size<=x6)/\(L 9=Aw->Row W x6 48 #[f,V sA n f0,V sB zs.length g0,V sC mm i0])/\(L 4=Aw->NtR W (fun b=>L 8=Aw/\b=x6) n NW zs mm YW (V sA n f0) (V sB zs.length g0) (V sC mm i0))) ?_ ?_ ?_
  .exact⟨0,0,0,0,0,I,0,I,0,I,0,rfl,jD _,(fun h=>by cases h),(fun h=>by cases h),(fun h=>by cases h),(fun h=>by cases h),(fun h=>by cases h)⟩
  .rintro a9 wx ⟨x6,gA,gB,gC,gQ,sA,f0,sB,g0,sC,i0,j4,k7,-,-,-,t1,u1⟩;simp only[Nat.reduceLT,Dn,jJ] at j4;subst j4;replace t1:=(t1 rfl)
   replace u1:NtR wx (fun _=>False) n NW zs mm YW (V sA n f0) (V sB zs.length g0) (V sC mm i0):=(u1 rfl).mono (fun _ k=>k.elim)
   go_wp2_with fail
   go_meet
   exact⟨x6,sA,f0,sB,g0,sC,i0,rfl,rfl,t1,u1,k7⟩
  .intro q9 l7 L a9 W S o0;match q9,l7 with
   | 5,_|6,_|7,_|10,_=>
    obtain⟨x6,gA,gB,gC,gQ,sA,f0,sB,g0,sC,i0,rfl,hf⟩:=o0;simp only[knT,kn,knN] at S;refine jB rfl (fun _=>rfl) fun K hK=>?_
    simp only[S,jJ];go_simp
    exact hK _ _ ⟨x6,gA,gB,gC,gQ,sA,f0,sB,g0,sC,i0,(by simp only[Nat.reduceBEq,Be,Bp,jJ,S]),hf⟩
   | 0,_=>
    obtain⟨x6,gA,gB,gC,gQ,sA,f0,sB,g0,sC,i0,rfl,h0,h1,h2,h3,h4,h5⟩:=o0;obtain⟨e0,e1,e4,e9,-⟩:=S;refine jB rfl (fun _=>rfl) fun K hK=>?_
    refine Ev 63 _ rfl B1 rfl 63 #[f,V a n c,V l zs.length d,V e m g] (0,0) _ (x5.below h0 x5.lt) Eh rfl Tryz.infoNtL2 ?_;exact hK _ _ ⟨x6,gA,gB,gC,gQ,sA,f0,sB,g0,sC,i0,(by simp[Act.put,jJ]),h0,(ab e1),h2,h3,(ab e9),(ab e4)⟩
   | 1,_=>
    obtain⟨x6,gA,gB,gC,gQ,sA,f0,sB,g0,sC,i0,rfl,h0,h1,h2,h3,h4,h5⟩:=o0;obtain⟨d0,e1,e4,e5,e6,e7,e9,u0,-⟩:=S;refine jB rfl (fun _=>rfl) fun K hK=>?_
    simp only[d0,jJ];go_simp
    refine Ax (o5 W (KA W (jA z5 h0))) ?_;rintro r w9 ⟨gA,gB,gC,rfl,⟨_,_,_,q9,_⟩,b9⟩;exact hK _ _ ⟨x6,gA,gB,gC,gQ,sA,f0,sB,g0,sC,i0,(by simp only[Nat.reduceBEq,Be,Bp,jJ,jCr,d0,e4,e5,e6,e7,u0]),(jA h0 b9),(fun k0 k1=>⟨q9.n.rd,qK.1 q9.z.rd,q9.y.rd⟩),(fun k0 k1=>(h2 (show L 3=Aw from k0) (show L 4=Av from k1)).below b9),(fun k0 k1=>by have q:=h3 (show L 8=Aw from k0) (show L 9=Av from k1);exact⟨q.1.below b9 q.1.lt,q.2⟩),(ab e9),(ab e4)⟩
   | 2,_=>
    obtain⟨x6,gA,gB,gC,gQ,sA,f0,sB,g0,sC,i0,rfl,h0,h1,h2,h3,h4,h5⟩:=o0;obtain⟨e2,e3,e4,e9,-⟩:=S;refine jB rfl (fun _=>rfl) fun K hK=>?_
    refine Ev 68 _ rfl B2 rfl 68 (opC o (V a9 o.y.p.m c9)) (0,0) _ (v5.below h0 v5.lt) E5 rfl Tryz.infoOpL ?_;exact hK _ _ ⟨x6,gA,gB,gC,gQ,sA,f0,sB,g0,sC,i0,(by simp[Act.put,jJ]),h0,h1,(ab e3),h3,(ab e9),(ab e4)⟩
   | 3,_=>
    obtain⟨x6,gA,gB,gC,gQ,sA,f0,sB,g0,sC,i0,rfl,h0,h1,h2,h3,h4,h5⟩:=o0;obtain⟨d2,e3,e4,e5,e6,e7,e9,u0,-⟩:=S;refine jB rfl (fun _=>rfl) fun K hK=>?_
    simp only[d2,jJ];go_simp
    refine Ax (p5 W (m5 W (jA z5 h0))) ?_;rintro r w9 ⟨gQ,rfl,q9,_,_,b9⟩;exact hK _ _ ⟨x6,gA,gB,gC,gQ,sA,f0,sB,g0,sC,i0,(by simp only[Nat.reduceBEq,Be,Bp,jJ,jCr,d2,e4,e5,e6,e7,u0]),(jA h0 b9),(fun k0 k1=>by have q:=h1 (show L 1=Aw from k0) (show L 4=Av from k1);exact⟨q.1.below b9,q.2.1.below b9,q.2.2.below b9⟩),(fun k0 k1=>zW.1 q9.rd),(fun k0 k1=>by have q:=h3 (show L 8=Aw from k0) (show L 9=Av from k1);exact⟨q.1.below b9 q.1.lt,q.2⟩),(ab e9),(ab e4)⟩
   | 4,_=>
    obtain⟨x6,gA,gB,gC,gQ,sA,f0,sB,g0,sC,i0,rfl,h0,h1,h2,h3,h4,h5⟩:=o0;obtain⟨d1,d3,e4,e5,e6,e7,e9,u0,-⟩:=S;refine jB rfl (fun _=>rfl) fun K hK=>?_
    simp only[d1,d3,jJ];go_simp
    refine Ax (ac gA gB gC gQ W (h1 d1 e4) (h2 d3 e4)) ?_;rintro r w9 ⟨yA,g8,yB,h8,yC,i8,rfl,q9,b9⟩;exact hK _ _ ⟨x6,gA,gB,gC,gQ,yA,g8,yB,h8,yC,i8,(by simp only[Nat.reduceBEq,Be,Bp,jJ,jCr,d1,d3,e5,e6,e7,u0]),(jA h0 b9),(fun _=>nf),(fun _=>nf),(fun k0 k1=>by have q:=h3 (show L 8=Aw from k0) (show L 9=Av from k1);exact⟨q.1.below b9 q.1.lt,q.2⟩),(ab e9),(fun k0=>q9.mono (fun b k=>by rw[k.2];exact(h3 k.1 e9).1.lt))⟩
   | 8,_=>
    obtain⟨x6,gA,gB,gC,gQ,sA,f0,sB,g0,sC,i0,rfl,h0,h1,h2,h3,h4,h5⟩:=o0;obtain⟨e8,e9,-⟩:=S;refine jB rfl (fun _=>rfl) fun K hK=>?_
    go_simp
    exact hK _ _ ⟨W.1.size,gA,gB,gC,gQ,sA,f0,sB,g0,sC,i0,(by simp only[Nat.reduceBEq,Be,Bp,jJ]),(h0.alloc h0.size _),(fun k0 k1=>by have q:=h1 (show L 1=Aw from k0) (show L 4=Av from k1);have b9:=(Az W.1.size W).alloc (Ay _) (J #[(),V I 0 0,V I 0 0,V I 0 0] 48);exact⟨q.1.below b9,q.2.1.below b9,q.2.2.below b9⟩),(fun k0 k1=>(h2 (show L 3=Aw from k0) (show L 4=Av from k1)).below ((Az W.1.size W).alloc (Ay _) _)),(fun k0 k1=>⟨Row.new W _ _,h0.size⟩),(ab e9),(fun k0=>((h5 (show L 4=Aw from k0)).since ((Az W.1.size W).alloc (Ay _) _)).mono (fun b k=>.inr (by have:=k.2;omega)))⟩
   | 9,_=>
    obtain⟨x6,gA,gB,gC,gQ,sA,f0,sB,g0,sC,i0,rfl,h0,h1,h2,h3,h4,h5⟩:=o0;obtain⟨d1,d3,d4,d6,d8,e9,-⟩:=S;obtain⟨r6,l6⟩:=h3 d8 e9;refine jB rfl (fun _=>rfl) fun K hK=>?_
    simp only[d8,d6,jJ];refine Gx 48 _ _ rfl x6 #[f,V sA n f0,V sB zs.length g0,V sC mm i0] rfl rfl 48 #[(),V I 0 0,V I 0 0,V I 0 0] r6 Tryz.infoNt rfl (by simp[Aq]) ?_;exact hK _ _ ⟨x6,gA,gB,gC,gQ,sA,f0,sB,g0,sC,i0,(by simp[Act.put,jJ,d8,d6]),(jG h0 l6 _),(fun _=>ba d4),(fun _=>ba d4),(fun _=>nf),(fun k0=>r6.row),(fun k0=>(h5 (show L 4=Aw from k0)).setRow ⟨d8,rfl⟩ _)⟩
   | n9+11,h=>exact Bo h (by omega)
 obtain⟨H,sA,f0,sB,g0,sC,i0,rfl,rfl,hH,hS,hb⟩:=hcut.out;obtain⟨ap,p9⟩:∃ x,x=wc:=⟨_,rfl⟩;subst p9;have v4:=hd (n3.below hb);have RH:=hd hH;have i6:Hid _:=(KE _ v4.bw).1;have KQ:Hid _:=r8 sA f0 sB g0 sC i0 uA a0 uB c0 uC b0 ap ⟨hS.n.rd,qK.1 hS.z.rd,hS.y.rd⟩ (KE _ v4.bw).2.2.2.1;clear hcut hH hS hb n3;go_upto_region 32 with fail
 go_wp2_with (first|(refine Bg rfl 48 _ rfl H rfl 48 #[f,V sA n f0,V sB zs.length g0,V sC mm i0] (0,0) _ ?_ Bu rfl Tryz.infoNt ?_;exact RH)|(refine Bg rfl 48 _ rfl E rfl 48 #[f,V uA n a0,V uB zs.length c0,V uC mm b0] (0,0) _ ?_ Bu rfl Tryz.infoNt ?_;exact i6))
 refine Ax KQ.out ?_;rintro e' az ⟨rfl,j9⟩;have x4:=hd (v4.below j9);clear j9 v4 RH i6 KQ;go_upto_region 35 with fail
 go_wp2_with (refine Bg rfl 48 _ rfl G rfl 48 #[f,V (M ⟨h1,0,I⟩) n k1,V b2 zs.length k2,V b3 mm k3] (0,0) _ ?_ Bu rfl Tryz.infoNt ?_;exact x4.rg)
 refine Ax (s8 _ x4) ?_;rintro e' be ⟨rfl,k9⟩;have KF:=hd (jA z3 (jA x4.bw k9));clear k9 x4;go_wp2
 go_ret
 exact⟨rfl,KF⟩
end Go.Proofs.YtcaejlalnjnifaaGreat
namespace Go.Proofs.YtcaejlalnjnifaaGreat.fnExactNetDo
open Go.ChangeShapes Go.WideShapes Go.ChangeAt Go.RowKit
set_option linter.unusedVariables false
theorem own:ownKnob Tryz.prog.godebug=I:=by kernel_rfl
theorem laidOut:laidOutB prog=Aw:=by kernel_rfl
set_option maxRecDepth 100000 in
theorem lifted (os:Os) (c0:os.Started) (H:Type) (enc:TypeId×Aj->H):ReturnsInHanded {} checked os 5 .any (Rows.fnExactNetDoSpec.pre6 enc prog f5 Rows.fnExactNetDoRow.domain Av) (Rows.fnExactNetDoSpec.post enc prog f5 Av Aw Av Av):=by
 refine returnsInHanded_of_change (C:=checked) own c0 (by kernel_rfl) func5
  (ChangeSpec.witness6 (enc:=enc) (C:=checked) Av ⟨#[],#[Ai #[(),V I 0 0,V I 0 0,V I 0 0],Ai #[(),(),(),(),(),Ap,Ap,(),(),(),Ap,V I 0 0,Ap]],[]⟩ 8 (by kernel_rfl) (by kernel_rfl) (by kernel_rfl) (by kernel_rfl)) ?_
 intro W base args ds gs n0 b0 hW t1 _;have a0:∀ (j:Nat) t v,Tryz.f5.params[j]?=M t->args[j]?=M v->Value.okWide prog W .any base t v:=b0;have o0:=hW;obtain⟨p,q,i0,hV,rfl,y1,z1⟩:=hW;have hA:DataW.TrodAll enc prog W 0 (fun _=>Aw) Aw Tryz.f5.params.toList args.toList ds p:=i0;rw[params5] at hA a0;obtain⟨v0,a2,d0,u1,p0,q0,s0,rfl,rfl,h0,r0⟩:=trodAll_cons hA;obtain⟨v1,b2,d1,x1,p1,q1,rfl,rfl,rfl,h1,r1⟩:=trodAll_cons r0;obtain⟨rfl,rfl,rfl⟩:=trodAll_nil r1;obtain rfl:args=#[v0,v1]:=by cases args;simp_all
 obtain⟨rfl,rfl⟩:=trodVars_none hV;obtain⟨e0,rfl,_,_⟩:∃ cs,v0=Ai cs/\cs.size=Tryz.prog.cellsOf 63/\Row.okWide prog W .any base 63 cs:=by
  have:=a0 0 63 v0 rfl rfl
  simpa [Value.okWide,Tryz.underlying63] using this
 have k0:=h0;have t0:∀ x∈p0,x.block<W:=by obtain⟨m,hm⟩:=k0;exact DataW.trod_lt m _ _ _ hm
 obtain⟨e1,z0,j1,a1,g1,m1,b1,c1,i1,f1,x0,y0,j0,w0⟩:∃ (f:Int) (a:OA) (n c:Nat) (l:OA) (zs:List Int) (d:Nat) (e:OA) (m g:Nat) (N:Nat->Nd) (Y:Nat->Sy),e0.toList=[Ao Ar f,V a n c,V l zs.length d,V e m g]/\jNp W a n c l zs e m g N Y:=by
  obtain⟨g0,hf⟩:=h0;exact jMj (by simpa [Value.cells] using hf)
 obtain⟨l0⟩:=e0;obtain rfl:l0=_:=j0;obtain⟨f0,rfl,_,_⟩:∃ cs,v1=Ai cs/\cs.size=Tryz.prog.cellsOf 68/\Row.okWide prog W .any base 68 cs:=by
  have:=a0 1 68 v1 rfl rfl
  simpa [Value.okWide,Tryz.underlying68] using this
 have k1:=h1;have u0:∀ x∈p1,x.block<W:=by obtain⟨m,hm⟩:=k1;exact DataW.trod_lt m _ _ _ hm
 obtain⟨s1,n1,o1,m0,w1⟩:∃ (o:Op9) (a:OA) (c:Nat),f0.toList=(opC o (V a o.y.p.m c)).toList/\jK W a o.y.p.m o.y.p.S/\jR4 o:=by
  obtain⟨g0,hf⟩:=h1;exact jHn (by simpa [Value.cells] using hf)
 obtain⟨l1⟩:=f0;obtain rfl:l1=_:=m0;clear i0 b0;refine(walk_FnExactNetDo e1 z0 j1 a1 g1 m1 b1 c1 i1 f1 x0 y0 s1 n1 o1 W w0 w1).mono fun e W' ⟨he,bel⟩=>?_
 subst he;exact⟨_,rfl,_,_,_,[],_,[],o0,trodAll_mk1 (shut_bool underlying4 _),(trodAll_cons_mk (Below.trod laidOut (by kernel_rfl) (Do (by kernel_rfl)) k0 bel t0) (trodAll_cons_mk (Below.trod laidOut (by kernel_rfl) (Do (by kernel_rfl)) k1 bel u0) trodAll_mk0)),rfl,bel.frame _,fun h=>by cases h⟩
theorem over:Rows.fnExactNetDoRow.holds Tryz.pinned (OpenSpec.ofChange Rows.fnExactNetDoSpec):=
 OpenClaim.holds_of_wide 5 Tryz.f5 rfl rfl rfl rfl rfl rfl rfl ⟨rfl,rfl,rfl,rfl,rfl⟩ rfl rfl rfl rfl rfl (by kernel_rfl) Tryz.func5 (by kernel_rfl)
  (Do (by kernel_rfl)) (by unfold Func.isWrapper;first|(rw[A6 (by decide +kernel)];kernel_rfl)|(rw[A5 (by decide +kernel)];exact⟨rfl,rfl⟩))
  (fun os a0 H enc _=>lifted os a0 H enc)
theorem proved:Rows.FnExactNetDoSaid:=over
#print axioms proved
end Go.Proofs.YtcaejlalnjnifaaGreat.fnExactNetDo
