/- For every input: the function NetRun of the program answers as its model does, whatever its net and its ops are; it leaves both as they were, and its answer owns its memory. No condition. Written by mkenr.py. -/
import Derived.Test.YtcaejlalnjnifaaGreatR35
set_option maxHeartbeats 8000000
set_option maxRecDepth 2000
open Go.Value renaming slice->V,agg->Ai,int->Ao
open Option renaming none->I,some->M
open Go.RowKit renaming Hid->H,Below->Ab
open Go.Addr renaming mk->Q
open Go renaming undef->O,World->Ad,Value->Aj,Calls->Ak
open Go.Obj renaming cells->J
open Go.Ending renaming returned->Ae
open Go.IntKind renaming i64->Ar
open Bool renaming false->Av,true->Aw
open Go.Proofs.Tryz
namespace Go.Proofs.YtcaejlalnjnifaaGreat
set_option maxRecDepth 2000
open Go.ChangeShapes Go.WideShapes Go.ChangeAt Go.RowKit
theorem ofo_tot (k:Nat) (O:Nat->Op9) (m:Nat):ofo k O m<=k+12*m+tot (fun i=>wtO (O i)) m:=by
 induction m with
 | zero=>show k<=k+12*0+0;omega
 | succ m ih=>
  show ofo k O m+12+(O m).y.p.m<=k+12*(m+1)+(tot (fun i=>wtO (O i)) m+wtO (O m));have:(O m).y.p.m<=wtO (O m):=by unfold wtO wtY wtP;omega
  omega
structure NrF (w4:Ad) (X bg G:Nat) (f:Int) (n m mm:Nat) (zs:List Int) (g1 g2 g3 h1 k1:Nat) (b2:OA) (k2:Nat) (b3:OA) (k3:Nat) (NQ:Nat->Nd) (ZQ:List Int) (YQ:Nat->Sy) (W:Ad):Prop where
 bw:Ab w4 w4 W
 rx:Row W X 48 #[f,V g1 n n,V g2 zs.length zs.length,V g3 m m]
 rg:Row W G 48 #[f,V h1 n k1,V b2 zs.length k2,V b3 mm k3]
 og:∃ F1 F2 F3:Nat->Prop,NtQ W bg n NQ ZQ mm YQ (V h1 n k1) (V b2 zs.length k2) (V b3 mm k3) F1 F2 F3/\∀ x,F1 x\/F2 x\/F3 x->bg<=x/\x<G
section
variable {w4 W W':World} {X bg G:Nat} {f:Int} {n m mm:Nat} {zs:List Int} {g1 g2 g3 h1 k1:Nat} {b2:Option Addr} {k2:Nat} {b3:Option Addr} {k3:Nat} {NQ NS:Nat->Nd} {ZQ ZS:List Int} {YQ YS:Nat->Sy}
theorem NrF.below (h:NrF w4 X bg G f n m mm zs g1 g2 g3 h1 k1 b2 k2 b3 k3 NQ ZQ YQ W) (hb:Ab W W W'):NrF w4 X bg G f n m mm zs g1 g2 g3 h1 k1 b2 k2 b3 k3 NQ ZQ YQ W':=by
 obtain⟨F1,F2,F3,q,hl⟩:=h.og;exact⟨jA h.bw hb,h.rx.below hb h.rx.lt,h.rg.below hb h.rg.lt,F1,F2,F3,q.below hb,hl⟩
theorem NrF.turnX {F:Nat->Prop} (h:NrF w4 X bg G f n m mm zs g1 g2 g3 h1 k1 b2 k2 b3 k3 NQ ZQ YQ W) (ht:Trn W W' F) (hF:∀ g,F g->w4.1.size<=g/\g<bg/\g≠X) (hG:bg<=G):NrF w4 X bg G f n m mm zs g1 g2 g3 h1 k1 b2 k2 b3 k3 NQ ZQ YQ W':=by
 obtain⟨F1,F2,F3,q,hl⟩:=h.og;refine⟨h.bw.trans (ht.below (fun g k=>(hF g k).1) h.bw.size),(ht.block X h.rx.lt (fun k=>(hF X k).2.2 rfl)).trans h.rx,(ht.block G h.rg.lt (fun k=>by have:=(hF G k).2.1;omega)).trans h.rg,F1,F2,F3,q.turn ht.size (fun x hx=>ht.block x (q.f x hx).2 (fun k=>?_)),hl⟩;have h1:=hl x hx;have h2:=(hF x k).2.1;omega
theorem NrF.turnG {F1 F2 F3:Nat->Prop} (h:NrF w4 X bg G f n m mm zs g1 g2 g3 h1 k1 b2 k2 b3 k3 NQ ZQ YQ W) (ht:Trn W W' (fun x=>F1 x\/F2 x\/F3 x)) (hF:∀ x,F1 x\/F2 x\/F3 x->bg<=x/\x<G) (q:NtQ W' bg n NS ZS mm YS (V h1 n k1) (V b2 zs.length k2) (V b3 mm k3) F1 F2 F3) (hb:w4.1.size<=bg) (hX:X<bg):NrF w4 X bg G f n m mm zs g1 g2 g3 h1 k1 b2 k2 b3 k3 NS ZS YS W':=
 ⟨h.bw.trans (ht.below (fun g k=>by have:=hF g k;omega) h.bw.size),(ht.block X h.rx.lt (fun k=>by have:=hF X k;omega)).trans h.rx,(ht.block G h.rg.lt (fun k=>by have:=hF G k;omega)).trans h.rg,F1,F2,F3,q,hF⟩
end
theorem walk_FnExactNetRun (f:Int) (a:OA) (n c:Nat) (l:OA) (zs:List Int) (d:Nat) (e:OA) (m g:Nat) (N:Nat->Nd) (Y:Nat->Sy) (oa:OA) (mo co:Nat) (O:Nat->Op9) (w:Ad) (w0:jN4 w a n c l zs e m g N Y) (w1:jSt w oa mo co O):CB 6 #[Ai #[f,V a n c,V l zs.length d,V e m g],V oa mo co] w Aw:=by
 have hT:=w0;have h9:=w1.r;have u7:=w1.b;have x5:=w1.h;have KA:Hid (∀ W,Ab w w W->jN4 W a n c l zs e m g N Y):=fun W hW=>⟨hT.rn.below hW,hT.rl.below hW,hT.ry.below hW,hT.hn,hT.hl,hT.hm,hT.bn,hT.by'⟩
 have p1:Hid (∀ W,Ab w w W->Rd W (JK mo O) (V oa mo co)):=fun W hW=>h9.below hW
 obtain⟨B1,n1⟩:=nmH w.1.size;obtain⟨w0,s0⟩:=nmH (w.alloc (J #[f,V a n c,V l zs.length d,V e m g] 63));have p0:=jZ s0 n1;have v5:=bl1 s0;have t3:=hd v5;have KZ:=hd (jNq f a n c l zs d e m g N Y 1048576 w0 (KA _ v5) (by omega));by_cases h0:wtT n N zs m Y<=1048576
 case neg=>
  rw[qD h0] at KZ;go_enter func6,ntmps6
  go_upto_region 2 with fail
  rw[<-s0.out,<-n1.out];go_wp2_with (refine Bb rfl 63 _ rfl B1 rfl 63 #[f,V a n c,V l zs.length d,V e m g] (0,0) _ ?_ Ei rfl Tryz.infoNtL2 ?_;exact p0)
  refine CM KZ.out fun w1 b1=>?_
  go_wp2
  go_ret
  exact⟨rfl,jA t3 b1⟩
 obtain⟨e0,e4⟩:∃ q,1048576-wtT n N zs m Y=q:=⟨_,rfl⟩;rw[qE h0,e4] at KZ;have e8:¬ ((e0:Int)<0):=by omega
 have x1:Hid (∀ W,Ab w w W->CB 35 #[V oa mo co,(e0:Int)] W (szN e0 (jG6 mo O))):=fun W hW=>jLo oa mo co O e0 W (p1 _ hW) (by omega) x5 u7
 by_cases h1:jG6 mo O<=e0
 case neg=>
  rw[qD h1] at x1;go_enter func6,ntmps6
  go_upto_region 2 with fail
  rw[<-s0.out,<-n1.out];go_wp2_with (refine Bb rfl 63 _ rfl B1 rfl 63 #[f,V a n c,V l zs.length d,V e m g] (0,0) _ ?_ Ei rfl Tryz.infoNtL2 ?_;exact p0)
  refine CM KZ.out fun w1 b1=>?_
  have v0:=hd (jA t3 b1);go_wp2_with fail
  refine CM (x1 _ v0) fun w2 b2=>?_
  go_wp2
  go_ret
  exact⟨rfl,jA v0 b2⟩
 obtain⟨g4,e2⟩:∃ q,e0-jG6 mo O=q:=⟨_,rfl⟩;rw[qE h1,e2] at x1;have f8:¬ ((g4:Int)<0):=by omega
 obtain⟨hQ,hW⟩:=jBh h0;have u5:=jG7 h0;have x7:∀ i,i<mo->wtO (O i)<=1048576:=fun i hi=>by unfold jG6 at h1;have:wtO (O i)<=tot (fun i=>wtO (O i)) mo:=JC (g:=fun i=>wtO (O i)) hi;omega
 have hO:∀ i,i<mo->OpK (O i):=fun i hi=>jTf (x7 i hi)
 have f2:mo<=1048576:=by unfold jG6 at h1;omega
 have h8:tot (fun i=>wtO (O i)) mo<=1048576:=by unfold jG6 at h1;omega
 have t5:∀ i,i<n->(N i).n<=1048576/\∀ j,j<(N i).n->SlK ((N i).S j):=fun i hi=>⟨(hQ i hi).n,(hQ i hi).k⟩
 have a0:=jSf (f:=f) h0 hO;obtain⟨NW,e3⟩:=nnH ((jGs f n zs mo O ⟨N,m,Y⟩).N);obtain⟨mm,z2⟩:=nnH ((jGs f n zs mo O ⟨N,m,Y⟩).m);obtain⟨YW,s3⟩:=nnH ((jGs f n zs mo O ⟨N,m,Y⟩).Y);rw[e3.out,z2.out,s3.out] at a0;obtain⟨mx,s4⟩:=nnH (mq3 n N zs m Y);obtain⟨mp,p6⟩:=nnH (ofo mx O mo);obtain⟨mq,r4⟩:=nnH (mq3 n NW zs mm YW);have g8:mx<=40000000:=by rw[<-s4.out];exact jPb h0
 have f4:∀ i,i<mo->(O i).y.p.m<=1048576:=fun i hi=>(hO i hi).y.m
 have u1:Hid (∀ W,jN4 W a n c l zs e m g N Y->Ak prog 28 #[Ai #[f,V a n c,V l zs.length d,V e m g]] W fun r w'=>∃ g1 g2 g3,r=Ae (ntV f (V (Q g1 0 I) n n) (V (Q g2 0 I) zs.length zs.length) (V (Q g3 0 I) m m))/\(∃ F1 F2 F3,NtO w' W.1.size n N zs m Y (V (Q g1 0 I) n n) (V (Q g2 0 I) zs.length zs.length) (V (Q g3 0 I) m m) F1 F2 F3/\∀ x,F1 x\/F2 x\/F3 x->W.1.size<=x/\x<w'.1.size)/\Ab W.1.size W w'):=fun W a0=>by
  refine(jNw f a n c l zs d e m g N Y W a0 hW.kn hW.kN hW.kz hW.km hW.kY).mono ?_;rintro r w' ⟨g1,g2,g3,rfl,F1,F2,F3,o1,o2,o3,d1,d2,d3,bb⟩;obtain⟨G1,G2,G3,q,hd⟩:=NtO.cut (⟨o1,o2,o3,d1,d2,d3⟩:NtO w' W.1.size n N zs m Y _ _ _ F1 F2 F3);exact⟨g1,g2,g3,rfl,⟨G1,G2,G3,q,hd⟩,bb⟩
 have v1:Hid (∀ W,Rd W (JK mo O) (V oa mo co)->Ak prog 37 #[V oa mo co] W fun r w'=>∃ g,r=Ae (V (Q g 0 I) mo mo)/\Ow w' W.1.size (JK mo O) (V (Q g 0 I) mo mo) (rng W.1.size w'.1.size)/\Ab W.1.size W w'):=fun W h=>by
  refine(jLv oa mo co O W h f2 f4).mono ?_;rintro r w' ⟨rfl,q,bb⟩;exact⟨_,rfl,q,bb⟩
 have h7:Hid (∀ g1 g2 g3 g9 W,Rd W (qR n N) (V (Q g1 0 I) n n)/\jH W (Q g2 0 I) zs.length zs/\Rd W (qI m Y) (V (Q g3 0 I) m m)->Rd W (JK mo O) (V (Q g9 0 I) mo mo)->Ak prog 36 #[ntV f (V (Q g1 0 I) n n) (V (Q g2 0 I) zs.length zs.length) (V (Q g3 0 I) m m),V (Q g9 0 I) mo mo] W fun r w'=>∃ uA b0 uB d0 uC c0,r=Ae (ntV f (V uA n b0) (V uB zs.length d0) (V uC mm c0))/\NtR w' (fun b=>b<W.1.size) n NW zs mm YW (V uA n b0) (V uB zs.length d0) (V uC mm c0)/\Ab W.1.size W w'):=fun g1 g2 g3 g9 W h k=>by
  have:=jFf f (Q g1 0 I) n n (Q g2 0 I) zs zs.length (Q g3 0 I) m m N Y (Q g9 0 I) mo mo O W h.1 h.2.1 h.2.2 hW.kn hW.kz hW.km t5 u5 k hO
  rw[e3.out,z2.out,s3.out] at this;refine this.mono ?_;rintro r w' ⟨j1,c1,j2,c2,j3,c3,rfl,q,bb⟩;exact⟨_,_,_,_,_,_,rfl,q.rf,bb⟩
 have a5:Hid (∀ g1 g2 g3 g9 W,Rd W (qR n N) (V (Q g1 0 I) n n)/\jH W (Q g2 0 I) zs.length zs/\Rd W (qI m Y) (V (Q g3 0 I) m m)->Rd W (JK mo O) (V (Q g9 0 I) mo mo)->Ak prog 38 #[ntV f (V (Q g1 0 I) n n) (V (Q g2 0 I) zs.length zs.length) (V (Q g3 0 I) m m),V (Q g9 0 I) mo mo] W fun r w'=>∃ h1 k1 b2 k2 b3 k3,r=Ae (ntV f (V (Q h1 0 I) n k1) (V b2 zs.length k2) (V b3 mm k3))/\(∃ F1 F2 F3,NtQ w' W.1.size n NW zs mm YW (V (Q h1 0 I) n k1) (V b2 zs.length k2) (V b3 mm k3) F1 F2 F3)/\Ab W.1.size W w'):=fun g1 g2 g3 g9 W h k=>by
  have:=jHw f (Q g1 0 I) n n (Q g2 0 I) zs zs.length (Q g3 0 I) m m N Y (Q g9 0 I) mo mo O W h.1 h.2.1 h.2.2 hW.kn hW.kz hW.km t5 u5 k hO f2
  unfold NtA at this;rw[e3.out,z2.out,s3.out] at this;refine this.mono ?_;rintro r w' ⟨v,rfl,j1,c1,a2,c2,a3,c3,F1,F2,F3,rfl,q,bb⟩;exact⟨_,_,_,_,_,_,rfl,⟨F1,F2,F3,q⟩,bb⟩
 have x6:Hid (∀ g1 g2 g3 g9 W,Rd W (qR n N) (V (Q g1 0 I) n n)/\jH W (Q g2 0 I) zs.length zs/\Rd W (qI m Y) (V (Q g3 0 I) m m)->Rd W (JK mo O) (V (Q g9 0 I) mo mo)->Ak prog 38 #[ntV f (V (Q g1 0 I) n n) (V (Q g2 0 I) zs.length zs.length) (V (Q g3 0 I) m m),V (Q g9 0 I) mo mo] W fun r w'=>∃ uA b0 uB d0 uC c0,r=Ae (ntV f (V uA n b0) (V uB zs.length d0) (V uC mm c0))/\NtR w' (fun b=>b<W.1.size) n NW zs mm YW (V uA n b0) (V uB zs.length d0) (V uC mm c0)/\Ab W.1.size W w'):=fun g1 g2 g3 g9 W h k=>by
  refine(a5 g1 g2 g3 g9 W h k).mono ?_;rintro r w' ⟨j1,c1,b2,c2,b3,c3,rfl,⟨F1,F2,F3,q⟩,bb⟩;exact⟨_,_,_,_,_,_,rfl,q.rf,bb⟩
 have u6:Hid (∀ a1 c1 a2 c2 a3 c3 b1 k1 b2 k2 b3 k3 W,(Rd W (qR n N) (V a1 n c1)/\jH W a2 zs.length zs/\Rd W (qI m Y) (V a3 m c3))->(Rd W (qR n N) (V b1 n k1)/\jH W b2 zs.length zs/\Rd W (qI m Y) (V b3 m k3))->CB 30 #[ntV f (V a1 n c1) (V a2 zs.length c2) (V a3 m c3),ntV f (V b1 n k1) (V b2 zs.length k2) (V b3 m k3)] W Aw):=fun a1 c1 a2 c2 a3 c3 b1 k1 b2 k2 b3 k3 W h1 h2=>jCz f a1 b1 n c1 k1 a2 b2 zs c2 k2 a3 b3 m c3 k3 N Y W h1.1 h2.1 h1.2.1 h2.2.1 h1.2.2 h2.2.2 hW.kn hW.kN hW.kz hW.km hW.kY
 have y4:Hid (∀ a1 c1 a2 c2 a3 c3 b1 k1 b2 k2 b3 k3 W,(Rd W (qR n NW) (V a1 n c1)/\jH W a2 zs.length zs/\Rd W (qI mm YW) (V a3 mm c3))->(Rd W (qR n NW) (V b1 n k1)/\jH W b2 zs.length zs/\Rd W (qI mm YW) (V b3 mm k3))->CB 30 #[ntV f (V a1 n c1) (V a2 zs.length c2) (V a3 mm c3),ntV f (V b1 n k1) (V b2 zs.length k2) (V b3 mm k3)] W Aw):=fun a1 c1 a2 c2 a3 c3 b1 k1 b2 k2 b3 k3 W h1 h2=>jCz f a1 b1 n c1 k1 a2 b2 zs c2 k2 a3 b3 mm c3 k3 NW YW W h1.1 h2.1 h1.2.1 h2.2.1 h1.2.2 h2.2.2 a0.kn a0.kN a0.kz a0.km a0.kY
 have t6:Hid (∀ a1 c1 a2 c2 W,Rd W (JK mo O) (V a1 mo c1)->Rd W (JK mo O) (V a2 mo c2)->CB 39 #[V a1 mo c1,V a2 mo c2] W Aw):=fun a1 c1 a2 c2 W h1 h2=>jHh a1 a2 mo c1 c2 O W h1 h2 f2 f4
 have a7:Hid (∀ B a1 c1 a2 c2 a3 c3 F1 F2 F3 W,NtO W B n N zs m Y (V a1 n c1) (V a2 zs.length c2) (V a3 m c3) F1 F2 F3->Ak prog 32 #[ntV f (V a1 n c1) (V a2 zs.length c2) (V a3 m c3),(1:Int)] W fun r w'=>r=Ae (mx:Int)/\Trn W w' (fun x=>F1 x\/F2 x\/F3 x)):=fun B a1 c1 a2 c2 a3 c3 F1 F2 F3 W h=>by
  have:=jHu f B n N zs m Y a1 a2 a3 c1 c2 c3 F1 F2 F3 W h hW
  rw[s4.out] at this;exact this.mono fun r w' k=>⟨k.1,k.2.2⟩
 have z6:Hid (∀ B v F W,Ow W B (JK mo O) v F->Ak prog 40 #[v,(mx:Int)] W fun r w'=>r=Ae (mp:Int)/\Trn W w' F):=fun B v F W h=>by
  have:=jJz B v mo O mx F W h f2 f4 (by have:=ofo_tot mx O mo;omega)
  rw[p6.out] at this;exact this
 have y6:Hid (∀ B a1 c1 a2 c2 a3 c3 F1 F2 F3 W,NtQ W B n NW zs mm YW (V a1 n c1) (V a2 zs.length c2) (V a3 mm c3) F1 F2 F3->Ak prog 32 #[ntV f (V a1 n c1) (V a2 zs.length c2) (V a3 mm c3),(1:Int)] W fun r w'=>r=Ae (mq:Int)/\NtQ w' B n (XU 1 NW) (jW (mq1 n NW) zs.length) mm (zG (mq2 n NW zs) YW) (V a1 n c1) (V a2 zs.length c2) (V a3 mm c3) F1 F2 F3/\Trn W w' (fun x=>F1 x\/F2 x\/F3 x)):=fun B a1 c1 a2 c2 a3 c3 F1 F2 F3 W h=>by
  have:=jEy f B n NW zs mm YW a1 a2 a3 c1 c2 c3 F1 F2 F3 W h a0
  rw[r4.out] at this;exact this
 have v6:Hid (∀ a1 c1 a2 c2 a3 c3 W,Rd W (qR n (XU 1 NW)) (V a1 n c1)->jH W a2 zs.length (jW (mq1 n NW) zs.length)->Rd W (qI mm (zG (mq2 n NW zs) YW)) (V a3 mm c3)->CB 34 #[ntV f (V a1 n c1) (V a2 zs.length c2) (V a3 mm c3),(1:Int)] W (mq:Int)):=fun a1 c1 a2 c2 a3 c3 W k1 k2 k3=>by
  have:=jHq f n NW zs mm YW a1 a2 a3 c1 c2 c3 W k1 k2 k3 ⟨a0.kn,a0.kN,a0.kz,a0.km,a0.kY,a0.kq⟩
  rw[r4.out] at this;exact this
 have np:¬ ((mp:Int)<0):=by omega
 have nq:¬ ((mq:Int)<0):=by omega
 have i8:((mq:Int) !=(mq:Int))=Av:=by simp
 go_enter func6,ntmps6
 go_upto_region 2 with fail
 rw[<-s0.out,<-n1.out];go_wp2_with (refine Bb rfl 63 _ rfl B1 rfl 63 #[f,V a n c,V l zs.length d,V e m g] (0,0) _ ?_ Ei rfl Tryz.infoNtL2 ?_;exact p0)
 refine CM KZ.out fun w1 b1=>?_
 have t4:=hd (p0.below b1 p0.lt);have v0:=hd (jA t3 b1);go_wp2_with fail
 refine CM (x1 _ v0) fun w2 b2=>?_
 have f3:=hd (t4.below b2 t4.lt);have u3:=hd (jA v0 b2);go_upto_region 8 with fail
 have i7:Hid _:=u1 w2 (KA _ u3);go_wp2_with (refine Bb rfl 63 _ rfl B1 rfl 63 #[f,V a n c,V l zs.length d,V e m g] (0,0) _ ?_ Ei rfl Tryz.infoNtL2 ?_;exact f3)
 refine Ax i7.out ?_;rintro e' w3 ⟨y1,y2,y3,rfl,⟨_,_,_,O3,_⟩,b3⟩;have i0:Hid (Rd w3 (qR n N) (V y1 n n)/\jH w3 y2 zs.length zs/\Rd w3 (qI m Y) (V y3 m m)):=⟨O3.n.rd,qL.1 O3.z.rd,O3.y.rd⟩;have x3:=hd b3;have b4:Hid _:=v1 w3 (p1 _ (jA u3 b3));go_wp2_with fail
 refine Ax b4.out ?_;rintro e' d8 ⟨yO,rfl,O3,b3⟩;have a4:Hid _:=h7 y1 y2 y3 yO d8 ⟨i0.1.below b3,i0.2.1.below b3,i0.2.2.below b3⟩ O3.rd;have z3:=hd (jA x3 b3);go_wp2_with fail
 refine Ax a4.out ?_;rintro e' w3 ⟨uA,b0,uB,d0,uC,c0,rfl,d4,b3⟩;obtain⟨E,HE⟩:=nmH w3.1.size;obtain⟨w4,i3⟩:=nmH (w3.alloc (J #[f,V uA n b0,V uB zs.length d0,V uC mm c0] 48));have e1:=bl1 i3;have hE:=(jZ i3 HE).out;have hR:=d4.below e1;have hb:=jA z3 (jA b3 e1);have h3:=f3.below hb f3.lt;have x0:=hd (jA u3 hb);have KE:Hid (∀ W,Ab w4 w4 W->Row W E 48 #[f,V uA n b0,V uB zs.length d0,V uC mm c0]/\Row W B1 63 #[f,V a n c,V l zs.length d,V e m g]/\(Rd W (qR n NW) (V uA n b0)/\jH W uB zs.length zs/\Rd W (qI mm YW) (V uC mm c0))/\jN4 W a n c l zs e m g N Y/\Rd W (JK mo O) (V oa mo co)):=fun W hW=>⟨hE.below hW hE.lt,h3.below hW h3.lt,⟨(hR.below hW).n.rd,qL.1 (hR.below hW).z.rd,(hR.below hW).y.rd⟩,KA _ (jA x0 hW),p1 _ (jA x0 hW)⟩
 have q6:=hd h3;have j7:Hid _:=u1 w4 (KA _ x0);go_wp2_with (rw[<-i3.out,<-HE.out];refine Bb rfl 63 _ rfl B1 rfl 63 #[f,V a n c,V l zs.length d,V e m g] (0,0) _ ?_ Ei rfl Tryz.infoNtL2 ?_;exact q6)
 refine Ax j7.out ?_;rintro e' w5 ⟨g1,g2,g3,rfl,⟨X1,X2,X3,O5,w7⟩,b5⟩;obtain⟨X,HX⟩:=nmH w5.1.size;obtain⟨w6,l3⟩:=nmH (w5.alloc (J #[f,V (Q g1 0 I) n n,V (Q g2 0 I) zs.length zs.length,V (Q g3 0 I) m m] 48));have r5:=bl1 l3;have v3:=hd (jA b5 r5);have n3:=jZ l3 HX;have c7:=hd (O5.below r5);have p4:Hid (∀ x,X1 x\/X2 x\/X3 x->w4.1.size<=x/\x<X):=fun x hx=>by rw[HX.out];exact w7 x hx
 have k7:Hid _:=v1 w6 (KE _ v3).2.2.2.2;go_wp2_with fail
 rw[<-l3.out,<-HX.out];refine Ax k7.out ?_;rintro e' w8 ⟨gO,rfl,O7,z1⟩;obtain⟨bg,n0⟩:=nnH w8.1.size;have p3:=hd (n3.below z1 n3.lt);have r6:=hd (jA v3 z1);have s1:=hd (c7.below z1);obtain⟨bo,o4⟩:=nnH w6.1.size;have h5:Hid (∃ B,Ow w8 B (JK mo O) (V gO mo mo) (rng bo bg)):=⟨_,by rw[<-o4.out,<-n0.out];exact O7⟩;have o0:Hid ((∀ x,X1 x\/X2 x\/X3 x->w4.1.size<=x/\x<bg/\x≠X)/\(∀ x,rng bo bg x->w4.1.size<=x/\x<bg/\x≠X)/\X<bg/\w4.1.size<=bg/\(∀ x,X1 x\/X2 x\/X3 x->¬ rng bo bg x)):=by
  have l1:=n3.lt;have l4:=z1.size;have l5:=v3.size;have l6:=o4.out;have l7:=n0.out;refine⟨fun x k=>?_,fun x k=>?_,by omega,by omega,fun x k q=>?_⟩
  .have k1:=p4 x k;omega
  .have k1:=k.1;have k2:=k.2;omega
  .have k1:=p4 x k;have k2:=q.1;omega
 have s6:Hid _:=a5 g1 g2 g3 gO w8 ⟨s1.n.rd,qL.1 s1.z.rd,s1.y.rd⟩ (by obtain⟨B,q⟩:=h5.out;exact q.rd);go_wp2_with (refine Bb rfl 48 _ rfl X rfl 48 #[f,V (M ⟨g1,0,I⟩) n n,V (M ⟨g2,0,I⟩) zs.length zs.length,V (M ⟨g3,0,I⟩) m m] (0,0) _ ?_ Bp rfl Tryz.infoNt ?_;exact p3)
 refine Ax s6.out ?_;rintro e' w9 ⟨h1,k1,b2,k2,b3,k3,rfl,⟨F1,F2,F3,O9⟩,b9⟩;obtain⟨G,HG⟩:=nmH w9.1.size;obtain⟨f1,t0⟩:=nmH (w9.alloc (J #[f,V (Q h1 0 I) n k1,V b2 zs.length k2,V b3 mm k3] 48));have p2:=bl1 t0;have k0:=jA b9 p2;have g0:Hid (NrF w4 X bg G f n m mm zs g1 g2 g3 h1 k1 b2 k2 b3 k3 NW zs YW f1):=by
  refine⟨jA r6 k0,p3.below k0 p3.lt,by rw[t0.out,HG.out];exact Row.new w9 _ _,F1,F2,F3,?_,fun x hx=>⟨by rw[<-n0.out];exact(O9.f x hx).1,by rw[HG.out];exact(O9.f x hx).2⟩⟩;have:=O9.below p2
  rw[n0.out] at this;exact this
 have q4:Hid (bg<=G):=by show bg<=G;rw[<-n0.out,HG.out];exact b9.size
 have z0:=hd (s1.below k0);have j0:Hid (∃ B,Ow f1 B (JK mo O) (V gO mo mo) (rng bo bg)):=by obtain⟨B,q⟩:=h5.out;exact⟨B,q.below k0⟩
 have x4:Hid (∀ W,NrF w4 X bg G f n m mm zs g1 g2 g3 h1 k1 b2 k2 b3 k3 NW zs YW W->CB 30 #[ntV f (V (Q h1 0 I) n k1) (V b2 zs.length k2) (V b3 mm k3),ntV f (V uA n b0) (V uB zs.length d0) (V uC mm c0)] W Aw):=fun W hF=>by
  obtain⟨_,_,_,q,_⟩:=hF.og;exact y4 _ _ _ _ _ _ _ _ _ _ _ _ W ⟨q.n.rd,qL.1 q.z.rd,q.y.rd⟩ (KE _ hF.bw).2.2.1
 have m5:Hid _:=(KE _ g0.bw).1;go_wp2_with (first|((try rw[<-t0.out,<-HG.out]);refine Bb rfl 48 _ rfl G rfl 48 #[f,V (M ⟨h1,0,I⟩) n k1,V b2 zs.length k2,V b3 mm k3] (0,0) _ ?_ Bp rfl Tryz.infoNt ?_;exact g0.rg)|(refine Bb rfl 48 _ rfl E rfl 48 #[f,V uA n b0,V uB zs.length d0,V uC mm c0] (0,0) _ ?_ Bp rfl Tryz.infoNt ?_;exact m5))
 refine CM (x4 _ g0) fun w9 b9=>?_
 have F9:=hd (g0.below b9);have t1:=hd (z0.below b9);have f7:Hid (∃ B,Ow w9 B (JK mo O) (V gO mo mo) (rng bo bg)):=by obtain⟨B,q⟩:=j0.out;exact⟨B,q.below b9⟩
 go_upto_region 14 with fail
 go_cut [44] from 40 to 44 (fun v wx=>Hid (v=.bool Av/\Ab w9.1.size w9 wx))
 case first=>
  have RB:=(KE _ F9.bw).2.1;have RX:=F9.rx;obtain⟨z5,a6,b6,d6⟩:=RB.c4 0 1 2 3;obtain⟨j6,k6,m6,n6⟩:=RX.c4 0 1 2 3;simp at z5 j6 a6 k6 b6 m6 d6 n6;have lB:=RB.lt;have lX:=RX.lt;have m7:Hid _:=u1 w9.drew (KE w9.drew (Cz F9.bw 1)).2.2.2.1;have e7:Hid (∀ W,Ab w9.1.size w9 W->Rd W (qR n N) (V (Q g1 0 I) n n)/\jH W (Q g2 0 I) zs.length zs/\Rd W (qI m Y) (V (Q g3 0 I) m m)):=fun W hW=>⟨t1.n.rd.below hW,(qL.1 t1.z.rd).below hW,t1.y.rd.below hW⟩
  have KS:Hid (∀ W,Ab w9.1.size w9 W->(W.cell? B1=M (Ao Ar f)/\W.cell? (Q B1 1 I)=M (V a n c)/\W.cell? (Q B1 2 I)=M (V l zs.length d)/\W.cell? (Q B1 3 I)=M (V e m g))/\W.cell? X=M (Ao Ar f)/\W.cell? (Q X 1 I)=M (V (Q g1 0 I) n n)/\W.cell? (Q X 2 I)=M (V (Q g2 0 I) zs.length zs.length)/\W.cell? (Q X 3 I)=M (V (Q g3 0 I) m m)):=fun W hW=>⟨⟨(hW.cell (p:=B1) lB).trans z5,(hW.cell (p:=Q B1 1 I) lB).trans a6,(hW.cell (p:=Q B1 2 I) lB).trans b6,(hW.cell (p:=Q B1 3 I) lB).trans d6⟩,(hW.cell (p:=X) lX).trans j6,(hW.cell (p:=Q X 1 I) lX).trans k6,(hW.cell (p:=Q X 2 I) lX).trans m6,(hW.cell (p:=Q X 3 I) lX).trans n6⟩
  obtain⟨⟨q0,q1,q2,q3⟩,y0,y1,y2,y3⟩:=KS w9 (Az _ _);have hdr:=jD w9;go_region_held3 (fun w'=>(w'.cell? (Q B1 0 I)=M (Ao Ar f)/\w'.cell? (Q B1 1 I)=M (V a n c)/\w'.cell? (Q B1 2 I)=M (V l zs.length d)/\w'.cell? (Q B1 3 I)=M (V e m g))/\w'.cell? (Q X 0 I)=M (Ao Ar f)/\w'.cell? (Q X 1 I)=M (V (Q g1 0 I) n n)/\w'.cell? (Q X 2 I)=M (V (Q g2 0 I) zs.length zs.length)/\w'.cell? (Q X 3 I)=M (V (Q g3 0 I) m m)) (exact KS.out _ (by with_reducible assumption)) ((first|(go_at_call 28;refine Ax (m7.out) ?_;rintro e' v7 ⟨j1,j2,j3,rfl,⟨_,_,_,O7,_⟩,s5⟩;have b7:=jC s5;clear s5;have d7:Hid (Rd v7 (qR n N) (V j1 n n)/\jH v7 j2 zs.length zs/\Rd v7 (qI m Y) (V j3 m m)):=⟨O7.n.rd,qL.1 O7.z.rd,O7.y.rd⟩;clear O7)|(guard_hyp b7;go_at_call 30;refine Ax (u6.out _ _ _ _ _ _ _ _ _ _ _ _ _ (e7.out _ b7) d7.out) ?_;rintro e' v8 ⟨rfl,b8⟩;have t7:=jA b7 b8;clear b8)))
  all_goals
   go_wp2_with fail
   go_meet
   exact⟨rfl,t7⟩
 obtain⟨rfl,bc⟩:=hcut.out;obtain⟨f1,y5⟩:∃ x,x=wc:=⟨_,rfl⟩;subst y5;have g0:=hd (F9.below bc);have z0:=hd (t1.below bc);have j0:Hid (∃ B,Ow f1 B (JK mo O) (V gO mo mo) (rng bo bg)):=by obtain⟨B,q⟩:=f7.out;exact⟨B,q.below bc⟩
 have j5:Hid _:=v1 f1 (KE _ g0.bw).2.2.2.2;go_wp2_with fail
 refine Ax j5.out ?_;rintro e' y7 ⟨jO,rfl,n7,q5⟩;have i5:Hid _:=t6 _ mo _ mo y7 (by obtain⟨B,q⟩:=j0.out;exact q.rd.below q5) n7.rd;have v4:=hd q5;go_wp2_with fail
 refine CM i5.out fun e6 o7=>?_
 have bc:=jA v4 o7;have k4:=hd (g0.below bc);have d5:Hid _:=a7 w4 _ n _ zs.length _ m X1 X2 X3 e6 (z0.below bc);have g5:Hid (∃ B,Ow e6 B (JK mo O) (V gO mo mo) (rng bo bg)):=by obtain⟨B,q⟩:=j0.out;exact⟨B,q.below bc⟩
 go_wp2_with (refine Bb rfl 48 _ rfl X rfl 48 #[f,V (M ⟨g1,0,I⟩) n n,V (M ⟨g2,0,I⟩) zs.length zs.length,V (M ⟨g3,0,I⟩) m m] (0,0) _ ?_ Bp rfl Tryz.infoNt ?_;exact k4.rx)
 refine CM d5.out fun f6 p5=>?_
 have o6:=hd (k4.turnX p5 o0.1 q4);have e5:Hid (Ak prog 40 #[V gO mo mo,(mx:Int)] f6 fun r w'=>r=Ae (mp:Int)/\NrF w4 X bg G f n m mm zs g1 g2 g3 h1 k1 b2 k2 b3 k3 NW zs YW w'):=by
  obtain⟨B,q⟩:=g5.out;refine(z6 B _ _ f6 (q.turned p5 (fun g h1 h2=>o0.2.2.2.2 g h2 h1))).mono ?_;rintro r w' ⟨rfl,t⟩;exact⟨rfl,o6.turnX t o0.2.1 q4⟩
 go_wp2_with fail
 refine CM e5.out fun j8 m4=>?_
 have i1:=hd m4;have n5:=(KE _ i1.bw).1;obtain⟨r0,r1,r2,r3⟩:=i1.rg.c4 0 1 2 3;obtain⟨m0,m1,m2,m3⟩:=n5.c4 0 1 2 3;simp at r0 r1 r2 r3 m0 m1 m2 m3;go_wp2_with fail
 refine CM (x4 _ i1) fun g6 p7=>?_
 have s2:=hd (i1.below p7);have f5:Hid (Ak prog 32 #[ntV f (V (Q h1 0 I) n k1) (V b2 zs.length k2) (V b3 mm k3),(1:Int)] g6 fun r w'=>r=Ae (mq:Int)/\NrF w4 X bg G f n m mm zs g1 g2 g3 h1 k1 b2 k2 b3 k3 (XU 1 NW) (jW (mq1 n NW) zs.length) (zG (mq2 n NW zs) YW) w'):=by
  obtain⟨F1,F2,F3,q,hl⟩:=s2.og;refine(y6 bg _ k1 _ k2 _ k3 F1 F2 F3 g6 q).mono ?_;rintro r w' ⟨rfl,q',t'⟩;exact⟨rfl,s2.turnG t' hl q' o0.2.2.2.1 o0.2.2.1⟩
 have z4:Hid (∀ W,NrF w4 X bg G f n m mm zs g1 g2 g3 h1 k1 b2 k2 b3 k3 (XU 1 NW) (jW (mq1 n NW) zs.length) (zG (mq2 n NW zs) YW) W->CB 34 #[ntV f (V (Q h1 0 I) n k1) (V b2 zs.length k2) (V b3 mm k3),(1:Int)] W (mq:Int)):=fun W hF=>by
  obtain⟨_,_,_,q,_⟩:=hF.og;exact v6 _ k1 _ k2 _ k3 W q.n.rd (jKw q.z.rd) q.y.rd
 go_upto_region 24 with fail
 go_wp2_with (refine Bb rfl 48 _ rfl G rfl 48 #[f,V (M ⟨h1,0,I⟩) n k1,V b2 zs.length k2,V b3 mm k3] (0,0) _ ?_ Bp rfl Tryz.infoNt ?_;exact s2.rg)
 refine CM f5.out fun k8 n4=>?_
 have t2:=hd n4;go_upto_region 26 with fail
 go_wp2_with (refine Bb rfl 48 _ rfl G rfl 48 #[f,V (M ⟨h1,0,I⟩) n k1,V b2 zs.length k2,V b3 mm k3] (0,0) _ ?_ Bp rfl Tryz.infoNt ?_;exact t2.rg)
 refine CM (z4 _ t2) fun z7 q7=>?_
 have u2:=hd (t2.below q7);have u4:=hd ((KE _ u2.bw).2.1);have n2:=hd (jA x0 u2.bw);have k5:Hid _:=u1 z7 (KA _ n2);go_wp2_with (refine Bb rfl 63 _ rfl B1 rfl 63 #[f,V a n c,V l zs.length d,V e m g] (0,0) _ ?_ Ei rfl Tryz.infoNtL2 ?_;exact u4)
 refine Ax k5.out ?_;rintro e' i2 ⟨y1,y2,y3,rfl,⟨_,_,_,O3,_⟩,f0⟩;have i0:Hid (Rd i2 (qR n N) (V y1 n n)/\jH i2 y2 zs.length zs/\Rd i2 (qI m Y) (V y3 m m)):=⟨O3.n.rd,qL.1 O3.z.rd,O3.y.rd⟩;have x3:=hd f0;have b4:Hid _:=v1 i2 (p1 _ (jA n2 f0));go_wp2_with fail
 refine Ax b4.out ?_;rintro e' h6 ⟨yO,rfl,O3,f0⟩;have a4:Hid _:=x6 y1 y2 y3 yO h6 ⟨i0.1.below f0,i0.2.1.below f0,i0.2.2.below f0⟩ O3.rd;have z3:=hd (jA x3 f0);go_wp2_with fail
 refine Ax a4.out ?_;rintro e' i6 ⟨sA,h4,sB,i4,sC,j4,rfl,d4,f0⟩;obtain⟨H,HH⟩:=nmH i6.1.size;obtain⟨a8,u0⟩:=nmH (i6.alloc (J #[f,V sA n h4,V sB zs.length i4,V sC mm j4] 48));have e1:=bl1 u0;have hH:=(jZ u0 HH).out;have hS:=d4.below e1;have hb:=jA z3 (jA f0 e1);have v2:=hd (u2.below hb);have RH:=hd hH;have o5:Hid _:=(KE _ v2.bw).1;have KQ:Hid _:=y4 sA h4 sB i4 sC j4 uA b0 uB d0 uC c0 a8 ⟨hS.n.rd,qL.1 hS.z.rd,hS.y.rd⟩ (KE _ v2.bw).2.2.1;go_wp2_with (first|((try rw[<-u0.out,<-HH.out]);refine Bb rfl 48 _ rfl H rfl 48 #[f,V sA n h4,V sB zs.length i4,V sC mm j4] (0,0) _ ?_ Bp rfl Tryz.infoNt ?_;exact RH)|(refine Bb rfl 48 _ rfl E rfl 48 #[f,V uA n b0,V uB zs.length d0,V uC mm c0] (0,0) _ ?_ Bp rfl Tryz.infoNt ?_;exact o5))
 refine CM KQ.out fun l8 r7=>?_
 have x2:=hd (v2.below r7);go_upto_region 35 with fail
 go_wp2_with (refine Bb rfl 48 _ rfl G rfl 48 #[f,V (M ⟨h1,0,I⟩) n k1,V b2 zs.length k2,V b3 mm k3] (0,0) _ ?_ Bp rfl Tryz.infoNt ?_;exact x2.rg)
 refine CM (z4 _ x2) fun m8 s7=>?_
 have KF:=hd (jA x0 (jA x2.bw s7));go_wp2
 go_ret
 exact⟨rfl,KF⟩
end Go.Proofs.YtcaejlalnjnifaaGreat
namespace Go.Proofs.YtcaejlalnjnifaaGreat.fnExactNetRun
open Go.ChangeShapes Go.WideShapes Go.ChangeAt Go.RowKit
set_option linter.unusedVariables false
theorem own:ownKnob Tryz.prog.godebug=I:=by kernel_rfl
theorem laidOut:laidOutB prog=Aw:=by kernel_rfl
set_option maxRecDepth 100000 in
theorem lifted (os:Os) (c0:os.Started) (H:Type) (enc:TypeId×Aj->H):ReturnsInHanded {} checked os 6 .any (Rows.fnExactNetRunSpec.pre6 enc prog f6 Rows.fnExactNetRunRow.domain Av) (Rows.fnExactNetRunSpec.post enc prog f6 Av Aw Av Av):=by
 refine returnsInHanded_of_change (C:=checked) own c0 (by kernel_rfl) func6
  (ChangeSpec.witness6 (enc:=enc) (C:=checked) Av ⟨#[],#[Ai #[(),V I 0 0,V I 0 0,V I 0 0],V I 0 0],[]⟩ 8 (by kernel_rfl) (by kernel_rfl) (by kernel_rfl) (by kernel_rfl)) ?_
 intro W base args ds gs n0 b0 hW o1 _;have a0:∀ (j:Nat) t v,Tryz.f6.params[j]?=M t->args[j]?=M v->Value.okWide prog W .any base t v:=b0;have o0:=hW;obtain⟨p,q,j0,hV,rfl,u1,x1⟩:=hW;have hA:DataW.TrodAll enc prog W 0 (fun _=>Aw) Aw Tryz.f6.params.toList args.toList ds p:=j0;rw[params6] at hA a0;obtain⟨v0,y1,d0,s1,p0,q0,s0,rfl,rfl,h0,r0⟩:=trodAll_cons hA;obtain⟨v1,z1,d1,t1,p1,q1,rfl,rfl,rfl,h1,r1⟩:=trodAll_cons r0;obtain⟨rfl,rfl,rfl⟩:=trodAll_nil r1;obtain rfl:args=#[v0,v1]:=by cases args;simp_all
 obtain⟨rfl,rfl⟩:=trodVars_none hV;obtain⟨g0,rfl,_,_⟩:∃ cs,v0=Ai cs/\cs.size=Tryz.prog.cellsOf 63/\Row.okWide prog W .any base 63 cs:=by
  have:=a0 0 63 v0 rfl rfl
  simpa [Value.okWide,Tryz.underlying63] using this
 have k0:=h0;have t0:∀ x∈p0,x.block<W:=by obtain⟨m,hm⟩:=k0;exact DataW.trod_lt m _ _ _ hm
 obtain⟨f1,z0,m1,b1,i1,n1,c1,e1,j1,g1,x0,y0,m0,w0⟩:∃ (f:Int) (a:OA) (n c:Nat) (l:OA) (zs:List Int) (d:Nat) (e:OA) (m g:Nat) (N:Nat->Nd) (Y:Nat->Sy),g0.toList=[Ao Ar f,V a n c,V l zs.length d,V e m g]/\jN4 W a n c l zs e m g N Y:=by
  obtain⟨i0,hf⟩:=h0;exact jMx (by simpa [Value.cells] using hf)
 obtain⟨l0⟩:=g0;obtain rfl:l0=_:=m0;obtain⟨a1,f0,e0,rfl⟩:=okWide_slice underlying77 (a0 1 77 v1 rfl rfl);have k1:=h1;have u0:∀ x∈p1,x.block<W:=by obtain⟨m,hm⟩:=k1;exact DataW.trod_lt m _ _ _ hm
 obtain⟨O1,w1⟩:∃ O:Nat->Op9,jSt W a1 f0 e0 O:=by
  obtain⟨i0,hf⟩:=h1;exact jE3 (by simpa [Value.cells] using hf)
 clear j0 b0;refine(walk_FnExactNetRun f1 z0 m1 b1 i1 n1 c1 e1 j1 g1 x0 y0 a1 f0 e0 O1 W w0 w1).mono fun e W' ⟨he,bel⟩=>?_
 subst he;exact⟨_,rfl,_,_,_,[],_,[],o0,trodAll_mk1 (shut_bool underlying4 _),(trodAll_cons_mk (Below.trod laidOut (by kernel_rfl) (Dn (by kernel_rfl)) k0 bel t0) (trodAll_cons_mk (Below.trod laidOut (by kernel_rfl) (Dn (by kernel_rfl)) k1 bel u0) trodAll_mk0)),rfl,bel.frame _,fun h=>by cases h⟩
theorem over:Rows.fnExactNetRunRow.holds Tryz.pinned (OpenSpec.ofChange Rows.fnExactNetRunSpec):=
 OpenClaim.holds_of_wide 6 Tryz.f6 rfl rfl rfl rfl rfl rfl rfl ⟨rfl,rfl,rfl,rfl,rfl⟩ rfl rfl rfl rfl rfl (by kernel_rfl) Tryz.func6 (by kernel_rfl)
  (Dn (by kernel_rfl)) (by unfold Func.isWrapper;first|(rw[A6 (by decide +kernel)];kernel_rfl)|(rw[A5 (by decide +kernel)];exact⟨rfl,rfl⟩))
  (fun os a0 H enc _=>lifted os a0 H enc)
theorem proved:Rows.FnExactNetRunSaid:=over
#print axioms proved
end Go.Proofs.YtcaejlalnjnifaaGreat.fnExactNetRun
